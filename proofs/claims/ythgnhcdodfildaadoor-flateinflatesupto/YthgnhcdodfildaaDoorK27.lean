/- dynamic: its walk. -/
import Derived.Test.YthgnhcdodfildaaDoorK26
import Derived.Deep.DeepCutAuto
import Derived.Test.YthgnhcdodfildaaDoorFixM
namespace Go.Proofs.YthgnhcdodfildaaDoor
open Go.RowKit Go.Shelf
attribute [local go_sem ↓] Go.wp_at_zero Go.wp_at_succ

/-- Parts of a row of lengths. -/
theorem OwnN.parts {base : Nat} {w : World} {so : Option Addr} {sc : Nat} {D : List Nat} (h : OwnN base w so sc D) (k : Nat) (h0 : 0 < k) (hk : k < D.length) : ∃ gg, so = some ⟨gg, 0, none⟩ ∧ base ≤ gg ∧ D.length ≤ sc ∧ sc ≤ maxLen ∧ Ns .i64 w (.slice (some ⟨gg, 0, none⟩) k sc) (up (D.take k)) ∧ Ns .i64 w (.slice (some ⟨gg, k, none⟩) (D.length - k) (sc - k)) (up (D.drop k)) := by
  rcases h.2 with ⟨hv, hz⟩ | ⟨g, cap, cur, hv, hb, hg, h1, h2, _⟩
  · omega
  · have hc := fun i x hi => OwnN.cells h i x hi
    injection hv with e1 e2 e3
    subst e1 e3
    have lt : (up (D.take k)).length = k := by simp [up]; omega
    have ld : (up (D.drop k)).length = D.length - k := by simp [up]
    refine ⟨g, rfl, hb, h1, h2, ⟨some ⟨g, 0, none⟩, sc, by rw [lt], by omega, h2, by simp, Or.inr ⟨g, 0, rfl, lt_of_block hg, fun i hi => ?_⟩⟩, ⟨some ⟨g, k, none⟩, sc - k, by rw [ld], by omega, by omega, by simp, Or.inr ⟨g, k, rfl, lt_of_block hg, fun i hi => ?_⟩⟩⟩
    · rw [lt] at hi
      obtain ⟨g', e, _, _, c⟩ := hc i D[i] (by simp [show i < D.length by omega])
      injection e with e; injection e with e
      subst e
      rw [Nat.zero_add, c]
      simp [up]
    · rw [ld] at hi
      obtain ⟨g', e, _, _, c⟩ := hc (k + i) D[k + i] (by simp [show k + i < D.length by omega])
      injection e with e; injection e with e
      subst e
      rw [c]
      simp [up]
theorem code_is (M : List Nat) (h : chk (up M) = 0) : Code M := by
  obtain ⟨M', hM, hMc⟩ := code_of _ h
  have hMe : M' = M := by
    have := congrArg (List.map Int.toNat) hM
    rw [up_toNat, up_toNat] at this
    exact this.symm
  rw [← hMe]
  exact hMc
set_option maxRecDepth 100000 in
set_option maxHeartbeats 4000000 in
theorem dynamic_any (fb rb g p : Nat) (B sd : List Nat) (most : Int) (sv : Value) (lt ds : Option Addr) (w : World) (h : InfIs w fb rb g B p most sv sd lt ds) (hTo : Told w) (hrT : rb ≠ toldB) (hB : ∀ x ∈ B, x < 256) (hp : p ≤ 8 * B.length) (hl : B.length ≤ 1073741824) (hm : 0 ≤ most) (hm2 : most ≤ 9223372036854775807) (hsd : sd.length ≤ 258 * p) (F : Nat) (hF : 8 * B.length < p + F) :
    Calls Tryd.prog 38 #[.pointer (some ⟨fb, 0, none⟩)] w fun e w' => e = .returned (.int .i64 (((dynA B most F p sd).1 : Nat) : Int)) ∧ (∃ sv', SdIs w' fb rb most sv' (dynA B most F p sd).2.2 lt ds ∧ ((dynA B most F p sd).1 = 0 → InfIs w' fb rb g B (dynA B most F p sd).2.1 most sv' (dynA B most F p sd).2.2 lt ds)) ∧ Fr (iS w fb rb) w w' := by
  have C1 := ibits_any fb rb g p 14 B sd most sv lt ds w h hB hp (by omega) (by decide)
  obtain ⟨R, hR⟩ : ∃ R, dynA B most F p sd = R := ⟨_, rfl⟩
  rw [hR]
  unfold dynA at hR
  have HI : Hid (InfIs w fb rb g B p most sv sd lt ds) := h
  by_cases c1 : 8 * B.length < p + 14
  · rw [if_pos c1] at hR
    have HRR : Hid (R = (33, p, sd)) := hR.symm
    have hb : bitA B p 14 = (0, 33, p) := by unfold bitA; rw [if_neg (by omega)]
    rw [hb] at C1
    clear hR h hb
    go_enter Tryd.func38, Tryd.ntmps38
    go_wp2_with (go_at_call 35; refine C1.mono ?_; rintro e w1 ⟨rfl, hI1, hF1⟩)
    go_ret
    rw [HRR.out]
    exact ⟨rfl, ⟨sv, HI.out.sd hF1, fun h => by simp at h⟩, hF1.toI⟩
  · rw [if_neg c1] at hR
    have hb : bitA B p 14 = (numAt B p 14, 0, p + 14) := by unfold bitA; rw [if_pos (by omega)]
    rw [hb] at C1
    have hn14 := bitA_lt B p 14
    rw [hb] at hn14
    simp only at hn14 C1
    generalize numAt B p 14 = n at *
    have a1 : bits .and .i64 (n : Int) 31 = ((n % 32 : Nat) : Int) := by
      rw [show (31 : Int) = ((31 : Nat) : Int) from rfl, i64_and_nat n 31 (by omega) (by decide), show (31 : Nat) = 2 ^ 5 - 1 from rfl, Nat.and_two_pow_sub_one_eq_mod]
    have a2 : bits .and .i64 ((n : Int) / 32) 31 = ((n / 32 % 32 : Nat) : Int) := by
      rw [show (n : Int) / 32 = ((n / 32 : Nat) : Int) by omega, show (31 : Int) = ((31 : Nat) : Int) from rfl, i64_and_nat (n / 32) 31 (by omega) (by decide), show (31 : Nat) = 2 ^ 5 - 1 from rfl, Nat.and_two_pow_sub_one_eq_mod]
    obtain ⟨lit, hlit⟩ : ∃ l, n % 32 + 257 = l := ⟨_, rfl⟩
    obtain ⟨dis, hdis⟩ : ∃ d, n / 32 % 32 + 1 = d := ⟨_, rfl⟩
    obtain ⟨told, htold⟩ : ∃ d, n / 1024 + 4 = d := ⟨_, rfl⟩
    rw [hlit, hdis, htold] at hR
    have b1 : 257 ≤ lit ∧ lit ≤ 288 := by omega
    have b2 : 1 ≤ dis ∧ dis ≤ 32 := by omega
    have b3 : 4 ≤ told ∧ told ≤ 19 := by omega
    have HA : Hid (n % 32 + 257 = lit ∧ n / 32 % 32 + 1 = dis ∧ n / 1024 + 4 = told) := ⟨hlit, hdis, htold⟩
    have HTO : Hid (Told w) := hTo
    have HR : Hid (_ = R) := hR
    clear hb hlit hdis htold h hTo hR
    go_enter Tryd.func38, Tryd.ntmps38
    go_upto_region 4 with (go_at_call 35; refine C1.mono ?_; rintro e w1 ⟨rfl, hI1, hF1⟩)
    go_cut [5, 6, 7] (fun a b c wc => a = .int .i64 (lit : Int) ∧ b = .int .i64 (dis : Int) ∧ c = .int .i64 (told : Int) ∧ wc = w1)
    case first =>
      go_wp2_with fail
      all_goals go_meet
      all_goals exact ⟨by congr 1 <;> (have := HA.out; omega), by congr 1 <;> (have := HA.out; omega), by congr 1 <;> (have := HA.out; omega), rfl⟩
    obtain ⟨rfl, rfl, rfl, hwc⟩ := hcut
    have hwc' := hwc.symm
    subst hwc'
    have hlitI : (257 : Int) ≤ (lit : Int) := by omega
    have hIc := hI1
    have C2 := codeOf_any fb rb g (p + 14) told B sd most sv lt ds w1 hI1 (HTO.out.keep hF1 (fun e => hrT e.symm)) hrT hB (by omega) (by omega) b3.2
    have HI1 : Hid (InfIs w1 fb rb g B (p + 14) most sv sd lt ds) := hI1
    clear hI1 hIc C1 a1 a2
    by_cases c2 : 286 < lit
    · have HRR : Hid (R = (30, p, sd)) := by
        have := HR.out
        rw [if_pos (Or.inl c2)] at this
        exact this.symm
      have c2I : (286 : Int) < (lit : Int) := by omega
      clear HR C2
      go_wp2_with fail
      go_ret
      rw [HRR.out]
      exact ⟨rfl, ⟨sv, HI.out.sd hF1, fun h => by simp at h⟩, hF1.toI⟩
    by_cases c2' : 30 < dis
    · have HRR : Hid (R = (30, p, sd)) := by
        have := HR.out
        rw [if_pos (Or.inr c2')] at this
        exact this.symm
      have c2I : (lit : Int) ≤ 286 := by omega
      have c2J : (30 : Int) < (dis : Int) := by omega
      clear HR C2
      go_wp2_with fail
      go_ret
      rw [HRR.out]
      exact ⟨rfl, ⟨sv, HI.out.sd hF1, fun h => by simp at h⟩, hF1.toI⟩
    have HR2 := HR.out
    rw [if_neg (by omega)] at HR2
    clear HR
    have c2I : (lit : Int) ≤ 286 := by omega
    have c2J : (dis : Int) ≤ 30 := by omega
    by_cases c3 : 8 * B.length < p + 14 + 3 * told
    · rw [if_pos c3] at HR2
      have HRR : Hid (R = (33, p, sd)) := HR2.symm
      have C2' : Calls Tryd.prog 55 #[.pointer (some ⟨fb, 0, none⟩), .int .i64 (told : Int)] w1 fun e w' => e = .returned (.tuple #[.pointer none, .int .i64 33]) ∧ Fr (oneB rb) w1 w' := C2.mono (by
        rintro e w' ⟨⟨_, rfl⟩ | ⟨hh, _⟩, hf⟩
        · exact ⟨rfl, hf⟩
        · omega)
      clear HR2 C2
      go_wp2_with (go_at_call 55; refine C2'.mono ?_; rintro e w2 ⟨rfl, hF2⟩)
      go_ret
      rw [HRR.out]
      exact ⟨rfl, ⟨sv, HI.out.sd (hF1.trans hF2), fun h => by simp at h⟩, (hF1.trans hF2).toI⟩
    rw [if_neg c3] at HR2
    by_cases c4 : chk (up (colL B (p + 14) told)) ≠ 0
    · rw [if_pos c4] at HR2
      have HRR : Hid (R = (31, p, sd)) := HR2.symm
      have C2' : Calls Tryd.prog 55 #[.pointer (some ⟨fb, 0, none⟩), .int .i64 (told : Int)] w1 fun e w' => e = .returned (.tuple #[.pointer none, .int .i64 31]) ∧ Fr (oneB rb) w1 w' := C2.mono (by
        rintro e w' ⟨⟨hh, _⟩ | ⟨_, _, (⟨_, rfl⟩ | ⟨hh, _⟩)⟩, hf⟩
        · omega
        · exact ⟨rfl, hf⟩
        · exact absurd hh c4)
      clear HR2 C2
      go_wp2_with (go_at_call 55; refine C2'.mono ?_; rintro e w2 ⟨rfl, hF2⟩)
      go_ret
      rw [HRR.out]
      exact ⟨rfl, ⟨sv, HI.out.sd (hF1.trans hF2), fun h => by simp at h⟩, (hF1.trans hF2).toI⟩
    rw [if_neg c4] at HR2
    have c4' := Classical.byContradiction c4
    have C2' : Calls Tryd.prog 55 #[.pointer (some ⟨fb, 0, none⟩), .int .i64 (told : Int)] w1 fun e w' => ∃ db sb, e = .returned (.tuple #[.pointer (some ⟨db, 0, none⟩), .int .i64 0]) ∧ w1.heap.size ≤ db ∧ w1.heap.size ≤ sb ∧ DecIs w' db sb (colL B (p + 14) told) ∧ InfIs w' fb rb g B (p + 14 + 3 * told) most sv sd lt ds ∧ Fr (oneB rb) w1 w' := C2.mono (by
      rintro e w' ⟨⟨hh, _⟩ | ⟨_, hI, (⟨hh, _⟩ | ⟨_, db, sb, rfl, q1, q2, q3⟩)⟩, hf⟩
      · omega
      · exact absurd c4' hh
      · exact ⟨db, sb, rfl, q1, q2, q3, hI, hf⟩)
    have hCT : Code (colL B (p + 14) told) := by
      obtain ⟨M, hM, hMc⟩ := code_of _ c4'
      have hMe : M = colL B (p + 14) told := by
        have := congrArg (List.map Int.toNat) hM
        rw [up_toNat, up_toNat] at this
        exact this.symm
      rw [← hMe]
      exact hMc
    generalize colL B (p + 14) told = T at *
    have HR3 : Hid (_ = R) := HR2
    have hrw : rb < w.heap.size := by have := HI.out.rlt; have := lt_of_block HI.out.at_; omega
    have hfw : fb < w.heap.size := lt_of_block HI.out.at_
    have hsz1 := hF1.size
    clear HR2 C2 c4 c4'
    go_upto_region 10 with (go_at_call 55; refine C2'.mono ?_; rintro e w2 ⟨db, sb, rfl, q1, q2, q3, hI2, hF2⟩)
    have C3 := ilengths_any fb rb g (p + 14 + 3 * told) db sb (lit + dis) T B sd most sv lt ds w2 hI2 q3 (by omega) (by omega) hCT hB (by omega) (by omega) (by omega)
    have hLok := lenA_ok T B (lit + dis) (lit + dis + 1) (p + 14 + 3 * told) [] (by simp) (by omega)
    have HR4 := HR3.out
    clear HR3
    obtain ⟨⟨e3, p3, L⟩, hLA⟩ : ∃ y, lenA T B (lit + dis) (lit + dis + 1) (p + 14 + 3 * told) [] = y := ⟨_, rfl⟩
    rw [hLA] at HR4 C3 hLok
    simp only at HR4 C3 hLok
    rw [show ((lit + dis : Nat) : Int) = (lit : Int) + (dis : Int) by omega] at C3
    have hF12 := hF1.trans hF2
    clear hLA
    by_cases c5 : e3 ≠ 0
    · rw [if_pos c5] at HR4
      have HRR : Hid (R = (e3, p, sd)) := HR4.symm
      have C3' : Calls Tryd.prog 56 #[.pointer (some ⟨fb, 0, none⟩), .pointer (some ⟨db, 0, none⟩), .int .i64 ((lit : Int) + (dis : Int))] w2 fun e w' => e = .returned (.tuple #[.slice none 0 0, .int .i64 (e3 : Int)]) ∧ Fr (oneB rb) w2 w' := C3.mono (by
        rintro e w' ⟨⟨_, rfl⟩ | ⟨hh, _⟩, hf⟩
        · exact ⟨rfl, hf⟩
        · exact absurd hh c5)
      have e3I : ((e3 : Int) == 0) = false := by simp; omega
      have e3J : ((e3 : Int) != 0) = true := by simp; omega
      have HC5 : Hid (e3 ≠ 0) := c5
      clear HR4 C3 c5
      go_wp2_with (go_at_call 56; refine C3'.mono ?_; rintro e w3 ⟨rfl, hF3⟩)
      go_ret
      rw [HRR.out]
      exact ⟨rfl, ⟨sv, HI.out.sd (hF12.trans hF3), fun h => absurd h HC5.out⟩, (hF12.trans hF3).toI⟩
    rw [if_neg c5] at HR4
    obtain rfl : e3 = 0 := Classical.byContradiction c5
    obtain ⟨hLl, hp3, hp3'⟩ := hLok rfl
    have C3' : Calls Tryd.prog 56 #[.pointer (some ⟨fb, 0, none⟩), .pointer (some ⟨db, 0, none⟩), .int .i64 ((lit : Int) + (dis : Int))] w2 fun e w' => ∃ so sc, e = .returned (.tuple #[.slice so L.length sc, .int .i64 0]) ∧ OwnN w2.heap.size w' so sc L ∧ InfIs w' fb rb g B p3 most sv sd lt ds ∧ Fr (oneB rb) w2 w' := C3.mono (by
      rintro e w' ⟨⟨hh, _⟩ | ⟨_, so, sc, rfl, hO, hI⟩, hf⟩
      · exact absurd rfl hh
      · exact ⟨so, sc, rfl, hO, hI, hf⟩)
    have HR5 : Hid (_ = R) := HR4
    clear HR4 C3 c5 hLok
    go_upto_region 13 with (go_at_call 56; refine C3'.mono ?_; rintro e w3 ⟨so, sc, rfl, hO3, hI3, hF3⟩)
    obtain ⟨x, hx⟩ : ∃ x, L[256]? = some x := ⟨L[256]'(by omega), by simp [show 256 < L.length by omega]⟩
    obtain ⟨g0, e0, hg1, hg2, hcx⟩ := hO3.cells 256 x hx
    obtain ⟨gg, e1, hgb, hLs, hsm, hn1, hn2⟩ := hO3.parts lit (by omega) (by omega)
    rw [e0] at e1
    obtain rfl : g0 = gg := by injection e1 with e1; injection e1
    subst e0
    have HR6 := HR5.out
    have hgd : L.getD 256 0 = x := by simp [List.getD, hx]
    rw [hgd] at HR6
    have hF13 := hF12.trans hF3
    clear HR5 e1
    by_cases c6 : x = 0
    · rw [if_pos c6] at HR6
      have HRR : Hid (R = (30, p, sd)) := HR6.symm
      subst c6
      clear HR6
      have hL256 : (256 : Int) < (L.length : Int) := by omega
      have hL256' : 256 < L.length := by omega
      clear hn1 hn2 hO3 hI3
      go_wp2_with fail
      go_ret
      rw [HRR.out]
      exact ⟨rfl, ⟨sv, HI.out.sd hF13, fun h => by simp at h⟩, hF13.toI⟩
    rw [if_neg c6] at HR6
    have c6I : ((x : Int) == 0) = false := by simp; omega
    have hL256 : (256 : Int) < (L.length : Int) := by omega
    have hL256' : 256 < L.length := by omega
    have HR7 : Hid (_ = R) := HR6
    have HN1 : Hid (Ns .i64 w3 (.slice (some ⟨g0, 0, none⟩) lit sc) (up (L.take lit))) := hn1
    have HN2 : Hid (Ns .i64 w3 (.slice (some ⟨g0, lit, none⟩) (L.length - lit) (sc - lit)) (up (L.drop lit))) := hn2
    have HI3 : Hid (InfIs w3 fb rb g B p3 most sv sd lt ds) := hI3
    clear HR6 hn1 hn2 hO3 hI3 hx hgd
    have s1 : (lit : Int) ≤ (sc : Int) := by omega
    have s2 : (lit : Int) ≤ (lit : Int) + (dis : Int) := by omega
    have s3 : ¬ sc - lit = 0 := by omega
    have s4 : (0 : Int) ≤ (lit : Int) := by omega
    have s6 : (lit : Int) + (dis : Int) ≤ (sc : Int) := by omega
    have s7 : lit + dis ≤ sc := by omega
    have s8 : lit < sc := by omega
    have s9 : ¬ sc ≤ lit := by omega
    have s10 : lit ≤ sc := by omega
    have s12 : ¬ sc = lit := by omega
    have s11 : (0 : Int) ≤ (dis : Int) := by omega
    rw [hLl, show lit + dis - lit = dis by omega] at HN2
    go_upto_region 15 with fail
    by_cases c7 : chk (up (L.take lit)) ≠ 0 ∨ chk (up (L.drop lit)) ≠ 0
    · have HRR : Hid (R = (31, p, sd)) := by
        have := HR7.out
        rw [if_pos c7] at this
        exact this.symm
      have HC : Hid (∀ w', Fr noB w3 w' → Calls Tryd.prog 52 #[.slice (some ⟨g0, 0, none⟩) lit sc, .slice (some ⟨g0, lit, none⟩) dis (sc - lit)] w' fun e w'' => e = .returned (.tuple #[.agg #[.pointer none, .pointer none], .int .i64 31]) ∧ Fr noB w' w'') := fun w' hf => newDecs_bad _ _ _ _ w' (HN1.out.keep hf) (HN2.out.keep hf) c7
      clear HR7 HN1 HN2 c7
      have hFa : Fr noB w3 (w3.alloc (.cells #[.pointer none, .pointer none] 48 (0, 0))).drew := ((Fr.refl noB w3).alloc _).drew
      have hFb : Fr noB w3 w3.drew := (Fr.refl noB w3).drew
      have hZ : (w3.alloc (.cells #[.pointer none, .pointer none] 48 (0, 0))).drew.heap[w3.heap.size]? = some (.cells #[.pointer none, .pointer none] 48 (0, 0)) := heap_alloc_new w3 _
      go_cut [4, 10] (fun a b wc => a = .int .i64 31 ∧ (∃ k : Nat, b = .pointer (some ⟨k, 0, none⟩)) ∧ Fr noB w3 wc)
      case first =>
        go_region_held3 (fun _ => True) (exact trivial) (first
          | (go_at_call 52; with_reducible refine (HC.out _ hFa).mono ?_; rintro e w4 ⟨rfl, hF4⟩; have a4 := hF4.obj hZ id; have c40 := cellOf (o := 0) a4 rfl; have c41 := cellOf (o := 1) a4 rfl; have f40 := freeOf 0 a4; have f41 := freeOf 1 a4)
          | (go_at_call 52; with_reducible refine (HC.out _ hFb).mono ?_; rintro e w4 ⟨rfl, hF4⟩))
        · go_wp2_with fail
          go_meet
          exact ⟨rfl, ⟨w4.heap.size, rfl⟩, (hFb.trans hF4).alloc _⟩
        · go_wp2_with fail
          go_meet
          exact ⟨rfl, ⟨w3.heap.size, rfl⟩, two_fr (hFa.trans hF4) (Nat.le_refl _) _ _⟩
      obtain ⟨rfl, ⟨k, rfl⟩, hF5⟩ := hcut
      have hF15 := hF13.trans (Fr.weak hF5 : Fr (oneB rb) w3 wc)
      go_wp2_with fail
      go_ret
      rw [HRR.out]
      exact ⟨rfl, ⟨sv, HI.out.sd hF15, fun h => by simp at h⟩, hF15.toI⟩
    · have hR8 := HR7.out
      rw [if_neg c7] at hR8
      have c7a : chk (up (L.take lit)) = 0 := Classical.byContradiction fun hh => c7 (Or.inl hh)
      have c7b : chk (up (L.drop lit)) = 0 := Classical.byContradiction fun hh => c7 (Or.inr hh)
      have cM := code_is _ c7a
      have cN := code_is _ c7b
      have HC : Hid (∀ w', Fr noB w3 w' → Calls Tryd.prog 52 #[.slice (some ⟨g0, 0, none⟩) lit sc, .slice (some ⟨g0, lit, none⟩) dis (sc - lit)] w' fun e w'' => ∃ d1 s1 d2 s2, e = .returned (.tuple #[.agg #[.pointer (some ⟨d1, 0, none⟩), .pointer (some ⟨d2, 0, none⟩)], .int .i64 0]) ∧ w'.heap.size ≤ d1 ∧ w'.heap.size ≤ s1 ∧ w'.heap.size ≤ d2 ∧ w'.heap.size ≤ s2 ∧ DecIs w'' d1 s1 (L.take lit) ∧ DecIs w'' d2 s2 (L.drop lit) ∧ Fr noB w' w'') := fun w' hf => newDecs_good _ _ _ _ w' (HN1.out.keep hf) (HN2.out.keep hf) cM cN
      have HCM : Hid (Code (L.take lit) ∧ Code (L.drop lit)) := ⟨cM, cN⟩
      have HMl : Hid ((L.take lit).length ≤ 65536) := by show _ ≤ _; simp; omega
      have HRS : Hid (symsA (L.take lit) (L.drop lit) B most F p3 sd = R) := hR8
      clear HR7 HN1 HN2 c7 hR8 c7a c7b cM cN
      generalize L.take lit = M at *
      generalize L.drop lit = N at *
      have hFa : Fr noB w3 (w3.alloc (.cells #[.pointer none, .pointer none] 48 (0, 0))).drew := ((Fr.refl noB w3).alloc _).drew
      have hFb : Fr noB w3 w3.drew := (Fr.refl noB w3).drew
      have hZ : (w3.alloc (.cells #[.pointer none, .pointer none] 48 (0, 0))).drew.heap[w3.heap.size]? = some (.cells #[.pointer none, .pointer none] 48 (0, 0)) := heap_alloc_new w3 _
      have hzs : (w3.alloc (.cells #[.pointer none, .pointer none] 48 (0, 0))).drew.heap.size = w3.heap.size + 1 := by simp
      go_cut [4, 10] (fun a b wc => a = .int .i64 0 ∧ ∃ k d1 s1 d2 s2 : Nat, b = .pointer (some ⟨k, 0, none⟩) ∧ w3.heap.size ≤ d1 ∧ w3.heap.size ≤ s1 ∧ w3.heap.size ≤ d2 ∧ w3.heap.size ≤ s2 ∧ wc.heap[k]? = some (.cells #[(.pointer (some ⟨d1, 0, none⟩)), (.pointer (some ⟨d2, 0, none⟩))] 48 (0, 0)) ∧ DecIs wc d1 s1 M ∧ DecIs wc d2 s2 N ∧ Fr noB w3 wc)
      case first =>
        go_region_held3 (fun _ => True) (exact trivial) (first
          | (go_at_call 52; with_reducible refine (HC.out _ hFa).mono ?_; rintro e w4 ⟨d1, s1, d2, s2, rfl, m1, m2, m3, m4, m5, m6, hF4⟩; have a4 := hF4.obj hZ id; have c40 := cellOf (o := 0) a4 rfl; have c41 := cellOf (o := 1) a4 rfl; have f40 := freeOf 0 a4; have f41 := freeOf 1 a4)
          | (go_at_call 52; with_reducible refine (HC.out _ hFb).mono ?_; rintro e w4 ⟨d1, s1, d2, s2, rfl, m1, m2, m3, m4, m5, m6, hF4⟩))
        · go_wp2_with fail
          go_meet
          have hal : Fr noB w4 (w4.alloc (.cells #[(.pointer (some ⟨d1, 0, none⟩)), (.pointer (some ⟨d2, 0, none⟩))] 48 (0, 0))) := (Fr.refl noB w4).alloc _
          exact ⟨rfl, w4.heap.size, d1, s1, d2, s2, rfl, m1, m2, m3, m4, heap_alloc_new _ _, m5.keep hal id id, m6.keep hal id id, (hFb.trans hF4).alloc _⟩
        · go_wp2_with fail
          go_meet
          have hone : Fr (oneB w3.heap.size) w4 ((w4.setCell ⟨w3.heap.size, 0, none⟩ (.pointer (some ⟨d1, 0, none⟩))).setCell ⟨w3.heap.size, 1, none⟩ (.pointer (some ⟨d2, 0, none⟩))) := ((Fr.refl _ w4).setOne 0 _).setOne 1 _
          rw [hzs] at m1 m2 m3 m4
          exact ⟨rfl, w3.heap.size, d1, s1, d2, s2, rfl, by omega, by omega, by omega, by omega, two_cells a4 _ _, m5.keep hone (fun e => by have e' : d1 = w3.heap.size := e; omega) (fun e => by have e' : s1 = w3.heap.size := e; omega), m6.keep hone (fun e => by have e' : d2 = w3.heap.size := e; omega) (fun e => by have e' : s2 = w3.heap.size := e; omega), two_fr (hFa.trans hF4) (Nat.le_refl _) _ _⟩
      obtain ⟨rfl, k, d1, s1', d2, s2', rfl, m1, m2, m3, m4, hkc, m5, m6, hF5⟩ := hcut
      have hsz3 := hF13.size
      have C5 := isymbols_any fb rb g p3 d1 s1' d2 s2' M N B sd most sv lt ds wc (HI3.out.keep hF5 id id id (fun _ _ _ _ h => h)) m5 m6 ⟨by omega, by omega, by omega, by omega⟩ ⟨by omega, by omega, by omega, by omega⟩ HCM.out.1 HCM.out.2 HMl.out hB hp3' hl hm hm2 (by omega) F (by omega)
      rw [HRS.out] at C5
      have k0 := cellOf (o := 0) hkc rfl
      have k1 := cellOf (o := 1) hkc rfl
      have hF15 := hF13.trans (Fr.weak hF5 : Fr (oneB rb) w3 wc)
      clear HC HRS HCM
      go_wp2_with (go_at_call 54; refine C5.mono ?_; rintro e w6 ⟨rfl, hS6, hF6⟩)
      go_ret
      exact ⟨rfl, hS6, itrans hF15.toI hF6⟩
#print axioms dynamic_any
end Go.Proofs.YthgnhcdodfildaaDoor
/- The contracts of fixedLiteralLengths and fixedDistanceLengths. -/
namespace Go.Proofs.YthgnhcdodfildaaDoor
open Go.RowKit

theorem Tryd.infoII : (Tryd.prog.info? 3).map (fun i => (i.zero, i.size, i.bytes)) = some (some (.int .i64 0), 1, 8) := by kernel_rfl
/-- The lengths so far, noughts behind. -/
def fixTo (k : Nat) : List Nat := (List.range 288).map fun i => if i < k then fixL i else 0
theorem fixTo_zero : fixTo 0 = List.replicate 288 0 := by
  apply List.ext_getElem
  · simp only [fixTo, List.length_map, List.length_range, List.length_replicate]
  · intro i h1 h2
    rw [List.getElem_replicate]
    simp only [fixTo, List.getElem_map, List.getElem_range]
    rw [if_neg (by omega)]
theorem fixTo_end : fixTo 288 = fixLit := by
  apply List.ext_getElem
  · simp [fixTo]
  · intro i h1 h2
    simp [fixTo] at h1
    simp [fixTo, fixLit, h1]
theorem fixTo_set (k : Nat) : (fixTo k).set k (fixL k) = fixTo (k + 1) := by
  apply List.ext_getElem
  · simp [fixTo]
  · intro i h1 h2
    rw [List.getElem_set]
    by_cases e : k = i
    · subst e; simp [fixTo]
    · rw [if_neg e]
      simp only [fixTo, List.getElem_map, List.getElem_range]
      by_cases h : i < k
      · rw [if_pos h, if_pos (by omega)]
      · rw [if_neg h, if_neg (by omega)]
@[simp] theorem fixTo_length (k : Nat) : (fixTo k).length = 288 := by simp [fixTo]

set_option maxRecDepth 100000 in
set_option maxHeartbeats 1600000 in
theorem fixLens_any (w : World) :
    Calls Tryd.prog 32 #[] w fun e w' => ∃ g, e = .returned (.slice (some ⟨g, 0, none⟩) 288 288) ∧ w.heap.size ≤ g ∧ RowN w' g 3 .i64 fixLit ∧ Fr noB w w' := by
  obtain ⟨i0, hi, hz0, hz1, hz2⟩ := info_parts Tryd.infoII
  go_enter Tryd.func32, Tryd.ntmps32
  go_wp2_with (at_make; refine wpList_make_full _ rfl _ _ 73 rfl w.heap.size 3 i0 (.int .i64 0) 1 Tryd.underlying73 hi hz0 hz1 .i64 .i64 288 288 288 rfl rfl rfl rfl (by rw [hz2]; decide) (by decide) (Nat.le_refl _) ?_)
  intro w1 hown1 hg1
  have hF1 : Fr noB w w1 := (Fr.refl noB w).grown hg1 (by simp)
  have hrow : RowN w1 w.heap.size 3 .i64 (fixTo 0) := by rw [fixTo_zero]; exact made_nums hown1
  have HR : Hid (RowN w1 w.heap.size 3 .i64 (fixTo 0)) := hrow
  obtain ⟨g, hg⟩ : ∃ g, w.heap.size = g := ⟨_, rfl⟩
  have HG : Hid (w.heap.size = g) := hg
  rw [hg] at HR ⊢
  have hgl : g < w1.heap.size := lt_of_block HR.out
  clear hown1 hg1 hrow hg
  go_wp2_with fail
  go_loopg [6] 288 (fun gh kv wr => ∃ k : Nat, k ≤ 288 ∧ gh = 288 - k ∧ kv = .int .i64 (k : Int) ∧ RowN wr g 3 .i64 (fixTo k) ∧ Fr noB w wr)
  case atStart => exact ⟨0, by omega, rfl, rfl, HR.out, hF1⟩
  case round =>
    obtain ⟨k, hk, rfl, rfl, hrow, hF⟩ := hrel
    by_cases hlt : k < 288
    · have hcl := hrow.cell k (by simpa using hlt)
      have hfree := freeOf (o := k) (w := wr) (b := g) hrow
      have hset := hrow.set k (fixL k)
      rw [fixTo_set] at hset
      have HS : Hid (RowN (wr.setCell ⟨g, k, none⟩ (.int .i64 ((fixL k : Nat) : Int))) g 3 .i64 (fixTo (k + 1))) := hset
      have hF2 : ∀ v, Fr noB w (wr.setCell ⟨g, k, none⟩ v) := fun v => hF.setCell _ (Or.inr (by show w.heap.size ≤ g; have := HG.out; omega)) v
      have hkI : (k : Int) < 288 := by omega
      have hk0 : (0 : Int) ≤ (k : Int) := by omega
      generalize (fixTo k)[k]'(by simpa using hlt) = y at *
      have HL : Hid (fixL k = if k < 144 then 8 else if k < 256 then 9 else if k < 280 then 7 else 8) := rfl
      clear hset hrow
      by_cases h1 : k < 144
      · have h1I : (k : Int) < 144 := by omega
        have e : fixL k = 8 := by rw [HL.out, if_pos h1]
        rw [e] at HS
        clear e
        go_wp2_with fail
        go_roundg (288 - (k + 1))
        case measure => omega
        case rel => exact ⟨k + 1, by omega, rfl, by go_num, HS.out, hF2 _⟩
      · have h1I : ¬ (k : Int) < 144 := by omega
        by_cases h2 : k < 256
        · have h2I : (k : Int) < 256 := by omega
          have e : fixL k = 9 := by rw [HL.out, if_neg h1, if_pos h2]
          rw [e] at HS
          clear e
          go_wp2_with fail
          go_roundg (288 - (k + 1))
          case measure => omega
          case rel => exact ⟨k + 1, by omega, rfl, by go_num, HS.out, hF2 _⟩
        · have h2I : ¬ (k : Int) < 256 := by omega
          by_cases h3 : k < 280
          · have h3I : (k : Int) < 280 := by omega
            have e : fixL k = 7 := by rw [HL.out, if_neg h1, if_neg h2, if_pos h3]
            rw [e] at HS
            clear e
            go_wp2_with fail
            go_roundg (288 - (k + 1))
            case measure => omega
            case rel => exact ⟨k + 1, by omega, rfl, by go_num, HS.out, hF2 _⟩
          · have h3I : ¬ (k : Int) < 280 := by omega
            have e : fixL k = 8 := by rw [HL.out, if_neg h1, if_neg h2, if_neg h3]
            rw [e] at HS
            clear e
            go_wp2_with fail
            go_roundg (288 - (k + 1))
            case measure => omega
            case rel => exact ⟨k + 1, by omega, rfl, by go_num, HS.out, hF2 _⟩
    · obtain rfl : k = 288 := by omega
      rw [fixTo_end] at hrow
      have HRw : Hid (RowN wr g 3 .i64 fixLit) := hrow
      clear hrow
      go_wp2_with fail
      go_ret
      exact ⟨g, rfl, by have := HG.out; omega, HRw.out, hF⟩
#print axioms fixLens_any
/-- The lengths of the fixed code of distances. -/
def fixDis : List Nat := List.replicate 32 5
@[simp] theorem fixDis_length : fixDis.length = 32 := by simp [fixDis]
theorem fixDis_code : Code fixDis := ⟨by decide +kernel, by decide +kernel, by decide +kernel, by decide +kernel⟩
/-- The lengths so far, noughts behind. -/
def disTo (k : Nat) : List Nat := (List.range 32).map fun i => if i < k then 5 else 0
theorem disTo_zero : disTo 0 = List.replicate 32 0 := by
  apply List.ext_getElem
  · simp only [disTo, List.length_map, List.length_range, List.length_replicate]
  · intro i h1 h2
    rw [List.getElem_replicate]
    simp only [disTo, List.getElem_map, List.getElem_range]
    rw [if_neg (by omega)]
theorem disTo_end : disTo 32 = fixDis := by decide +kernel
theorem disTo_set (k : Nat) : (disTo k).set k 5 = disTo (k + 1) := by
  apply List.ext_getElem
  · simp [disTo]
  · intro i h1 h2
    rw [List.getElem_set]
    by_cases e : k = i
    · subst e; simp [disTo]
    · rw [if_neg e]
      simp only [disTo, List.getElem_map, List.getElem_range]
      by_cases h : i < k
      · rw [if_pos h, if_pos (by omega)]
      · rw [if_neg h, if_neg (by omega)]
@[simp] theorem disTo_length (k : Nat) : (disTo k).length = 32 := by simp [disTo]

set_option maxRecDepth 100000 in
set_option maxHeartbeats 1600000 in
theorem fixDists_any (w : World) :
    Calls Tryd.prog 53 #[] w fun e w' => ∃ g, e = .returned (.slice (some ⟨g, 0, none⟩) 32 32) ∧ w.heap.size ≤ g ∧ RowN w' g 3 .i64 fixDis ∧ Fr noB w w' := by
  obtain ⟨i0, hi, hz0, hz1, hz2⟩ := info_parts Tryd.infoII
  go_enter Tryd.func53, Tryd.ntmps53
  go_wp2_with (at_make; refine wpList_make_full _ rfl _ _ 73 rfl w.heap.size 3 i0 (.int .i64 0) 1 Tryd.underlying73 hi hz0 hz1 .i64 .i64 32 32 32 rfl rfl rfl rfl (by rw [hz2]; decide) (by decide) (Nat.le_refl _) ?_)
  intro w1 hown1 hg1
  have hF1 : Fr noB w w1 := (Fr.refl noB w).grown hg1 (by simp)
  have hrow : RowN w1 w.heap.size 3 .i64 (disTo 0) := by rw [disTo_zero]; exact made_nums hown1
  have HR : Hid (RowN w1 w.heap.size 3 .i64 (disTo 0)) := hrow
  obtain ⟨g, hg⟩ : ∃ g, w.heap.size = g := ⟨_, rfl⟩
  have HG : Hid (w.heap.size = g) := hg
  rw [hg] at HR ⊢
  have hgl : g < w1.heap.size := lt_of_block HR.out
  clear hown1 hg1 hrow hg
  go_wp2_with fail
  go_loopg [6] 32 (fun gh kv wr => ∃ k : Nat, k ≤ 32 ∧ gh = 32 - k ∧ kv = .int .i64 (k : Int) ∧ RowN wr g 3 .i64 (disTo k) ∧ Fr noB w wr)
  case atStart => exact ⟨0, by omega, rfl, rfl, HR.out, hF1⟩
  case round =>
    obtain ⟨k, hk, rfl, rfl, hrow, hF⟩ := hrel
    by_cases hlt : k < 32
    · have hcl := hrow.cell k (by simpa using hlt)
      have hfree := freeOf (o := k) (w := wr) (b := g) hrow
      have hset := hrow.set k 5
      rw [disTo_set] at hset
      have HS : Hid (RowN (wr.setCell ⟨g, k, none⟩ (.int .i64 ((5 : Nat) : Int))) g 3 .i64 (disTo (k + 1))) := hset
      have hF2 : ∀ v, Fr noB w (wr.setCell ⟨g, k, none⟩ v) := fun v => hF.setCell _ (Or.inr (by show w.heap.size ≤ g; have := HG.out; omega)) v
      have hkI : (k : Int) < 32 := by omega
      have hk0 : (0 : Int) ≤ (k : Int) := by omega
      generalize (disTo k)[k]'(by simpa using hlt) = y at *
      clear hset hrow
      go_wp2_with fail
      go_roundg (32 - (k + 1))
      case measure => omega
      case rel => exact ⟨k + 1, by omega, rfl, by go_num, HS.out, hF2 _⟩
    · obtain rfl : k = 32 := by omega
      rw [disTo_end] at hrow
      have HRw : Hid (RowN wr g 3 .i64 fixDis) := hrow
      clear hrow
      go_wp2_with fail
      go_ret
      exact ⟨g, rfl, by have := HG.out; omega, HRw.out, hF⟩
#print axioms fixDists_any
end Go.Proofs.YthgnhcdodfildaaDoor
/- fixed: its walk. -/
namespace Go.Proofs.YthgnhcdodfildaaDoor
open Go.RowKit Go.Shelf
attribute [local go_sem ↓] Go.wp_at_zero Go.wp_at_succ

/-- The decoders of the fixed codes, if they were made. -/
def Alw (w : World) (fb rb : Nat) (lt ds : Option Addr) : Prop := lt = none ∨ ∃ d1 s1 d2 s2, lt = some ⟨d1, 0, none⟩ ∧ ds = some ⟨d2, 0, none⟩ ∧ DecIs w d1 s1 fixLit ∧ DecIs w d2 s2 fixDis ∧ (d1 ≠ rb ∧ s1 ≠ rb ∧ d1 ≠ fb ∧ s1 ≠ fb) ∧ (d2 ≠ rb ∧ s2 ≠ rb ∧ d2 ≠ fb ∧ s2 ≠ fb) ∧ (fb < d1 ∧ fb < s1 ∧ fb < d2 ∧ fb < s2)
theorem Alw.keepI {w w' : World} {fb rb : Nat} {lt ds : Option Addr} (h : Alw w fb rb lt ds) (hF : Fr (iS w fb rb) w w') : Alw w' fb rb lt ds := by
  rcases h with h | ⟨d1, s1, d2, s2, h1, h2, h3, h4, h5, h6, h7⟩
  · exact Or.inl h
  · exact Or.inr ⟨d1, s1, d2, s2, h1, h2, h3.keepI hF h5.1 h5.2.1 h5.2.2.1 h5.2.2.2, h4.keepI hF h6.1 h6.2.1 h6.2.2.1 h6.2.2.2, h5, h6, h7⟩
theorem InfIs.alw {w : World} {fb rb g p : Nat} {B sd : List Nat} {most : Int} {sv : Value} {lt ds : Option Addr} (h : InfIs w fb rb g B p most sv sd lt ds) (lt' ds' : Option Addr) : InfIs ((w.setCell ⟨fb, 3, none⟩ (.pointer lt')).setCell ⟨fb, 4, none⟩ (.pointer ds')) fb rb g B p most sv sd lt' ds' := by
  have hF : Fr (oneB fb) w ((w.setCell ⟨fb, 3, none⟩ (.pointer lt')).setCell ⟨fb, 4, none⟩ (.pointer ds')) := ((Fr.refl _ w).setOne 3 _).setOne 4 _
  refine ⟨setOf 4 _ (setOf 3 _ h.at_), ?_, hF.obj h.rd (fun e => ?_), hF.obj h.row (fun e => ?_), h.rlt, h.glt, h.ne⟩
  · obtain ⟨o1, o2⟩ := h.own
    refine ⟨o1, ?_⟩
    rcases o2 with o2 | ⟨g', cap', cur', k1, k2, k3, k4⟩
    · exact Or.inl o2
    · exact Or.inr ⟨g', cap', cur', k1, k2, hF.obj k3 (fun e => by have e' : g' = fb := e; omega), k4⟩
  · have := h.rlt; have e' : rb = fb := e; omega
  · have := h.glt; have e' : g = fb := e; omega
set_option maxRecDepth 100000 in
set_option maxHeartbeats 4000000 in
theorem fixed_any (fb rb g p : Nat) (B sd : List Nat) (most : Int) (sv : Value) (lt ds : Option Addr) (w : World) (h : InfIs w fb rb g B p most sv sd lt ds) (hA : Alw w fb rb lt ds) (hB : ∀ x ∈ B, x < 256) (hp : p ≤ 8 * B.length) (hl : B.length ≤ 1073741824) (hm : 0 ≤ most) (hm2 : most ≤ 9223372036854775807) (hsd : sd.length ≤ 258 * p) (F : Nat) (hF : 8 * B.length < p + F) :
    Calls Tryd.prog 37 #[.pointer (some ⟨fb, 0, none⟩)] w fun e w' => e = .returned (.int .i64 (((symsA fixLit fixDis B most F p sd).1 : Nat) : Int)) ∧ (∃ sv' lt' ds', SdIs w' fb rb most sv' (symsA fixLit fixDis B most F p sd).2.2 lt' ds' ∧ Alw w' fb rb lt' ds' ∧ ((symsA fixLit fixDis B most F p sd).1 = 0 → InfIs w' fb rb g B (symsA fixLit fixDis B most F p sd).2.1 most sv' (symsA fixLit fixDis B most F p sd).2.2 lt' ds')) ∧ Fr (iS w fb rb) w w' := by
  have HI : Hid (InfIs w fb rb g B p most sv sd lt ds) := h
  have hfl : fixLit.length ≤ 65536 := by simp
  obtain ⟨R, hR⟩ : ∃ R, symsA fixLit fixDis B most F p sd = R := ⟨_, rfl⟩
  rw [hR]
  have HR : Hid (symsA fixLit fixDis B most F p sd = R) := hR
  clear hR
  rcases hA with rfl | ⟨d1, s1, d2, s2, rfl, rfl, h3, h4, h5, h6, h7⟩
  · have c3 := cellOf (o := 3) h.at_ rfl
    have c4 := cellOf (o := 4) h.at_ rfl
    have hrw : rb < w.heap.size := by have := HI.out.rlt; have := lt_of_block HI.out.at_; omega
    have hfw : fb < w.heap.size := lt_of_block HI.out.at_
    clear h
    go_enter Tryd.func37, Tryd.ntmps37
    go_wp2_with fail
    refine (fixLens_any w).mono ?_
    rintro e w1 ⟨g1, rfl, hg1, hr1, hF1⟩
    go_wp2_with fail
    refine (fixDists_any w1).mono ?_
    rintro e w2 ⟨g2, rfl, hg2, hr2, hF2⟩
    have hs1 := hF1.size
    have hs2 := hF2.size
    have N1 := (hr1.keep hF2 id).ns (by simp; decide)
    have N2 := hr2.ns (by simp; decide)
    rw [fixLit_length] at N1
    rw [fixDis_length] at N2
    have C3 := newDecs_good _ _ fixLit fixDis w2 N1 N2 fix_code fixDis_code
    have HG1 : Hid (w.heap.size ≤ g1 ∧ w.heap.size ≤ g2) := ⟨hg1, by omega⟩
    clear N1 N2 hr1 hr2 hg1 hg2
    go_wp2_with fail
    refine C3.mono ?_
    rintro e w3 ⟨d1, s1, d2, s2, rfl, m1, m2, m3, m4, m5, m6, hF3⟩
    have hF03 := (hF1.trans hF2).trans hF3
    obtain ⟨w4, hw4⟩ : ∃ w4, w3.alloc (.cells #[.pointer (some ⟨d1, 0, none⟩), .pointer (some ⟨d2, 0, none⟩)] 48 (0, 0)) = w4 := ⟨_, rfl⟩
    have hF4 : Fr noB w3 w4 := by rw [← hw4]; exact (Fr.refl _ _).alloc _
    have hF04 := hF03.trans hF4
    have hk : w4.heap[w3.heap.size]? = some (.cells #[.pointer (some ⟨d1, 0, none⟩), .pointer (some ⟨d2, 0, none⟩)] 48 (0, 0)) := by rw [← hw4]; exact heap_alloc_new _ _
    have k0 := cellOf (o := 0) hk rfl
    have k1 := cellOf (o := 1) hk rfl
    have hI4 := HI.out.keep hF04 id id id (fun _ _ _ _ h => h)
    have f3 := freeOf 3 hI4.at_
    have f4 := freeOf 4 hI4.at_
    have c3' := cellOf (o := 3) hI4.at_ rfl
    have c4' := cellOf (o := 4) hI4.at_ rfl
    have hI5 := hI4.alw (some ⟨d1, 0, none⟩) (some ⟨d2, 0, none⟩)
    have hF5 : Fr (oneB fb) w4 ((w4.setCell ⟨fb, 3, none⟩ (.pointer (some ⟨d1, 0, none⟩))).setCell ⟨fb, 4, none⟩ (.pointer (some ⟨d2, 0, none⟩))) := ((Fr.refl _ w4).setOne 3 _).setOne 4 _
    have n1 : d1 ≠ rb ∧ s1 ≠ rb ∧ d1 ≠ fb ∧ s1 ≠ fb := ⟨by omega, by omega, by omega, by omega⟩
    have n2 : d2 ≠ rb ∧ s2 ≠ rb ∧ d2 ≠ fb ∧ s2 ≠ fb := ⟨by omega, by omega, by omega, by omega⟩
    have q1 := (m5.keep hF4 id id).keep hF5 (fun e => n1.2.2.1 e) (fun e => n1.2.2.2 e)
    have q2 := (m6.keep hF4 id id).keep hF5 (fun e => n2.2.2.1 e) (fun e => n2.2.2.2 e)
    have hF05 : Fr (iS w fb rb) w ((w4.setCell ⟨fb, 3, none⟩ (.pointer (some ⟨d1, 0, none⟩))).setCell ⟨fb, 4, none⟩ (.pointer (some ⟨d2, 0, none⟩))) := (hF04.weak : Fr (oneB fb) w w4).trans hF5 |>.mono (fun k _ (hk : k = fb) => Or.inr (Or.inl hk))
    have C5 := isymbols_any fb rb g p d1 s1 d2 s2 fixLit fixDis B sd most sv (some ⟨d1, 0, none⟩) (some ⟨d2, 0, none⟩) _ hI5 q1 q2 n1 n2 fix_code fixDis_code hfl hB hp hl hm hm2 hsd F hF
    have d3 := cellOf (o := 3) hI5.at_ rfl
    have d4 := cellOf (o := 4) hI5.at_ rfl
    have HA : Hid (Alw ((w4.setCell ⟨fb, 3, none⟩ (.pointer (some ⟨d1, 0, none⟩))).setCell ⟨fb, 4, none⟩ (.pointer (some ⟨d2, 0, none⟩))) fb rb (some ⟨d1, 0, none⟩) (some ⟨d2, 0, none⟩)) := Or.inr ⟨d1, s1, d2, s2, rfl, rfl, q1, q2, n1, n2, by omega, by omega, by omega, by omega⟩
    rw [HR.out] at C5
    clear C3 m5 m6 q1 q2 hI4 hI5 hF5 hF4 hF03 hk hF1 hF2 hF3
    go_upto_region 3 with (rw [hw4])
    go_wp2_with fail
    refine C5.mono ?_
    rintro e w6 ⟨rfl, ⟨sv6, hS6, hI6⟩, hF6⟩
    go_wp2_with fail
    go_ret
    exact ⟨rfl, ⟨sv6, _, _, hS6, HA.out.keepI hF6, hI6⟩, itrans hF05 hF6⟩
  · have C5 := isymbols_any fb rb g p d1 s1 d2 s2 fixLit fixDis B sd most sv (some ⟨d1, 0, none⟩) (some ⟨d2, 0, none⟩) w h h3 h4 h5 h6 fix_code fixDis_code hfl hB hp hl hm hm2 hsd F hF
    have c3 := cellOf (o := 3) h.at_ rfl
    have c4 := cellOf (o := 4) h.at_ rfl
    have HA : Hid (Alw w fb rb (some ⟨d1, 0, none⟩) (some ⟨d2, 0, none⟩)) := Or.inr ⟨d1, s1, d2, s2, rfl, rfl, h3, h4, h5, h6, h7⟩
    rw [HR.out] at C5
    clear h h3 h4 h5 h6 h7
    go_enter Tryd.func37, Tryd.ntmps37
    go_wp2_with (go_at_call 54; refine C5.mono ?_; rintro e w6 ⟨rfl, ⟨sv6, hS6, hI6⟩, hF6⟩)
    go_ret
    exact ⟨rfl, ⟨sv6, _, _, hS6, HA.out.keepI hF6, hI6⟩, hF6⟩
#print axioms fixed_any
end Go.Proofs.YthgnhcdodfildaaDoor
/- A block, right or wrong: its plain function, what it keeps. -/
namespace Go.Proofs.YthgnhcdodfildaaDoor
open Go.RowKit Go.Shelf

/-- A block of the kind k behind its head: the error, the place behind, what was said. -/
def kndA (B : List Nat) (most : Int) (k p : Nat) (sd : List Nat) : Nat × Nat × List Nat :=
  if k = 0 then stoA B p sd most else if k = 1 then symsA fixLit fixDis B most (8 * B.length + 1) p sd else if k = 2 then dynA B most (8 * B.length + 1) p sd else (30, p, sd)
/-- A block: the error, the place behind, what was said, its kind, whether it is the final one. -/
def blkA (B : List Nat) (most : Int) (p : Nat) (sd : List Nat) : (Nat × Nat × List Nat) × Nat × Bool :=
  if 8 * B.length < p + 3 then ((33, p, sd), 0, false) else (kndA B most (numAt B p 3 / 2) (p + 3) sd, numAt B p 3 / 2, numAt B p 3 % 2 == 1)
theorem symsA_ok (M N B : List Nat) (most : Int) : ∀ (f p : Nat) (sd : List Nat), sd.length ≤ 258 * p → (sd.length : Int) ≤ most → p ≤ 8 * B.length → (symsA M N B most f p sd).1 = 0 → p < (symsA M N B most f p sd).2.1 ∧ (symsA M N B most f p sd).2.1 ≤ 8 * B.length ∧ (symsA M N B most f p sd).2.2.length ≤ 258 * (symsA M N B most f p sd).2.1 ∧ ((symsA M N B most f p sd).2.2.length : Int) ≤ most := by
  intro f
  induction f with
  | zero => intro p sd _ _ _ h; simp [symsA] at h
  | succ f ih =>
    intro p sd h1 h2 h3 h
    unfold symsA at h ⊢
    by_cases c1 : (symA M B p).2.1 ≠ 0
    · rw [if_pos c1] at h; exact absurd h c1
    rw [if_neg c1] at h ⊢
    have c1' := Classical.byContradiction c1
    have a1 := symA_lt M B p c1'
    have a2 := symA_le M B p c1'
    by_cases c2 : (symA M B p).1 = 256
    · rw [if_pos c2]; exact ⟨a1, a2, by simp only; omega, h2⟩
    rw [if_neg c2] at h ⊢
    by_cases c3 : (symA M B p).1 < 256
    · rw [if_pos c3] at h ⊢
      by_cases c4 : most - (sd.length : Int) < 1
      · rw [if_pos c4] at h; simp at h
      rw [if_neg c4] at h ⊢
      obtain ⟨r1, r2, r3, r4⟩ := ih (symA M B p).2.2 (sd ++ [(symA M B p).1]) (by simp; omega) (by simp; omega) a2 h
      exact ⟨by omega, r2, r3, r4⟩
    rw [if_neg c3] at h ⊢
    by_cases c5 : (matA N B (symA M B p).2.2 sd most (symA M B p).1).1 ≠ 0
    · rw [if_pos c5] at h; exact absurd h c5
    rw [if_neg c5] at h ⊢
    obtain ⟨b1, b2, b3, b4⟩ := matA_ok N B (symA M B p).2.2 sd most (symA M B p).1 (by omega) (Classical.byContradiction c5)
    obtain ⟨r1, r2, r3, r4⟩ := ih _ _ (by omega) b4 b2 h
    exact ⟨by omega, r2, r3, r4⟩
theorem stoA_ok (B : List Nat) (p : Nat) (sd : List Nat) (most : Int) (h1 : sd.length ≤ 258 * p) (h : (stoA B p sd most).1 = 0) : p < (stoA B p sd most).2.1 ∧ (stoA B p sd most).2.1 ≤ 8 * B.length ∧ (stoA B p sd most).2.2.length ≤ 258 * (stoA B p sd most).2.1 ∧ ((stoA B p sd most).2.2.length : Int) ≤ most := by
  unfold stoA at *
  split at h
  · simp at h
  split at h
  · simp at h
  split at h
  · simp at h
  split at h
  · simp at h
  rename_i c1 c2 c3 c4
  rw [if_neg c1, if_neg c2, if_neg c3, if_neg c4]
  simp only [List.length_append, List.length_take, List.length_drop]
  refine ⟨by omega, by omega, by omega, by omega⟩
theorem dynA_ok (B : List Nat) (most : Int) (F p : Nat) (sd : List Nat) (h1 : sd.length ≤ 258 * p) (h2 : (sd.length : Int) ≤ most) (h : (dynA B most F p sd).1 = 0) : p < (dynA B most F p sd).2.1 ∧ (dynA B most F p sd).2.1 ≤ 8 * B.length ∧ (dynA B most F p sd).2.2.length ≤ 258 * (dynA B most F p sd).2.1 ∧ ((dynA B most F p sd).2.2.length : Int) ≤ most := by
  unfold dynA at *
  by_cases c1 : 8 * B.length < p + 14
  · rw [if_pos c1] at h; simp at h
  rw [if_neg c1] at h ⊢
  by_cases c2 : 286 < numAt B p 14 % 32 + 257 ∨ 30 < numAt B p 14 / 32 % 32 + 1
  · rw [if_pos c2] at h; simp at h
  rw [if_neg c2] at h ⊢
  by_cases c3 : 8 * B.length < p + 14 + 3 * (numAt B p 14 / 1024 + 4)
  · rw [if_pos c3] at h; simp at h
  rw [if_neg c3] at h ⊢
  by_cases c4 : chk (up (colL B (p + 14) (numAt B p 14 / 1024 + 4))) ≠ 0
  · rw [if_pos c4] at h; simp at h
  rw [if_neg c4] at h ⊢
  have hl := lenA_ok (colL B (p + 14) (numAt B p 14 / 1024 + 4)) B (numAt B p 14 % 32 + 257 + (numAt B p 14 / 32 % 32 + 1)) (numAt B p 14 % 32 + 257 + (numAt B p 14 / 32 % 32 + 1) + 1) (p + 14 + 3 * (numAt B p 14 / 1024 + 4)) [] (by simp) (by omega)
  generalize lenA (colL B (p + 14) (numAt B p 14 / 1024 + 4)) B (numAt B p 14 % 32 + 257 + (numAt B p 14 / 32 % 32 + 1)) (numAt B p 14 % 32 + 257 + (numAt B p 14 / 32 % 32 + 1) + 1) (p + 14 + 3 * (numAt B p 14 / 1024 + 4)) [] = L at *
  by_cases c5 : L.1 ≠ 0
  · rw [if_pos c5] at h; exact absurd h c5
  rw [if_neg c5] at h ⊢
  obtain ⟨_, l2, l3⟩ := hl (Classical.byContradiction c5)
  by_cases c6 : L.2.2.getD 256 0 = 0
  · rw [if_pos c6] at h; simp at h
  rw [if_neg c6] at h ⊢
  split at h
  · simp at h
  rename_i c7
  rw [if_neg c7]
  obtain ⟨r1, r2, r3, r4⟩ := symsA_ok _ _ B most F L.2.1 sd (by omega) h2 l3 h
  exact ⟨by omega, r2, r3, r4⟩
theorem kndA_ok (B : List Nat) (most : Int) (k p : Nat) (sd : List Nat) (h1 : sd.length ≤ 258 * p) (h2 : (sd.length : Int) ≤ most) (h3 : p ≤ 8 * B.length) (h : (kndA B most k p sd).1 = 0) : p < (kndA B most k p sd).2.1 ∧ (kndA B most k p sd).2.1 ≤ 8 * B.length ∧ (kndA B most k p sd).2.2.length ≤ 258 * (kndA B most k p sd).2.1 ∧ ((kndA B most k p sd).2.2.length : Int) ≤ most := by
  unfold kndA at *
  by_cases c1 : k = 0
  · rw [if_pos c1] at h ⊢; exact stoA_ok B p sd most h1 h
  rw [if_neg c1] at h ⊢
  by_cases c2 : k = 1
  · rw [if_pos c2] at h ⊢; exact symsA_ok _ _ B most _ p sd h1 h2 h3 h
  rw [if_neg c2] at h ⊢
  by_cases c3 : k = 2
  · rw [if_pos c3] at h ⊢; exact dynA_ok B most _ p sd h1 h2 h
  rw [if_neg c3] at h; simp at h
theorem blkA_ok (B : List Nat) (most : Int) (p : Nat) (sd : List Nat) (h1 : sd.length ≤ 258 * p) (h2 : (sd.length : Int) ≤ most) (h : (blkA B most p sd).1.1 = 0) : p < (blkA B most p sd).1.2.1 ∧ (blkA B most p sd).1.2.1 ≤ 8 * B.length ∧ (blkA B most p sd).1.2.2.length ≤ 258 * (blkA B most p sd).1.2.1 ∧ ((blkA B most p sd).1.2.2.length : Int) ≤ most := by
  unfold blkA at *
  by_cases c1 : 8 * B.length < p + 3
  · rw [if_pos c1] at h; simp at h
  rw [if_neg c1] at h ⊢
  obtain ⟨r1, r2, r3, r4⟩ := kndA_ok B most (numAt B p 3 / 2) (p + 3) sd (by omega) h2 (by omega) h
  exact ⟨by simp only; omega, r2, r3, r4⟩

/-- What is true behind a block's kind was read. -/
def KP (fb rb g : Nat) (B : List Nat) (most : Int) (R : Nat × Nat × List Nat) (w w' : World) : Prop :=
  (∃ sv' lt' ds', SdIs w' fb rb most sv' R.2.2 lt' ds' ∧ Alw w' fb rb lt' ds' ∧ (R.1 = 0 → InfIs w' fb rb g B R.2.1 most sv' R.2.2 lt' ds')) ∧ Fr (iS w fb rb) w w'
theorem SdIs.keep {S : Nat → Prop} {w w' : World} {fb rb : Nat} {sd : List Nat} {most : Int} {sv : Value} {lt ds : Option Addr} (h : SdIs w fb rb most sv sd lt ds) (hF : Fr S w w') (h1 : ¬ S fb) (h4 : ∀ k cur, fb < k → w.heap[k]? = some (.cells cur 5 (0, 0)) → ¬ S k) : SdIs w' fb rb most sv sd lt ds := by
  refine ⟨hF.obj h.at_ h1, ?_⟩
  obtain ⟨o1, o2⟩ := h.own
  refine ⟨o1, ?_⟩
  rcases o2 with o2 | ⟨g', cap', cur', k1, k2, k3, k4⟩
  · exact Or.inl o2
  · exact Or.inr ⟨g', cap', cur', k1, k2, hF.obj k3 (h4 g' _ (by omega) k3), k4⟩
theorem DecIs.keepT {w w' : World} {n db sb : Nat} {M : List Nat} {cs : Array Value} (h : DecIs w db sb M) (hn : w.heap[n]? = some (.cells cs 33 (0, 0))) (hF : Fr (oneB n) w w') : DecIs w' db sb M := by
  refine h.keep hF ?_ ?_
  · intro e
    have e' : db = n := e
    have := h.dec
    unfold DecAt at this
    rw [e', hn] at this
    simp at this
  · intro e
    have e' : sb = n := e
    have := h.row
    unfold RowN at this
    rw [e', hn] at this
    simp at this
theorem KP.block {fb rb g n : Nat} {B : List Nat} {most : Int} {R : Nat × Nat × List Nat} {w w2 w3 : World} {cs : Array Value} (h : KP fb rb g B most R w w2) (hw : w.heap.size ≤ n) (hn : w2.heap[n]? = some (.cells cs 33 (0, 0))) (hfb : fb < n) (hrb : rb < n) (hg : g < n) (hF : Fr (oneB n) w2 w3) : KP fb rb g B most R w w3 := by
  obtain ⟨⟨sv, lt, ds, h1, h2, h3⟩, h4⟩ := h
  have hne : ∀ k cur, fb < k → w2.heap[k]? = some (.cells cur 5 (0, 0)) → ¬ (oneB n) k := fun k cur _ hk e => by
    have e' : k = n := e
    rw [e', hn] at hk
    simp at hk
  refine ⟨⟨sv, lt, ds, h1.keep hF (fun e => by have e' : fb = n := e; omega) hne, ?_, fun h0 => (h3 h0).keep hF (fun e => by have e' : fb = n := e; omega) (fun e => by have e' : rb = n := e; omega) (fun e => by have e' : g = n := e; omega) hne⟩, h4.then hF (fun k hk => Or.inr (by have e' : k = n := hk; omega))⟩
  rcases h2 with h2 | ⟨d1, s1, d2, s2, q1, q2, q3, q4, q5, q6, q7⟩
  · exact Or.inl h2
  · exact Or.inr ⟨d1, s1, d2, s2, q1, q2, q3.keepT hn hF, q4.keepT hn hF, q5, q6, q7⟩
#print axioms KP.block
#print axioms blkA_ok
end Go.Proofs.YthgnhcdodfildaaDoor
/- A block, right or wrong: its walk. -/
namespace Go.Proofs.YthgnhcdodfildaaDoor
open Go.RowKit Go.Shelf
attribute [local go_sem ↓] Go.wp_at_zero Go.wp_at_succ

/-- A block as a value. -/
def blkV (R : (Nat × Nat × List Nat) × Nat × Bool) (q : Nat) : Value := .agg #[.int .i64 (R.2.1 : Int), .bool R.2.2, .int .i64 ((R.1.2.2.length : Int) - (q : Int))]
set_option maxRecDepth 100000 in
set_option maxHeartbeats 3200000 in
theorem block_k0 (fb rb g p : Nat) (fin : Bool) (B sd : List Nat) (most : Int) (sv : Value) (lt ds : Option Addr) (w : World) (h : InfIs w fb rb g B p most sv sd lt ds) (hA : Alw w fb rb lt ds) (hB : ∀ x ∈ B, x < 256) (hl : B.length ≤ 1073741824) (hm : 0 ≤ most) (hm2 : most ≤ 9223372036854775807) (hsd : sd.length ≤ 258 * p) (hp : p + 3 ≤ 8 * B.length) (hn : numAt B p 3 = 2 * 0 + fin.toNat) :
    Calls Tryd.prog 24 #[.pointer (some ⟨fb, 0, none⟩)] w fun e w' => e = .returned (.tuple #[blkV (kndA B most 0 (p + 3) sd, 0, fin) sd.length, .int .i64 (((kndA B most 0 (p + 3) sd).1 : Nat) : Int)]) ∧ KP fb rb g B most (kndA B most 0 (p + 3) sd) w w' := by
  obtain ⟨q, hq⟩ : ∃ q, sd.length = q := ⟨_, rfl⟩
  have HQ : Hid (sd.length = q) := hq
  have hsd2 : q ≤ 35184372088832 := by omega
  obtain ⟨R, hR⟩ : ∃ R, kndA B most 0 (p + 3) sd = R := ⟨_, rfl⟩
  have HR : Hid (kndA B most 0 (p + 3) sd = R) := hR
  rw [hR, hq]
  have hF0 : Fr noB w (w.alloc (.cells #[.int .i64 0, .bool false, .int .i64 0] 33 (0, 0))) := (Fr.refl noB w).alloc _
  have hIa : InfIs (w.alloc (.cells #[.int .i64 0, .bool false, .int .i64 0] 33 (0, 0))) fb rb g B p most sv sd lt ds := h.keep hF0 id id id (fun _ _ _ _ h => h)
  have HB := ibits_good fb rb g p 3 B sd most sv lt ds _ hIa hB (by omega) (by decide) hp
  rw [hn] at HB
  have HI : Hid (InfIs w fb rb g B p most sv sd lt ds) := h
  have HA : Hid (Alw w fb rb lt ds) := hA
  have hfw : fb < w.heap.size := lt_of_block HI.out.at_
  have hrl : rb < fb := HI.out.rlt
  have hgl : g < fb := HI.out.glt
  clear h hIa hq hR hA hn
  cases fin
  · simp only [Bool.toNat_false, Nat.reduceMul, Nat.reduceAdd] at HB
    go_enter Tryd.func24, Tryd.ntmps24
    go_wp2_with fail
    refine HB.mono ?_
    rintro e w1 ⟨rfl, hI1, hF1⟩
    obtain ⟨so, sc, hsv, -⟩ := own_slice hI1.own
    rw [HQ.out] at hsv
    subst hsv
    have c2 := cellOf (o := 2) hI1.at_ rfl
    have hA1 : Alw w1 fb rb lt ds := (HA.out.keepI (hF0.weak : Fr (iS w fb rb) w _)).keepI hF1.toI
    have HK : Calls Tryd.prog 36 #[.pointer (some ⟨fb, 0, none⟩)] w1 (fun e w' => e = .returned (.int .i64 ((R.1 : Nat) : Int)) ∧ KP fb rb g B most R w1 w') := by
      have h5 := stored_any' fb rb g (p + 3) B sd most _ lt ds w1 hI1 hB (by omega) hl hm hm2 (by have := HQ.out; omega)
      rw [show stoA B (p + 3) sd most = R by rw [← HR.out]; simp [kndA]] at h5
      refine h5.mono ?_
      rintro e w' ⟨rfl, ⟨sv', a1, a2⟩, a3⟩
      exact ⟨rfl, ⟨sv', lt, ds, a1, hA1.keepI a3, a2⟩, a3⟩
    clear hI1 HB
    go_wp2_with fail
    refine HK.mono ?_
    rintro e w2 ⟨rfl, hK2⟩
    clear HK
    obtain ⟨⟨sv2, lt2, ds2, hS2, hA2, hI2⟩, hF2⟩ := hK2
    have hKP : KP fb rb g B most R w w2 := ⟨⟨sv2, lt2, ds2, hS2, hA2, hI2⟩, itrans (itrans (hF0.weak : Fr (iS w fb rb) w _) hF1.toI) hF2⟩
    obtain ⟨so2, sc2, hsv2, hle2, hmx2, -⟩ := own_slice hS2.own
    obtain ⟨t, ht⟩ : ∃ t, R.2.2.length = t := ⟨_, rfl⟩
    rw [ht] at hsv2
    subst hsv2
    have ht3 : t ≤ maxLen := by omega
    have ht4 : (t : Int) ≤ 9223372036854775807 := by unfold maxLen at ht3; omega
    have hwr : wrap64 ((t : Int) - (q : Int)) = (t : Int) - (q : Int) := by unfold wrap64; omega
    have d2 := cellOf (o := 2) hS2.at_ rfl
    have ho1 : w1.heap[w.heap.size]? = some (.cells #[.int .i64 0, .bool false, .int .i64 0] 33 (0, 0)) := hF1.obj (heap_alloc_new w _) (fun e => by have e' : w.heap.size = rb := e; omega)
    have ho2 : w2.heap[w.heap.size]? = some (.cells #[.int .i64 0, .bool false, .int .i64 0] 33 (0, 0)) := hF2.obj ho1 (fun e => by
      rcases e with e | e | ⟨_, cs, fr, e⟩
      · omega
      · omega
      · rw [ho1] at e; simp at e)
    have hx0 := cellOf (o := 0) ho2 rfl
    have hx1 := cellOf (o := 1) ho2 rfl
    have hx2 := cellOf (o := 2) ho2 rfl
    have hy0 := freeOf (o := 0) ho2
    have hy1 := freeOf (o := 1) ho2
    have hy2 := freeOf (o := 2) ho2
    have hand0 : bits .and .i64 0 1 = 0 := by kernel_rfl
    have HKP : Hid (KP fb rb g B most R w w2) := hKP
    have HT : Hid (R.2.2.length = t) := ht
    clear hI2 hS2 hA2 hKP ht hA1
    go_wp2_with fail
    have e2 : ∀ (u v x : Value), Fr (oneB w.heap.size) w2 (((w2.setCell ⟨w.heap.size, 0, none⟩ u).setCell ⟨w.heap.size, 1, none⟩ v).setCell ⟨w.heap.size, 2, none⟩ x) := fun u v x => (((Fr.refl _ w2).setOne _ _).setOne _ _).setOne _ _
    refine bodyPost_ret (v := .tuple #[.agg #[.int .i64 0, .bool false, .int .i64 ((t : Int) - (q : Int))], .int .i64 ((R.1 : Nat) : Int)]) ?_ rfl ⟨?_, HKP.out.block (Nat.le_refl _) ho2 hfw (by omega) (by omega) (e2 _ _ _)⟩
    · simp [results, Tryd.results24, go_sem, hx0, hx1, hx2]
    · simp only [blkV, HT.out]; rfl
  · simp only [Bool.toNat_true, Nat.reduceMul, Nat.reduceAdd] at HB
    go_enter Tryd.func24, Tryd.ntmps24
    go_wp2_with fail
    refine HB.mono ?_
    rintro e w1 ⟨rfl, hI1, hF1⟩
    obtain ⟨so, sc, hsv, -⟩ := own_slice hI1.own
    rw [HQ.out] at hsv
    subst hsv
    have c2 := cellOf (o := 2) hI1.at_ rfl
    have hA1 : Alw w1 fb rb lt ds := (HA.out.keepI (hF0.weak : Fr (iS w fb rb) w _)).keepI hF1.toI
    have HK : Calls Tryd.prog 36 #[.pointer (some ⟨fb, 0, none⟩)] w1 (fun e w' => e = .returned (.int .i64 ((R.1 : Nat) : Int)) ∧ KP fb rb g B most R w1 w') := by
      have h5 := stored_any' fb rb g (p + 3) B sd most _ lt ds w1 hI1 hB (by omega) hl hm hm2 (by have := HQ.out; omega)
      rw [show stoA B (p + 3) sd most = R by rw [← HR.out]; simp [kndA]] at h5
      refine h5.mono ?_
      rintro e w' ⟨rfl, ⟨sv', a1, a2⟩, a3⟩
      exact ⟨rfl, ⟨sv', lt, ds, a1, hA1.keepI a3, a2⟩, a3⟩
    clear hI1 HB
    go_wp2_with fail
    refine HK.mono ?_
    rintro e w2 ⟨rfl, hK2⟩
    clear HK
    obtain ⟨⟨sv2, lt2, ds2, hS2, hA2, hI2⟩, hF2⟩ := hK2
    have hKP : KP fb rb g B most R w w2 := ⟨⟨sv2, lt2, ds2, hS2, hA2, hI2⟩, itrans (itrans (hF0.weak : Fr (iS w fb rb) w _) hF1.toI) hF2⟩
    obtain ⟨so2, sc2, hsv2, hle2, hmx2, -⟩ := own_slice hS2.own
    obtain ⟨t, ht⟩ : ∃ t, R.2.2.length = t := ⟨_, rfl⟩
    rw [ht] at hsv2
    subst hsv2
    have ht3 : t ≤ maxLen := by omega
    have ht4 : (t : Int) ≤ 9223372036854775807 := by unfold maxLen at ht3; omega
    have hwr : wrap64 ((t : Int) - (q : Int)) = (t : Int) - (q : Int) := by unfold wrap64; omega
    have d2 := cellOf (o := 2) hS2.at_ rfl
    have ho1 : w1.heap[w.heap.size]? = some (.cells #[.int .i64 0, .bool false, .int .i64 0] 33 (0, 0)) := hF1.obj (heap_alloc_new w _) (fun e => by have e' : w.heap.size = rb := e; omega)
    have ho2 : w2.heap[w.heap.size]? = some (.cells #[.int .i64 0, .bool false, .int .i64 0] 33 (0, 0)) := hF2.obj ho1 (fun e => by
      rcases e with e | e | ⟨_, cs, fr, e⟩
      · omega
      · omega
      · rw [ho1] at e; simp at e)
    have hx0 := cellOf (o := 0) ho2 rfl
    have hx1 := cellOf (o := 1) ho2 rfl
    have hx2 := cellOf (o := 2) ho2 rfl
    have hy0 := freeOf (o := 0) ho2
    have hy1 := freeOf (o := 1) ho2
    have hy2 := freeOf (o := 2) ho2
    have hand1 : bits .and .i64 1 1 = 1 := by kernel_rfl
    have HKP : Hid (KP fb rb g B most R w w2) := hKP
    have HT : Hid (R.2.2.length = t) := ht
    clear hI2 hS2 hA2 hKP ht hA1
    go_wp2_with fail
    have e2 : ∀ (u v x : Value), Fr (oneB w.heap.size) w2 (((w2.setCell ⟨w.heap.size, 0, none⟩ u).setCell ⟨w.heap.size, 1, none⟩ v).setCell ⟨w.heap.size, 2, none⟩ x) := fun u v x => (((Fr.refl _ w2).setOne _ _).setOne _ _).setOne _ _
    refine bodyPost_ret (v := .tuple #[.agg #[.int .i64 0, .bool true, .int .i64 ((t : Int) - (q : Int))], .int .i64 ((R.1 : Nat) : Int)]) ?_ rfl ⟨?_, HKP.out.block (Nat.le_refl _) ho2 hfw (by omega) (by omega) (e2 _ _ _)⟩
    · simp [results, Tryd.results24, go_sem, hx0, hx1, hx2]
    · simp only [blkV, HT.out]; rfl
set_option maxRecDepth 100000 in
set_option maxHeartbeats 3200000 in
theorem block_k1 (fb rb g p : Nat) (fin : Bool) (B sd : List Nat) (most : Int) (sv : Value) (lt ds : Option Addr) (w : World) (h : InfIs w fb rb g B p most sv sd lt ds) (hA : Alw w fb rb lt ds) (hB : ∀ x ∈ B, x < 256) (hl : B.length ≤ 1073741824) (hm : 0 ≤ most) (hm2 : most ≤ 9223372036854775807) (hsd : sd.length ≤ 258 * p) (hp : p + 3 ≤ 8 * B.length) (hn : numAt B p 3 = 2 * 1 + fin.toNat) :
    Calls Tryd.prog 24 #[.pointer (some ⟨fb, 0, none⟩)] w fun e w' => e = .returned (.tuple #[blkV (kndA B most 1 (p + 3) sd, 1, fin) sd.length, .int .i64 (((kndA B most 1 (p + 3) sd).1 : Nat) : Int)]) ∧ KP fb rb g B most (kndA B most 1 (p + 3) sd) w w' := by
  obtain ⟨q, hq⟩ : ∃ q, sd.length = q := ⟨_, rfl⟩
  have HQ : Hid (sd.length = q) := hq
  have hsd2 : q ≤ 35184372088832 := by omega
  obtain ⟨R, hR⟩ : ∃ R, kndA B most 1 (p + 3) sd = R := ⟨_, rfl⟩
  have HR : Hid (kndA B most 1 (p + 3) sd = R) := hR
  rw [hR, hq]
  have hF0 : Fr noB w (w.alloc (.cells #[.int .i64 0, .bool false, .int .i64 0] 33 (0, 0))) := (Fr.refl noB w).alloc _
  have hIa : InfIs (w.alloc (.cells #[.int .i64 0, .bool false, .int .i64 0] 33 (0, 0))) fb rb g B p most sv sd lt ds := h.keep hF0 id id id (fun _ _ _ _ h => h)
  have HB := ibits_good fb rb g p 3 B sd most sv lt ds _ hIa hB (by omega) (by decide) hp
  rw [hn] at HB
  have HI : Hid (InfIs w fb rb g B p most sv sd lt ds) := h
  have HA : Hid (Alw w fb rb lt ds) := hA
  have hfw : fb < w.heap.size := lt_of_block HI.out.at_
  have hrl : rb < fb := HI.out.rlt
  have hgl : g < fb := HI.out.glt
  clear h hIa hq hR hA hn
  cases fin
  · simp only [Bool.toNat_false, Nat.reduceMul, Nat.reduceAdd] at HB
    go_enter Tryd.func24, Tryd.ntmps24
    go_wp2_with fail
    refine HB.mono ?_
    rintro e w1 ⟨rfl, hI1, hF1⟩
    obtain ⟨so, sc, hsv, -⟩ := own_slice hI1.own
    rw [HQ.out] at hsv
    subst hsv
    have c2 := cellOf (o := 2) hI1.at_ rfl
    have hA1 : Alw w1 fb rb lt ds := (HA.out.keepI (hF0.weak : Fr (iS w fb rb) w _)).keepI hF1.toI
    have HK : Calls Tryd.prog 37 #[.pointer (some ⟨fb, 0, none⟩)] w1 (fun e w' => e = .returned (.int .i64 ((R.1 : Nat) : Int)) ∧ KP fb rb g B most R w1 w') := by
      have h5 := fixed_any fb rb g (p + 3) B sd most _ lt ds w1 hI1 hA1 hB (by omega) hl hm hm2 (by have := HQ.out; omega) (8 * B.length + 1) (by omega)
      rw [show symsA fixLit fixDis B most (8 * B.length + 1) (p + 3) sd = R by rw [← HR.out]; simp [kndA]] at h5
      exact h5
    clear hI1 HB
    go_wp2_with fail
    refine HK.mono ?_
    rintro e w2 ⟨rfl, hK2⟩
    clear HK
    obtain ⟨⟨sv2, lt2, ds2, hS2, hA2, hI2⟩, hF2⟩ := hK2
    have hKP : KP fb rb g B most R w w2 := ⟨⟨sv2, lt2, ds2, hS2, hA2, hI2⟩, itrans (itrans (hF0.weak : Fr (iS w fb rb) w _) hF1.toI) hF2⟩
    obtain ⟨so2, sc2, hsv2, hle2, hmx2, -⟩ := own_slice hS2.own
    obtain ⟨t, ht⟩ : ∃ t, R.2.2.length = t := ⟨_, rfl⟩
    rw [ht] at hsv2
    subst hsv2
    have ht3 : t ≤ maxLen := by omega
    have ht4 : (t : Int) ≤ 9223372036854775807 := by unfold maxLen at ht3; omega
    have hwr : wrap64 ((t : Int) - (q : Int)) = (t : Int) - (q : Int) := by unfold wrap64; omega
    have d2 := cellOf (o := 2) hS2.at_ rfl
    have ho1 : w1.heap[w.heap.size]? = some (.cells #[.int .i64 0, .bool false, .int .i64 0] 33 (0, 0)) := hF1.obj (heap_alloc_new w _) (fun e => by have e' : w.heap.size = rb := e; omega)
    have ho2 : w2.heap[w.heap.size]? = some (.cells #[.int .i64 0, .bool false, .int .i64 0] 33 (0, 0)) := hF2.obj ho1 (fun e => by
      rcases e with e | e | ⟨_, cs, fr, e⟩
      · omega
      · omega
      · rw [ho1] at e; simp at e)
    have hx0 := cellOf (o := 0) ho2 rfl
    have hx1 := cellOf (o := 1) ho2 rfl
    have hx2 := cellOf (o := 2) ho2 rfl
    have hy0 := freeOf (o := 0) ho2
    have hy1 := freeOf (o := 1) ho2
    have hy2 := freeOf (o := 2) ho2
    have hand0 : bits .and .i64 2 1 = 0 := by kernel_rfl
    have HKP : Hid (KP fb rb g B most R w w2) := hKP
    have HT : Hid (R.2.2.length = t) := ht
    clear hI2 hS2 hA2 hKP ht hA1
    go_wp2_with fail
    have e2 : ∀ (u v x : Value), Fr (oneB w.heap.size) w2 (((w2.setCell ⟨w.heap.size, 0, none⟩ u).setCell ⟨w.heap.size, 1, none⟩ v).setCell ⟨w.heap.size, 2, none⟩ x) := fun u v x => (((Fr.refl _ w2).setOne _ _).setOne _ _).setOne _ _
    refine bodyPost_ret (v := .tuple #[.agg #[.int .i64 1, .bool false, .int .i64 ((t : Int) - (q : Int))], .int .i64 ((R.1 : Nat) : Int)]) ?_ rfl ⟨?_, HKP.out.block (Nat.le_refl _) ho2 hfw (by omega) (by omega) (e2 _ _ _)⟩
    · simp [results, Tryd.results24, go_sem, hx0, hx1, hx2]
    · simp only [blkV, HT.out]; rfl
  · simp only [Bool.toNat_true, Nat.reduceMul, Nat.reduceAdd] at HB
    go_enter Tryd.func24, Tryd.ntmps24
    go_wp2_with fail
    refine HB.mono ?_
    rintro e w1 ⟨rfl, hI1, hF1⟩
    obtain ⟨so, sc, hsv, -⟩ := own_slice hI1.own
    rw [HQ.out] at hsv
    subst hsv
    have c2 := cellOf (o := 2) hI1.at_ rfl
    have hA1 : Alw w1 fb rb lt ds := (HA.out.keepI (hF0.weak : Fr (iS w fb rb) w _)).keepI hF1.toI
    have HK : Calls Tryd.prog 37 #[.pointer (some ⟨fb, 0, none⟩)] w1 (fun e w' => e = .returned (.int .i64 ((R.1 : Nat) : Int)) ∧ KP fb rb g B most R w1 w') := by
      have h5 := fixed_any fb rb g (p + 3) B sd most _ lt ds w1 hI1 hA1 hB (by omega) hl hm hm2 (by have := HQ.out; omega) (8 * B.length + 1) (by omega)
      rw [show symsA fixLit fixDis B most (8 * B.length + 1) (p + 3) sd = R by rw [← HR.out]; simp [kndA]] at h5
      exact h5
    clear hI1 HB
    go_wp2_with fail
    refine HK.mono ?_
    rintro e w2 ⟨rfl, hK2⟩
    clear HK
    obtain ⟨⟨sv2, lt2, ds2, hS2, hA2, hI2⟩, hF2⟩ := hK2
    have hKP : KP fb rb g B most R w w2 := ⟨⟨sv2, lt2, ds2, hS2, hA2, hI2⟩, itrans (itrans (hF0.weak : Fr (iS w fb rb) w _) hF1.toI) hF2⟩
    obtain ⟨so2, sc2, hsv2, hle2, hmx2, -⟩ := own_slice hS2.own
    obtain ⟨t, ht⟩ : ∃ t, R.2.2.length = t := ⟨_, rfl⟩
    rw [ht] at hsv2
    subst hsv2
    have ht3 : t ≤ maxLen := by omega
    have ht4 : (t : Int) ≤ 9223372036854775807 := by unfold maxLen at ht3; omega
    have hwr : wrap64 ((t : Int) - (q : Int)) = (t : Int) - (q : Int) := by unfold wrap64; omega
    have d2 := cellOf (o := 2) hS2.at_ rfl
    have ho1 : w1.heap[w.heap.size]? = some (.cells #[.int .i64 0, .bool false, .int .i64 0] 33 (0, 0)) := hF1.obj (heap_alloc_new w _) (fun e => by have e' : w.heap.size = rb := e; omega)
    have ho2 : w2.heap[w.heap.size]? = some (.cells #[.int .i64 0, .bool false, .int .i64 0] 33 (0, 0)) := hF2.obj ho1 (fun e => by
      rcases e with e | e | ⟨_, cs, fr, e⟩
      · omega
      · omega
      · rw [ho1] at e; simp at e)
    have hx0 := cellOf (o := 0) ho2 rfl
    have hx1 := cellOf (o := 1) ho2 rfl
    have hx2 := cellOf (o := 2) ho2 rfl
    have hy0 := freeOf (o := 0) ho2
    have hy1 := freeOf (o := 1) ho2
    have hy2 := freeOf (o := 2) ho2
    have hand1 : bits .and .i64 3 1 = 1 := by kernel_rfl
    have HKP : Hid (KP fb rb g B most R w w2) := hKP
    have HT : Hid (R.2.2.length = t) := ht
    clear hI2 hS2 hA2 hKP ht hA1
    go_wp2_with fail
    have e2 : ∀ (u v x : Value), Fr (oneB w.heap.size) w2 (((w2.setCell ⟨w.heap.size, 0, none⟩ u).setCell ⟨w.heap.size, 1, none⟩ v).setCell ⟨w.heap.size, 2, none⟩ x) := fun u v x => (((Fr.refl _ w2).setOne _ _).setOne _ _).setOne _ _
    refine bodyPost_ret (v := .tuple #[.agg #[.int .i64 1, .bool true, .int .i64 ((t : Int) - (q : Int))], .int .i64 ((R.1 : Nat) : Int)]) ?_ rfl ⟨?_, HKP.out.block (Nat.le_refl _) ho2 hfw (by omega) (by omega) (e2 _ _ _)⟩
    · simp [results, Tryd.results24, go_sem, hx0, hx1, hx2]
    · simp only [blkV, HT.out]; rfl
set_option maxRecDepth 100000 in
set_option maxHeartbeats 3200000 in
theorem block_k2 (fb rb g p : Nat) (fin : Bool) (B sd : List Nat) (most : Int) (sv : Value) (lt ds : Option Addr) (w : World) (h : InfIs w fb rb g B p most sv sd lt ds) (hA : Alw w fb rb lt ds) (hTo : Told w) (hrT : rb ≠ toldB) (hB : ∀ x ∈ B, x < 256) (hl : B.length ≤ 1073741824) (hm : 0 ≤ most) (hm2 : most ≤ 9223372036854775807) (hsd : sd.length ≤ 258 * p) (hp : p + 3 ≤ 8 * B.length) (hn : numAt B p 3 = 2 * 2 + fin.toNat) :
    Calls Tryd.prog 24 #[.pointer (some ⟨fb, 0, none⟩)] w fun e w' => e = .returned (.tuple #[blkV (kndA B most 2 (p + 3) sd, 2, fin) sd.length, .int .i64 (((kndA B most 2 (p + 3) sd).1 : Nat) : Int)]) ∧ KP fb rb g B most (kndA B most 2 (p + 3) sd) w w' := by
  obtain ⟨q, hq⟩ : ∃ q, sd.length = q := ⟨_, rfl⟩
  have HQ : Hid (sd.length = q) := hq
  have hsd2 : q ≤ 35184372088832 := by omega
  obtain ⟨R, hR⟩ : ∃ R, kndA B most 2 (p + 3) sd = R := ⟨_, rfl⟩
  have HR : Hid (kndA B most 2 (p + 3) sd = R) := hR
  rw [hR, hq]
  have hF0 : Fr noB w (w.alloc (.cells #[.int .i64 0, .bool false, .int .i64 0] 33 (0, 0))) := (Fr.refl noB w).alloc _
  have hIa : InfIs (w.alloc (.cells #[.int .i64 0, .bool false, .int .i64 0] 33 (0, 0))) fb rb g B p most sv sd lt ds := h.keep hF0 id id id (fun _ _ _ _ h => h)
  have HB := ibits_good fb rb g p 3 B sd most sv lt ds _ hIa hB (by omega) (by decide) hp
  rw [hn] at HB
  have HI : Hid (InfIs w fb rb g B p most sv sd lt ds) := h
  have HA : Hid (Alw w fb rb lt ds) := hA
  have HTo : Hid (Told w) := hTo
  have hfw : fb < w.heap.size := lt_of_block HI.out.at_
  have hrl : rb < fb := HI.out.rlt
  have hgl : g < fb := HI.out.glt
  clear h hIa hq hR hA hn hTo
  cases fin
  · simp only [Bool.toNat_false, Nat.reduceMul, Nat.reduceAdd] at HB
    go_enter Tryd.func24, Tryd.ntmps24
    go_wp2_with fail
    refine HB.mono ?_
    rintro e w1 ⟨rfl, hI1, hF1⟩
    obtain ⟨so, sc, hsv, -⟩ := own_slice hI1.own
    rw [HQ.out] at hsv
    subst hsv
    have c2 := cellOf (o := 2) hI1.at_ rfl
    have hA1 : Alw w1 fb rb lt ds := (HA.out.keepI (hF0.weak : Fr (iS w fb rb) w _)).keepI hF1.toI
    have HK : Calls Tryd.prog 38 #[.pointer (some ⟨fb, 0, none⟩)] w1 (fun e w' => e = .returned (.int .i64 ((R.1 : Nat) : Int)) ∧ KP fb rb g B most R w1 w') := by
      have h5 := dynamic_any fb rb g (p + 3) B sd most _ lt ds w1 hI1 ((HTo.out.keep hF0 id).keep hF1 (fun e => hrT e.symm)) hrT hB (by omega) hl hm hm2 (by have := HQ.out; omega) (8 * B.length + 1) (by omega)
      rw [show dynA B most (8 * B.length + 1) (p + 3) sd = R by rw [← HR.out]; simp [kndA]] at h5
      refine h5.mono ?_
      rintro e w' ⟨rfl, ⟨sv', a1, a2⟩, a3⟩
      exact ⟨rfl, ⟨sv', lt, ds, a1, hA1.keepI a3, a2⟩, a3⟩
    clear hI1 HB
    go_wp2_with fail
    refine HK.mono ?_
    rintro e w2 ⟨rfl, hK2⟩
    clear HK
    obtain ⟨⟨sv2, lt2, ds2, hS2, hA2, hI2⟩, hF2⟩ := hK2
    have hKP : KP fb rb g B most R w w2 := ⟨⟨sv2, lt2, ds2, hS2, hA2, hI2⟩, itrans (itrans (hF0.weak : Fr (iS w fb rb) w _) hF1.toI) hF2⟩
    obtain ⟨so2, sc2, hsv2, hle2, hmx2, -⟩ := own_slice hS2.own
    obtain ⟨t, ht⟩ : ∃ t, R.2.2.length = t := ⟨_, rfl⟩
    rw [ht] at hsv2
    subst hsv2
    have ht3 : t ≤ maxLen := by omega
    have ht4 : (t : Int) ≤ 9223372036854775807 := by unfold maxLen at ht3; omega
    have hwr : wrap64 ((t : Int) - (q : Int)) = (t : Int) - (q : Int) := by unfold wrap64; omega
    have d2 := cellOf (o := 2) hS2.at_ rfl
    have ho1 : w1.heap[w.heap.size]? = some (.cells #[.int .i64 0, .bool false, .int .i64 0] 33 (0, 0)) := hF1.obj (heap_alloc_new w _) (fun e => by have e' : w.heap.size = rb := e; omega)
    have ho2 : w2.heap[w.heap.size]? = some (.cells #[.int .i64 0, .bool false, .int .i64 0] 33 (0, 0)) := hF2.obj ho1 (fun e => by
      rcases e with e | e | ⟨_, cs, fr, e⟩
      · omega
      · omega
      · rw [ho1] at e; simp at e)
    have hx0 := cellOf (o := 0) ho2 rfl
    have hx1 := cellOf (o := 1) ho2 rfl
    have hx2 := cellOf (o := 2) ho2 rfl
    have hy0 := freeOf (o := 0) ho2
    have hy1 := freeOf (o := 1) ho2
    have hy2 := freeOf (o := 2) ho2
    have hand0 : bits .and .i64 4 1 = 0 := by kernel_rfl
    have HKP : Hid (KP fb rb g B most R w w2) := hKP
    have HT : Hid (R.2.2.length = t) := ht
    clear hI2 hS2 hA2 hKP ht hA1
    go_wp2_with fail
    have e2 : ∀ (u v x : Value), Fr (oneB w.heap.size) w2 (((w2.setCell ⟨w.heap.size, 0, none⟩ u).setCell ⟨w.heap.size, 1, none⟩ v).setCell ⟨w.heap.size, 2, none⟩ x) := fun u v x => (((Fr.refl _ w2).setOne _ _).setOne _ _).setOne _ _
    refine bodyPost_ret (v := .tuple #[.agg #[.int .i64 2, .bool false, .int .i64 ((t : Int) - (q : Int))], .int .i64 ((R.1 : Nat) : Int)]) ?_ rfl ⟨?_, HKP.out.block (Nat.le_refl _) ho2 hfw (by omega) (by omega) (e2 _ _ _)⟩
    · simp [results, Tryd.results24, go_sem, hx0, hx1, hx2]
    · simp only [blkV, HT.out]; rfl
  · simp only [Bool.toNat_true, Nat.reduceMul, Nat.reduceAdd] at HB
    go_enter Tryd.func24, Tryd.ntmps24
    go_wp2_with fail
    refine HB.mono ?_
    rintro e w1 ⟨rfl, hI1, hF1⟩
    obtain ⟨so, sc, hsv, -⟩ := own_slice hI1.own
    rw [HQ.out] at hsv
    subst hsv
    have c2 := cellOf (o := 2) hI1.at_ rfl
    have hA1 : Alw w1 fb rb lt ds := (HA.out.keepI (hF0.weak : Fr (iS w fb rb) w _)).keepI hF1.toI
    have HK : Calls Tryd.prog 38 #[.pointer (some ⟨fb, 0, none⟩)] w1 (fun e w' => e = .returned (.int .i64 ((R.1 : Nat) : Int)) ∧ KP fb rb g B most R w1 w') := by
      have h5 := dynamic_any fb rb g (p + 3) B sd most _ lt ds w1 hI1 ((HTo.out.keep hF0 id).keep hF1 (fun e => hrT e.symm)) hrT hB (by omega) hl hm hm2 (by have := HQ.out; omega) (8 * B.length + 1) (by omega)
      rw [show dynA B most (8 * B.length + 1) (p + 3) sd = R by rw [← HR.out]; simp [kndA]] at h5
      refine h5.mono ?_
      rintro e w' ⟨rfl, ⟨sv', a1, a2⟩, a3⟩
      exact ⟨rfl, ⟨sv', lt, ds, a1, hA1.keepI a3, a2⟩, a3⟩
    clear hI1 HB
    go_wp2_with fail
    refine HK.mono ?_
    rintro e w2 ⟨rfl, hK2⟩
    clear HK
    obtain ⟨⟨sv2, lt2, ds2, hS2, hA2, hI2⟩, hF2⟩ := hK2
    have hKP : KP fb rb g B most R w w2 := ⟨⟨sv2, lt2, ds2, hS2, hA2, hI2⟩, itrans (itrans (hF0.weak : Fr (iS w fb rb) w _) hF1.toI) hF2⟩
    obtain ⟨so2, sc2, hsv2, hle2, hmx2, -⟩ := own_slice hS2.own
    obtain ⟨t, ht⟩ : ∃ t, R.2.2.length = t := ⟨_, rfl⟩
    rw [ht] at hsv2
    subst hsv2
    have ht3 : t ≤ maxLen := by omega
    have ht4 : (t : Int) ≤ 9223372036854775807 := by unfold maxLen at ht3; omega
    have hwr : wrap64 ((t : Int) - (q : Int)) = (t : Int) - (q : Int) := by unfold wrap64; omega
    have d2 := cellOf (o := 2) hS2.at_ rfl
    have ho1 : w1.heap[w.heap.size]? = some (.cells #[.int .i64 0, .bool false, .int .i64 0] 33 (0, 0)) := hF1.obj (heap_alloc_new w _) (fun e => by have e' : w.heap.size = rb := e; omega)
    have ho2 : w2.heap[w.heap.size]? = some (.cells #[.int .i64 0, .bool false, .int .i64 0] 33 (0, 0)) := hF2.obj ho1 (fun e => by
      rcases e with e | e | ⟨_, cs, fr, e⟩
      · omega
      · omega
      · rw [ho1] at e; simp at e)
    have hx0 := cellOf (o := 0) ho2 rfl
    have hx1 := cellOf (o := 1) ho2 rfl
    have hx2 := cellOf (o := 2) ho2 rfl
    have hy0 := freeOf (o := 0) ho2
    have hy1 := freeOf (o := 1) ho2
    have hy2 := freeOf (o := 2) ho2
    have hand1 : bits .and .i64 5 1 = 1 := by kernel_rfl
    have HKP : Hid (KP fb rb g B most R w w2) := hKP
    have HT : Hid (R.2.2.length = t) := ht
    clear hI2 hS2 hA2 hKP ht hA1
    go_wp2_with fail
    have e2 : ∀ (u v x : Value), Fr (oneB w.heap.size) w2 (((w2.setCell ⟨w.heap.size, 0, none⟩ u).setCell ⟨w.heap.size, 1, none⟩ v).setCell ⟨w.heap.size, 2, none⟩ x) := fun u v x => (((Fr.refl _ w2).setOne _ _).setOne _ _).setOne _ _
    refine bodyPost_ret (v := .tuple #[.agg #[.int .i64 2, .bool true, .int .i64 ((t : Int) - (q : Int))], .int .i64 ((R.1 : Nat) : Int)]) ?_ rfl ⟨?_, HKP.out.block (Nat.le_refl _) ho2 hfw (by omega) (by omega) (e2 _ _ _)⟩
    · simp [results, Tryd.results24, go_sem, hx0, hx1, hx2]
    · simp only [blkV, HT.out]; rfl
set_option maxRecDepth 100000 in
set_option maxHeartbeats 3200000 in
theorem block_k3 (fb rb g p : Nat) (fin : Bool) (B sd : List Nat) (most : Int) (sv : Value) (lt ds : Option Addr) (w : World) (h : InfIs w fb rb g B p most sv sd lt ds) (hA : Alw w fb rb lt ds) (hB : ∀ x ∈ B, x < 256) (hl : B.length ≤ 1073741824) (hp : p + 3 ≤ 8 * B.length) (hn : numAt B p 3 = 2 * 3 + fin.toNat) :
    Calls Tryd.prog 24 #[.pointer (some ⟨fb, 0, none⟩)] w fun e w' => e = .returned (.tuple #[blkV (kndA B most 3 (p + 3) sd, 3, fin) sd.length, .int .i64 (((kndA B most 3 (p + 3) sd).1 : Nat) : Int)]) ∧ KP fb rb g B most (kndA B most 3 (p + 3) sd) w w' := by
  obtain ⟨q, hq⟩ : ∃ q, sd.length = q := ⟨_, rfl⟩
  have HQ : Hid (sd.length = q) := hq
  obtain ⟨R, hR⟩ : ∃ R, kndA B most 3 (p + 3) sd = R := ⟨_, rfl⟩
  have HR : Hid (kndA B most 3 (p + 3) sd = R) := hR
  rw [hR, hq]
  have hF0 : Fr noB w (w.alloc (.cells #[.int .i64 0, .bool false, .int .i64 0] 33 (0, 0))) := (Fr.refl noB w).alloc _
  have hIa : InfIs (w.alloc (.cells #[.int .i64 0, .bool false, .int .i64 0] 33 (0, 0))) fb rb g B p most sv sd lt ds := h.keep hF0 id id id (fun _ _ _ _ h => h)
  have HB := ibits_good fb rb g p 3 B sd most sv lt ds _ hIa hB (by omega) (by decide) hp
  rw [hn] at HB
  have HI : Hid (InfIs w fb rb g B p most sv sd lt ds) := h
  have HA : Hid (Alw w fb rb lt ds) := hA
  have hfw : fb < w.heap.size := lt_of_block HI.out.at_
  have hrl : rb < fb := HI.out.rlt
  have hgl : g < fb := HI.out.glt
  clear h hIa hq hR hA hn
  cases fin
  · simp only [Bool.toNat_false, Nat.reduceMul, Nat.reduceAdd] at HB
    go_enter Tryd.func24, Tryd.ntmps24
    go_wp2_with fail
    refine HB.mono ?_
    rintro e w1 ⟨rfl, hI1, hF1⟩
    obtain ⟨so, sc, hsv, -⟩ := own_slice hI1.own
    rw [HQ.out] at hsv
    subst hsv
    have c2 := cellOf (o := 2) hI1.at_ rfl
    have hA1 : Alw w1 fb rb lt ds := (HA.out.keepI (hF0.weak : Fr (iS w fb rb) w _)).keepI hF1.toI
    obtain rfl : (30, p + 3, sd) = R := by rw [← HR.out]; simp [kndA]
    have hKP : KP fb rb g B most (30, p + 3, sd) w w1 := ⟨⟨_, lt, ds, hI1.sdIs, hA1, fun h => by simp at h⟩, itrans (hF0.weak : Fr (iS w fb rb) w _) hF1.toI⟩
    have ho1 : w1.heap[w.heap.size]? = some (.cells #[.int .i64 0, .bool false, .int .i64 0] 33 (0, 0)) := hF1.obj (heap_alloc_new w _) (fun e => by have e' : w.heap.size = rb := e; omega)
    have hx0 := cellOf (o := 0) ho1 rfl
    have hx1 := cellOf (o := 1) ho1 rfl
    have hx2 := cellOf (o := 2) ho1 rfl
    have hy0 := freeOf (o := 0) ho1
    have hy1 := freeOf (o := 1) ho1
    have hy2 := freeOf (o := 2) ho1
    have hand0 : bits .and .i64 6 1 = 0 := by kernel_rfl
    have HKP : Hid (KP fb rb g B most (30, p + 3, sd) w w1) := hKP
    clear hI1 hKP hA1 HB
    go_wp2_with fail
    have e2 : ∀ (u v x : Value), Fr (oneB w.heap.size) w1 (((w1.setCell ⟨w.heap.size, 0, none⟩ u).setCell ⟨w.heap.size, 1, none⟩ v).setCell ⟨w.heap.size, 2, none⟩ x) := fun u v x => (((Fr.refl _ w1).setOne _ _).setOne _ _).setOne _ _
    refine bodyPost_ret (v := .tuple #[.agg #[.int .i64 3, .bool false, .int .i64 0], .int .i64 30]) ?_ rfl ⟨?_, HKP.out.block (Nat.le_refl _) ho1 hfw (by omega) (by omega) (e2 _ _ _)⟩
    · simp [results, Tryd.results24, go_sem, hx0, hx1, hx2]
    · simp [blkV, HQ.out]
  · simp only [Bool.toNat_true, Nat.reduceMul, Nat.reduceAdd] at HB
    go_enter Tryd.func24, Tryd.ntmps24
    go_wp2_with fail
    refine HB.mono ?_
    rintro e w1 ⟨rfl, hI1, hF1⟩
    obtain ⟨so, sc, hsv, -⟩ := own_slice hI1.own
    rw [HQ.out] at hsv
    subst hsv
    have c2 := cellOf (o := 2) hI1.at_ rfl
    have hA1 : Alw w1 fb rb lt ds := (HA.out.keepI (hF0.weak : Fr (iS w fb rb) w _)).keepI hF1.toI
    obtain rfl : (30, p + 3, sd) = R := by rw [← HR.out]; simp [kndA]
    have hKP : KP fb rb g B most (30, p + 3, sd) w w1 := ⟨⟨_, lt, ds, hI1.sdIs, hA1, fun h => by simp at h⟩, itrans (hF0.weak : Fr (iS w fb rb) w _) hF1.toI⟩
    have ho1 : w1.heap[w.heap.size]? = some (.cells #[.int .i64 0, .bool false, .int .i64 0] 33 (0, 0)) := hF1.obj (heap_alloc_new w _) (fun e => by have e' : w.heap.size = rb := e; omega)
    have hx0 := cellOf (o := 0) ho1 rfl
    have hx1 := cellOf (o := 1) ho1 rfl
    have hx2 := cellOf (o := 2) ho1 rfl
    have hy0 := freeOf (o := 0) ho1
    have hy1 := freeOf (o := 1) ho1
    have hy2 := freeOf (o := 2) ho1
    have hand1 : bits .and .i64 7 1 = 1 := by kernel_rfl
    have HKP : Hid (KP fb rb g B most (30, p + 3, sd) w w1) := hKP
    clear hI1 hKP hA1 HB
    go_wp2_with fail
    have e2 : ∀ (u v x : Value), Fr (oneB w.heap.size) w1 (((w1.setCell ⟨w.heap.size, 0, none⟩ u).setCell ⟨w.heap.size, 1, none⟩ v).setCell ⟨w.heap.size, 2, none⟩ x) := fun u v x => (((Fr.refl _ w1).setOne _ _).setOne _ _).setOne _ _
    refine bodyPost_ret (v := .tuple #[.agg #[.int .i64 3, .bool true, .int .i64 0], .int .i64 30]) ?_ rfl ⟨?_, HKP.out.block (Nat.le_refl _) ho1 hfw (by omega) (by omega) (e2 _ _ _)⟩
    · simp [results, Tryd.results24, go_sem, hx0, hx1, hx2]
    · simp [blkV, HQ.out]
#print axioms block_k3
end Go.Proofs.YthgnhcdodfildaaDoor
/- A block, right or wrong: its contract. -/
namespace Go.Proofs.YthgnhcdodfildaaDoor
open Go.RowKit Go.Shelf
attribute [local go_sem ↓] Go.wp_at_zero Go.wp_at_succ

set_option maxRecDepth 100000 in
set_option maxHeartbeats 3200000 in
theorem block_short (fb rb g p : Nat) (B sd : List Nat) (most : Int) (sv : Value) (lt ds : Option Addr) (w : World) (h : InfIs w fb rb g B p most sv sd lt ds) (hA : Alw w fb rb lt ds) (hl : B.length ≤ 1073741824) (hp : p ≤ 8 * B.length) (hs : 8 * B.length < p + 3) :
    Calls Tryd.prog 24 #[.pointer (some ⟨fb, 0, none⟩)] w fun e w' => e = .returned (.tuple #[.agg #[.int .i64 0, .bool false, .int .i64 0], .int .i64 33]) ∧ KP fb rb g B most (33, p, sd) w w' := by
  have hF0 : Fr noB w (w.alloc (.cells #[.int .i64 0, .bool false, .int .i64 0] 33 (0, 0))) := (Fr.refl noB w).alloc _
  have hIa : InfIs (w.alloc (.cells #[.int .i64 0, .bool false, .int .i64 0] 33 (0, 0))) fb rb g B p most sv sd lt ds := h.keep hF0 id id id (fun _ _ _ _ h => h)
  have HB := ibits_ends fb rb g p 3 B sd most sv lt ds _ hIa hp (by omega) (by decide) hs
  have hfw : fb < w.heap.size := lt_of_block h.at_
  have hrl : rb < fb := h.rlt
  have hgl : g < fb := h.glt
  have HA : Hid (Alw w fb rb lt ds) := hA
  clear h hIa hA
  go_enter Tryd.func24, Tryd.ntmps24
  go_wp2_with fail
  refine HB.mono ?_
  rintro e w1 ⟨rfl, hI1, hF1⟩
  have hF1' : Fr (iS w fb rb) w w1 := (hF0.trans hF1).weak
  have hKP : KP fb rb g B most (33, p, sd) w w1 := ⟨⟨_, lt, ds, hI1.sdIs, HA.out.keepI hF1', fun h => by simp at h⟩, hF1'⟩
  have ho1 : w1.heap[w.heap.size]? = some (.cells #[.int .i64 0, .bool false, .int .i64 0] 33 (0, 0)) := hF1.obj (heap_alloc_new w _) id
  have hx0 := cellOf (o := 0) ho1 rfl
  have hx1 := cellOf (o := 1) ho1 rfl
  have hx2 := cellOf (o := 2) ho1 rfl
  have hy0 := freeOf (o := 0) ho1
  have hy1 := freeOf (o := 1) ho1
  have hy2 := freeOf (o := 2) ho1
  have HKP : Hid (KP fb rb g B most (33, p, sd) w w1) := hKP
  clear hI1 hKP HB
  go_wp2_with fail
  have e2 : ∀ (u v x : Value), Fr (oneB w.heap.size) w1 (((w1.setCell ⟨w.heap.size, 0, none⟩ u).setCell ⟨w.heap.size, 1, none⟩ v).setCell ⟨w.heap.size, 2, none⟩ x) := fun u v x => (((Fr.refl _ w1).setOne _ _).setOne _ _).setOne _ _
  refine bodyPost_ret (v := .tuple #[.agg #[.int .i64 0, .bool false, .int .i64 0], .int .i64 33]) ?_ rfl ⟨rfl, HKP.out.block (Nat.le_refl _) ho1 hfw (by omega) (by omega) (e2 _ _ _)⟩
  simp [results, Tryd.results24, go_sem, hx0, hx1, hx2]
theorem half_of (h : Nat) : h = 2 * (h / 2) + (h % 2 == 1).toNat := by
  rcases Nat.mod_two_eq_zero_or_one h with e | e
  · rw [e]; simp; omega
  · rw [e]; simp; omega
theorem block_any (fb rb g p : Nat) (B sd : List Nat) (most : Int) (sv : Value) (lt ds : Option Addr) (w : World) (h : InfIs w fb rb g B p most sv sd lt ds) (hA : Alw w fb rb lt ds) (hTo : Told w) (hrT : rb ≠ toldB) (hB : ∀ x ∈ B, x < 256) (hl : B.length ≤ 1073741824) (hm : 0 ≤ most) (hm2 : most ≤ 9223372036854775807) (hsd : sd.length ≤ 258 * p) (hp : p ≤ 8 * B.length) :
    Calls Tryd.prog 24 #[.pointer (some ⟨fb, 0, none⟩)] w fun e w' => e = .returned (.tuple #[blkV (blkA B most p sd) sd.length, .int .i64 (((blkA B most p sd).1.1 : Nat) : Int)]) ∧ KP fb rb g B most (blkA B most p sd).1 w w' := by
  unfold blkA
  by_cases hs : 8 * B.length < p + 3
  · rw [if_pos hs]
    refine (block_short fb rb g p B sd most sv lt ds w h hA hl hp hs).mono ?_
    rintro e w' ⟨rfl, h2⟩
    exact ⟨by simp [blkV], h2⟩
  · rw [if_neg hs]
    have hn := half_of (numAt B p 3)
    have h8 := numAt_lt B p 3
    generalize (numAt B p 3 % 2 == 1) = fin at hn ⊢
    have hk : numAt B p 3 / 2 < 4 := by omega
    generalize numAt B p 3 / 2 = k at hn hk ⊢
    rcases (show k = 0 ∨ k = 1 ∨ k = 2 ∨ k = 3 by omega) with rfl | rfl | rfl | rfl
    · exact block_k0 fb rb g p fin B sd most sv lt ds w h hA hB hl hm hm2 hsd (by omega) hn
    · exact block_k1 fb rb g p fin B sd most sv lt ds w h hA hB hl hm hm2 hsd (by omega) hn
    · exact block_k2 fb rb g p fin B sd most sv lt ds w h hA hTo hrT hB hl hm hm2 hsd (by omega) hn
    · exact block_k3 fb rb g p fin B sd most sv lt ds w h hA hB hl (by omega) hn
#print axioms block_any
end Go.Proofs.YthgnhcdodfildaaDoor
