/- The document's block: what its contract wants. -/
import Derived.Test.YthgnhcdodfildaaDoorK37
namespace Go.Proofs.YthgnhcdodfildaaDoor
open Go.RowKit Go.Shelf

/-- The row of the blocks so far. -/
def BkIs (w : World) (ib : Nat) (bv : Value) (n : Nat) (D : List Value) : Prop := w.ownsRow (ib + 1) 33 3 bv n D
/-- What a block may change: the state, rows of bytes and of blocks above it. -/
def bS (w : World) (ib : Nat) : Nat → Prop := fun k => k = ib ∨ (ib < k ∧ ∃ cs t fr, w.heap[k]? = some (.cells cs t fr) ∧ (t = 5 ∨ t = 33))
theorem Fr.toB {w w' : World} {ib : Nat} (h : Fr (wS w ib) w w') : Fr (bS w ib) w w' := h.mono fun k _ hk => by
  rcases hk with e | ⟨h1, cs, fr, h2⟩
  · exact Or.inl e
  · exact Or.inr ⟨h1, cs, 5, fr, h2, Or.inl rfl⟩
theorem btrans {a b c : World} {ib : Nat} (h : Fr (bS a ib) a b) (k : Fr (bS b ib) b c) : Fr (bS a ib) a c :=
  ⟨k.os.trans h.os, k.tape.trans h.tape, k.output.trans h.output, Nat.le_trans h.size k.size, fun i hi hn => by
    have e := h.block i hi hn
    rw [← e]
    refine k.block i (Nat.lt_of_lt_of_le hi h.size) ?_
    rintro (e' | ⟨h1, cs, t, fr, h2, h3⟩)
    · exact hn (Or.inl e')
    · exact hn (Or.inr ⟨h1, cs, t, fr, by rw [← e]; exact h2, h3⟩)⟩
theorem own_blk3 {w : World} {base n : Nat} {so : Option Addr} {sc : Nat} {xs : List Value} (h : w.ownsRow base 33 3 (.slice so n sc) n xs) (k : Nat) (hk : (Value.slice so n sc).ownBlock = some k) : base ≤ k ∧ ∃ cur, w.heap[k]? = some (.cells cur 33 (0, 0)) := by
  rcases h.2 with ⟨hv, hz⟩ | ⟨g, cap, cur, hv, hb, hg, _⟩
  · injection hv with e1 e2 e3
    rw [e1] at hk
    cases hk
  · injection hv with e1 e2 e3
    rw [e1] at hk
    cases hk
    exact ⟨hb, cur, hg⟩
theorem BkIs.keep {S : Nat → Prop} {w w' : World} {ib n : Nat} {bv : Value} {D : List Value} (h : BkIs w ib bv n D) (hF : Fr S w w') (hs : ∀ k cur, ib < k → w.heap[k]? = some (.cells cur 33 (0, 0)) → ¬ S k) : BkIs w' ib bv n D := by
  obtain ⟨o1, o2⟩ := h
  refine ⟨o1, ?_⟩
  rcases o2 with o2 | ⟨g', cap', cur', k1, k2, k3, k4⟩
  · exact Or.inl o2
  · exact Or.inr ⟨g', cap', cur', k1, k2, hF.obj k3 (hs g' _ (by omega) k3), k4⟩
theorem BkIs.keepW {w w' : World} {ib n : Nat} {bv : Value} {D : List Value} {w0 : World} (h : BkIs w0 ib bv n D) (hF : Fr (wS w0 ib) w0 w') (_ : w = w0 := by rfl) : BkIs w' ib bv n D :=
  h.keep hF (fun k cur hk hc => by
    rintro (e | ⟨_, cs, fr, e⟩)
    · omega
    · rw [hc] at e; cases e)
theorem infoBk : (Tryd.prog.info? 33).map (fun i => (i.zero, i.size, i.bytes)) = some (some (.agg #[.int .i64 0, .bool false, .int .i64 0]), 3, 24) := by kernel_rfl
theorem blk_src (w : World) (a b c : Value) (t : TypeId) : ∀ j u, [a, b, c][j]? = some u → (w.alloc (.cells #[a, b, c] t (0, 0))).cell? ((⟨w.heap.size, 0, none⟩ : Addr).add j) = some u := by
  intro j u hj
  rw [add_none]
  refine cellOf (heap_alloc_new _ _) ?_
  rw [Nat.zero_add]
  simpa using hj
theorem StIs.blk {w w4 : World} {ib p er n n4 : Nat} {v ov v4 : Value} {bo : Option Addr} {bc : Nat} {B O : List Nat} {D D4 : List Value} {mo : Int} (h : StIs w ib v B p mo ov O er (.slice bo n bc)) (hb : BkIs w ib (.slice bo n bc) n D)
    (ho : w4.ownsRow (ib + 1) 33 3 v4 n4 D4) (hF : Fr (fun b => (Value.slice bo n bc).ownBlock = some b) w w4) :
    StIs (w4.setCell ⟨ib, 5, none⟩ v4) ib v B p mo ov O er v4 ∧ BkIs (w4.setCell ⟨ib, 5, none⟩ v4) ib v4 n4 D4 ∧ Fr (bS w ib) w (w4.setCell ⟨ib, 5, none⟩ v4) := by
  have h4 : StIs w4 ib v B p mo ov O er (.slice bo n bc) := h.keep hF (fun e => by have := (own_blk3 hb _ e).1; omega) (fun b hb' e => by have := (own_blk3 hb _ e).1; omega) (fun k cur _ hk e => by
    obtain ⟨_, cur', hc⟩ := own_blk3 hb _ e
    rw [hk] at hc
    cases hc)
  refine ⟨⟨?_, ?_, h.vlt, ?_⟩, ?_, ?_⟩
  · have h1 := setOf 5 v4 h4.at_
    exact h1
  · refine h4.bs.fr ((Fr.refl (oneB ib) w4).setOne 5 v4) (fun ao len cap b off e1 e2 e => ?_)
    subst e2
    have := h.vlt b off len cap e1
    have e' : b = ib := e
    omega
  · obtain ⟨o1, o2⟩ := h4.own
    refine ⟨o1, ?_⟩
    rcases o2 with o2 | ⟨g', cap', cur', k1, k2, k3, k4⟩
    · exact Or.inl o2
    · exact Or.inr ⟨g', cap', cur', k1, k2, (Below.heap_setCell _ _ _ _ (by show g' ≠ ib; omega)).trans k3, k4⟩
  · exact BkIs.keep (S := oneB ib) ho ((Fr.refl (oneB ib) w4).setOne 5 v4) (fun k cur hk _ e => by have e' : k = ib := e; omega)
  · refine (hF.mono (fun k _ hk => ?_)).setCell _ (Or.inl (Or.inl rfl)) _
    obtain ⟨h1, cur, h2⟩ := own_blk3 hb k hk
    exact Or.inr ⟨by omega, cur, _, (0, 0), h2, Or.inr rfl⟩
theorem OwnN.nsW {base ib : Nat} {w : World} {so : Option Addr} {sc : Nat} {M : List Nat} (h : OwnN base w so sc M) (hib : ib < base) (h0 : 0 < M.length) : ∀ w', Fr (wS w ib) w w' → Ns .i64 w' (.slice so M.length sc) (up M) := by
  intro w' hf
  have h' : OwnN base w' so sc M := h.keepB hf (fun b e => by
    obtain ⟨h1, cur, h2⟩ := own_blk h b e
    rintro (e' | ⟨_, cs, fr, e'⟩)
    · omega
    · rw [h2] at e'; cases e')
  rcases h'.2 with ⟨hv, hz⟩ | ⟨g, cap, cur, hv, hb, hg, h1, h2, _⟩
  · omega
  · injection hv with e1 e2 e3
    subst e1 e3
    refine ⟨some ⟨g, 0, none⟩, sc, by rw [length_up], by rw [length_up]; exact h1, h2, by simp, Or.inr ⟨g, 0, rfl, lt_of_block hg, fun i hi => ?_⟩⟩
    rw [length_up] at hi
    obtain ⟨g', e, _, _, c⟩ := OwnN.cells h' i M[i] (by simp [hi])
    injection e with e; injection e with e
    subst e
    rw [Nat.zero_add, c]
    simp [up]
theorem hdA_ok (B : List Nat) (p : Nat) (h : (hdA B p).1 = 0) : p ≤ (hdA B p).2.1 ∧ (hdA B p).2.1 ≤ 8 * B.length ∧ Code (hdA B p).2.2.1 ∧ Code (hdA B p).2.2.2 ∧ (hdA B p).2.2.1.length ≤ 65536 := by
  unfold hdA at *
  split at h
  · simp at h
  rename_i c1
  rw [if_neg c1]
  split at h
  · simp at h
  rename_i c2
  rw [if_neg c2]
  split at h
  · simp at h
  rename_i c3
  rw [if_neg c3]
  split at h
  · simp at h
  rename_i c4
  rw [if_neg c4]
  split at h
  · rename_i c5; exact absurd h c5
  rename_i c5
  rw [if_neg c5]
  split at h
  · simp at h
  rename_i c6
  rw [if_neg c6]
  split at h
  · simp at h
  rename_i c7
  rw [if_neg c7]
  have hl : (hLen B p).1 = 0 → (hLen B p).2.2.length = hLit B p + hDis B p ∧ p + 14 + 3 * hMny B p ≤ (hLen B p).2.1 ∧ (hLen B p).2.1 ≤ 8 * B.length := lenA_ok (hCol B p) B (hLit B p + hDis B p) (hLit B p + hDis B p + 1) (p + 14 + 3 * hMny B p) [] (by simp) (by omega)
  obtain ⟨l1, l2, l3⟩ := hl (Classical.byContradiction c5)
  refine ⟨by simp only; omega, l3, code_is _ (Classical.byContradiction fun hh => c7 (Or.inl hh)), code_is _ (Classical.byContradiction fun hh => c7 (Or.inr hh)), ?_⟩
  simp only [List.length_take]
  omega
theorem head_rb2 (B : List Nat) (p : Nat) (hp : p ≤ 8 * B.length) : ∃ x1 e1 p1 x2 e2 p2 : Nat, rbA B 0 p 1 = (x1, e1, p1) ∧ rbA B e1 p1 2 = (x2, e2, p2) ∧ x1 ≤ 1 ∧ x2 ≤ 3 ∧ p1 ≤ 8 * B.length ∧ p2 ≤ 8 * B.length ∧
    ((8 * B.length < p + 3 ∧ e2 = 33) ∨ (p + 3 ≤ 8 * B.length ∧ e2 = 0 ∧ p2 = p + 3 ∧ numAt B p 3 % 2 = x1 ∧ numAt B p 3 / 2 = x2)) := by
  have h1 := numAt_add B p 1 2
  rw [show (1 + 2 : Nat) = 3 from rfl] at h1
  have l1 := numAt_lt B p 1
  have l2 := numAt_lt B (p + 1) 2
  by_cases c1 : p + 1 ≤ 8 * B.length
  · have e1 : rbA B 0 p 1 = (numAt B p 1, 0, p + 1) := by unfold rbA bitA; rw [if_pos rfl, if_pos c1]
    by_cases c2 : p + 1 + 2 ≤ 8 * B.length
    · have e2 : rbA B 0 (p + 1) 2 = (numAt B (p + 1) 2, 0, p + 1 + 2) := by unfold rbA bitA; rw [if_pos rfl, if_pos c2]
      exact ⟨_, _, _, _, _, _, e1, e2, by omega, by omega, by omega, by omega, Or.inr ⟨by omega, rfl, by omega, by omega, by omega⟩⟩
    · have e2 : rbA B 0 (p + 1) 2 = (0, 33, p + 1) := by unfold rbA bitA; rw [if_pos rfl, if_neg c2]
      exact ⟨_, _, _, _, _, _, e1, e2, by omega, by omega, by omega, by omega, Or.inl ⟨by omega, rfl⟩⟩
  · have e1 : rbA B 0 p 1 = (0, 33, p) := by unfold rbA bitA; rw [if_pos rfl, if_neg c1]
    have e2 : rbA B 33 p 2 = (0, 33, p) := rfl
    exact ⟨_, _, _, _, _, _, e1, e2, by omega, by omega, by omega, by omega, Or.inl ⟨by omega, rfl⟩⟩
#print axioms StIs.blk
#print axioms hdA_ok
#print axioms head_rb2
end Go.Proofs.YthgnhcdodfildaaDoor
/- The document's block: its contract. -/
namespace Go.Proofs.YthgnhcdodfildaaDoor
open Go.RowKit Go.Shelf
attribute [local go_sem ↓] Go.wp_at_zero Go.wp_at_succ

set_option maxRecDepth 100000 in
set_option maxHeartbeats 6400000 in
theorem rblock_any (ib p n : Nat) (v ov : Value) (bo : Option Addr) (bc : Nat) (B O : List Nat) (D : List Value) (mo : Int) (w : World) (h : StIs w ib v B p mo ov O 0 (.slice bo n bc)) (hbk : BkIs w ib (.slice bo n bc) n D) (hB : ∀ x ∈ B, x < 256) (hp : p ≤ 8 * B.length) (hl : B.length ≤ 1073741824) (hm : 0 ≤ mo) (hm2 : mo ≤ 9223372036854775807) (hO : O.length ≤ 258 * p) (hOm : (O.length : Int) ≤ mo) (hn : n ≤ 8589934600) :
    Calls Tryd.prog 28 #[.pointer (some ⟨ib, 0, none⟩)] w fun e w' => ∃ fb, e = .returned (.bool fb) ∧ Fr (bS w ib) w w' ∧
      ((blkA B mo p O).1.1 ≠ 0 → ∃ ov' p', StIs w' ib v B p' mo ov' (blkA B mo p O).1.2.2 (blkA B mo p O).1.1 (.slice bo n bc) ∧ p' ≤ 8 * B.length ∧ BkIs w' ib (.slice bo n bc) n D) ∧
      ((blkA B mo p O).1.1 = 0 → fb = (blkA B mo p O).2.2 ∧ ∃ ov' bv', StIs w' ib v B (blkA B mo p O).1.2.1 mo ov' (blkA B mo p O).1.2.2 0 bv' ∧ BkIs w' ib bv' (n + 1) (D ++ [.int .i64 (((blkA B mo p O).2.1 : Nat) : Int), .bool (blkA B mo p O).2.2, .int .i64 (((blkA B mo p O).1.2.2.length : Int) - (O.length : Int))])) := by
  obtain ⟨b0, hb, hb0, hb1, hb2⟩ := info_parts infoBk
  have HHB : Hid (∀ x ∈ B, x < 256) := hB
  have HI : Hid (StIs w ib v B p mo ov O 0 (.slice bo n bc)) := h
  have HBk : Hid (BkIs w ib (.slice bo n bc) n D) := hbk
  obtain ⟨q0, hq0⟩ : ∃ q0, O.length = q0 := ⟨_, rfl⟩
  have HQ0 : Hid (O.length = q0) := hq0
  obtain ⟨so, sc, hov, -⟩ := own_slice h.own
  rw [hq0] at hov
  subst hov
  obtain ⟨x1, e1, p1, x2, e2, p2, hr1, hr2, hx1, hx2, hp1, hp2, hcase⟩ := head_rb2 B p hp
  have C1 := rbits_any mo (.slice so q0 sc) (.slice bo n bc) 0 ib v B p 1 w h.at_ h.bs hB hp (by omega) (by decide)
  have C2 := fun w' (hs : SfAt mo (.slice so q0 sc) (.slice bo n bc) e1 w' ib v p1) (hb' : Bs w' v B) => rbits_any mo (.slice so q0 sc) (.slice bo n bc) e1 ib v B p1 2 w' hs hb' hB hp1 (by omega) (by decide)
  rw [hr1] at C1
  rw [hr2] at C2
  have HC2 : Hid _ := C2
  obtain ⟨fb, hfb⟩ : ∃ fb, decide (x1 = 1) = fb := ⟨_, rfl⟩
  have hf1 : ((x1 : Int) == 1) = fb := by
    rw [← hfb, Bool.eq_iff_iff]
    simp only [beq_iff_eq, decide_eq_true_eq]
    omega
  have hf2 : decide ((x1 : Int) = 1) = fb := by
    rw [← hfb, Bool.eq_iff_iff]
    simp only [decide_eq_true_eq]
    omega
  have HCS : Hid _ := hcase
  have HFB : Hid (decide (x1 = 1) = fb) := hfb
  clear h hbk hB C2 hr1 hr2 hcase hq0
  go_enter Tryd.func28, Tryd.ntmps28
  go_wp2_with fail
  refine C1.mono ?_
  rintro e w2 ⟨rfl, hS2, hF2⟩
  have HI2 : Hid (StIs w2 ib v B p1 mo (.slice so q0 sc) O e1 (.slice bo n bc)) := HI.out.rdr hF2 hS2
  have C2 := HC2.out w2 hS2 HI2.out.bs
  clear C1 hS2 HC2
  go_wp2_with fail
  refine C2.mono ?_
  rintro e w3 ⟨rfl, hS3, hF3⟩
  have HI3' : Hid (StIs w3 ib v B p2 mo (.slice so q0 sc) O e2 (.slice bo n bc)) := HI2.out.rdr hF3 hS3
  have HF3 : Hid (Fr (oneB ib) w w3) := hF2.trans hF3
  have c3 := cellOf (o := 3) HI3'.out.at_ rfl
  have c4 := cellOf (o := 4) HI3'.out.at_ rfl
  clear C2 hS3 hF3 hF2 HI2
  rcases HCS.out with ⟨hsh, he2⟩ | ⟨hen, he2, hpp, hk1, hk2⟩
  · subst he2
    have HBA : Hid (blkA B mo p O = ((33, p, O), 0, false)) := by show _ = _; unfold blkA; rw [if_pos hsh]
    have HBW : Hid (BkIs w3 ib (.slice bo n bc) n D) := HBk.out.keepW HF3.out.toW
    go_wp2_with fail
    go_ret
    rw [HBA.out]
    exact ⟨fb, rfl, HF3.out.toW.toB, fun _ => ⟨_, p2, HI3'.out, hp2, HBW.out⟩, fun h => by simp at h⟩
  subst he2 hpp
  have HI3 := HI3'
  have HK1 : Hid ((numAt B p 3 % 2 == 1) = fb) := by show _ = _; rw [← HFB.out, hk1, Bool.eq_iff_iff]; simp
  have HK2 : Hid (numAt B p 3 / 2 = x2) := hk2
  have hq0b : q0 ≤ 258 * p := by rw [← HQ0.out]; exact hO
  have hx : x2 = 0 ∨ x2 = 1 ∨ x2 = 2 ∨ x2 = 3 := by omega
  clear hk1 hk2 HI3' HCS hx2
  rcases hx with rfl | rfl | rfl | rfl
  · have HBA0 : Hid (blkA B mo p O = (kndA B mo 0 (p + 3) O, 0, fb)) := by
      show _ = _
      unfold blkA
      rw [if_neg (by omega), HK2.out, HK1.out]
    obtain ⟨R, hR⟩ : ∃ R, stoA B (p + 3) O mo = R := ⟨_, rfl⟩
    have HBA : Hid (blkA B mo p O = (R, 0, fb)) := by show _ = _; rw [HBA0.out, ← hR]; rfl
    have HQL : Hid (R.1 = 0 → R.2.2.length ≤ 258 * R.2.1 ∧ R.2.1 ≤ 8 * B.length) := fun h => by
      rw [← hR] at h ⊢
      have := stoA_ok B (p + 3) O mo (by omega) h
      exact ⟨this.2.2.1, this.2.1⟩
    have CS := rstored_any ib v B (p + 3) mo (.slice so q0 sc) O (.slice bo n bc) w3 HI3.out (by simp) HHB.out (by omega) hl hm hm2 (by omega)
    rw [hR] at CS
    clear hR
    go_wp2_with fail
    refine CS.mono ?_
    rintro e w4 ⟨rfl, ⟨ovk, p4, hIK, hp4, hEK⟩, hFK⟩
    have HIK : Hid (StIs w4 ib v B p4 mo ovk R.2.2 R.1 (.slice bo n bc)) := hIK
    have HFK : Hid (Fr (wS w ib) w w4) := wtrans HF3.out.toW hFK
    have HEK : Hid (R.1 = 0 → p4 = R.2.1) := hEK
    clear CS hEK hFK c3
    obtain ⟨⟨er, pe, Q⟩, hRR⟩ : ∃ y, y = R := ⟨R, rfl⟩
    subst hRR
    simp only at HIK HEK
    by_cases hz : er = 0
    case neg =>
      have k4 := cellOf (o := 4) HIK.out.at_ rfl
      have hz' : ¬ (er : Int) = 0 := by omega
      have hzb : ((er : Int) == 0) = false := by rw [beq_eq_false_iff_ne]; omega
      have HNE : Hid (er ≠ 0) := hz
      have HBW : Hid (BkIs w4 ib (.slice bo n bc) n D) := HBk.out.keepW HFK.out
      clear hz
      go_wp2_with fail
      go_ret
      rw [HBA.out]
      exact ⟨fb, rfl, HFK.out.toB, fun _ => ⟨_, p4, HIK.out, by omega, HBW.out⟩, fun h => absurd h HNE.out⟩
    subst hz
    obtain rfl := HEK.out rfl
    have HIK0 : Hid (StIs w4 ib v B p4 mo ovk Q 0 (.slice bo n bc)) := HIK.out
    have HBW : Hid (BkIs w4 ib (.slice bo n bc) n D) := HBk.out.keepW HFK.out
    have hQ := HQL.out rfl
    obtain ⟨q, hq⟩ : ∃ q, Q.length = q := ⟨_, rfl⟩
    have HQ : Hid (Q.length = q) := hq
    obtain ⟨oo, oc, hov, -⟩ := own_slice HIK0.out.own
    simp only at hQ
    rw [hq] at hov hQ
    subst hov
    have k4 := cellOf (o := 4) HIK0.out.at_ rfl
    have k3 : w4.cell? ⟨ib, 3, none⟩ = some (.slice oo q oc) := cellOf (o := 3) HIK0.out.at_ rfl
    have k5 : w4.cell? ⟨ib, 5, none⟩ = some (.slice bo n bc) := cellOf (o := 5) HIK0.out.at_ rfl
    obtain ⟨db, hdb⟩ : ∃ db : Int, (q : Int) - (q0 : Int) = db := ⟨_, rfl⟩
    have hdw : IntKind.i64.wrap db = db := by rw [IntKind.wrap_i64]; omega
    have hdw2 : wrap64 db = db := by unfold wrap64; omega
    have HDB : Hid ((q : Int) - (q0 : Int) = db) := hdb
    have HBd : Hid (w4.drew.ownsRow (ib + 1) 33 3 (.slice bo n bc) n D) := HBW.out
    have hib' : ib < w4.heap.size := lt_of_block HIK0.out.at_
    have a3 : (w4.alloc (.cells #[.int .i64 0, .bool fb, .int .i64 db] 33 (0, 0))).drew.cell? ⟨ib, 3, none⟩ = some (.slice oo q oc) := (((Fr.refl noB w4).alloc (.cells #[.int .i64 0, .bool fb, .int .i64 db] 33 (0, 0))).cell (a := ⟨ib, 3, none⟩) hib' id).trans k3
    have a5 : (w4.alloc (.cells #[.int .i64 0, .bool fb, .int .i64 db] 33 (0, 0))).drew.cell? ⟨ib, 5, none⟩ = some (.slice bo n bc) := (((Fr.refl noB w4).alloc (.cells #[.int .i64 0, .bool fb, .int .i64 db] 33 (0, 0))).cell (a := ⟨ib, 5, none⟩) hib' id).trans k5
    have HNB : Hid (¬ (Value.slice bo n bc).ownBlock = some ib) := fun e => by have := (own_blk3 HBW.out _ e).1; omega
    clear hq hIK HBk
    go_wp2_with fail
    go_region_law (refine step_append_lies _ rfl _ _ 29 rfl (ib + 1) 33 b0 (.agg #[.int .i64 0, .bool false, .int .i64 0]) 3 24 Tryd.underlying29 hb hb0 hb1 hb2 rfl (by decide) _ n D rfl (HBd.out.alloc _) ⟨w4.heap.size, 0, none⟩ 1 1 [.int .i64 0, .bool fb, .int .i64 db] rfl rfl (blk_src w4.drew _ _ _ _) (by intro u hu; simp at hu; rcases hu with rfl | rfl | rfl <;> rfl) (by decide) (by unfold maxLen; omega) (by omega) (by simp; omega) _ rfl ?_; intro g4 cap4 wA hown4 hg4 _ _; have hF4 : Fr (fun b => (Value.slice bo n bc).ownBlock = some b) w4 wA := (((Fr.refl _ w4).drew).alloc (.cells #[.int .i64 0, .bool fb, .int .i64 db] 33 (0, 0))).grown hg4 (fun k hk => Or.inl hk); have hat4 := hF4.obj HIK0.out.at_ HNB.out; have d43 := cellOf (o := 5) hat4 rfl; have f43 := freeOf 5 hat4)
    all_goals
      have hS7 := StIs.blk HIK0.out HBW.out hown4 hF4
      have HS7 : Hid _ := hS7
      clear hS7 hown4 hg4 hat4 hF4 d43 f43 HBd k3 k4 k5 a3 a5
      go_wp2_with fail
      go_ret
      rw [HBA.out]
      refine ⟨fb, rfl, btrans HFK.out.toB HS7.out.2.2, fun h => absurd rfl h, fun _ => ⟨rfl, _, _, HS7.out.1, ?_⟩⟩
      have hh := HS7.out.2.1
      rw [HQ.out, HQ0.out, HDB.out]
      exact hh
  · have HBA0 : Hid (blkA B mo p O = (kndA B mo 1 (p + 3) O, 1, fb)) := by
      show _ = _
      unfold blkA
      rw [if_neg (by omega), HK2.out, HK1.out]
    obtain ⟨R, hR⟩ : ∃ R, symsA fixLit fixDis B mo (8 * B.length + 1) (p + 3) O = R := ⟨_, rfl⟩
    have HBA : Hid (blkA B mo p O = (R, 1, fb)) := by show _ = _; rw [HBA0.out, ← hR]; rfl
    have HQL : Hid (R.1 = 0 → R.2.2.length ≤ 258 * R.2.1 ∧ R.2.1 ≤ 8 * B.length) := fun h => by
      rw [← hR] at h ⊢
      have := symsA_ok fixLit fixDis B mo (8 * B.length + 1) (p + 3) O (by omega) (by have := HQ0.out; omega) (by omega) h
      exact ⟨this.2.2.1, this.2.1⟩
    have HR : Hid (symsA fixLit fixDis B mo (8 * B.length + 1) (p + 3) O = R) := hR
    clear hR
    go_wp2_with fail
    refine (rfixed_any w3).mono ?_
    rintro e w5 ⟨s1, t1, s2, t2, rfl, hM5, hN5, hF5⟩
    obtain ⟨w6, hw6⟩ : ∃ w6, w6 = (w5.alloc (.cells #[.slice s1 288 t1] 86 (0, 0))).alloc (.cells #[.slice s2 32 t2] 86 (0, 0)) := ⟨_, rfl⟩
    have hF56 : Fr noB w5 w6 := by rw [hw6]; exact ((Fr.refl noB w5).alloc _).alloc _
    have hF6 : Fr noB w3 w6 := hF5.trans hF56
    have HI6 : Hid (StIs w6 ib v B (p + 3) mo (.slice so q0 sc) O 0 (.slice bo n bc)) := HI3.out.rdr hF6.weak (hF6.obj HI3.out.at_ id)
    have hib3 : ib < w3.heap.size := lt_of_block HI3.out.at_
    have CY := rsymbols_any ib (p + 3) v (.slice s1 288 t1) (.slice s2 32 t2) (.slice so q0 sc) (.slice bo n bc) B fixLit fixDis O mo w6 HI6.out (fun w' hf => by have := (hM5.keepB hF56 (fun _ _ h => h)).nsW (ib := ib) (by omega) (by decide) w' hf; exact this) (fun w' hf => by have := (hN5.keepB hF56 (fun _ _ h => h)).nsW (ib := ib) (by omega) (by decide) w' hf; exact this) fix_code fixDis_code (by decide) HHB.out (by omega) hl hm hm2 (by omega) (8 * B.length + 1) (by omega)
    rw [HR.out] at CY
    have HF6 : Hid (Fr (wS w ib) w w6) := wtrans HF3.out.toW hF6.weak
    have HW6 : Hid _ := hw6
    clear hw6 hM5 hN5 hF56 hF5 HR hF6 c3
    go_wp2_with fail
    rw [← HW6.out]
    refine CY.mono ?_
    rintro e w4 ⟨rfl, ⟨ovk, p4, hIK, hp4, hEK⟩, hFK⟩
    have HIK : Hid (StIs w4 ib v B p4 mo ovk R.2.2 R.1 (.slice bo n bc)) := hIK
    have HFK : Hid (Fr (wS w ib) w w4) := wtrans HF6.out hFK
    have HEK : Hid (R.1 = 0 → p4 = R.2.1) := hEK
    clear CY hEK hFK HW6
    obtain ⟨⟨er, pe, Q⟩, hRR⟩ : ∃ y, y = R := ⟨R, rfl⟩
    subst hRR
    simp only at HIK HEK
    by_cases hz : er = 0
    case neg =>
      have k4 := cellOf (o := 4) HIK.out.at_ rfl
      have hz' : ¬ (er : Int) = 0 := by omega
      have hzb : ((er : Int) == 0) = false := by rw [beq_eq_false_iff_ne]; omega
      have HNE : Hid (er ≠ 0) := hz
      have HBW : Hid (BkIs w4 ib (.slice bo n bc) n D) := HBk.out.keepW HFK.out
      clear hz
      go_wp2_with fail
      go_ret
      rw [HBA.out]
      exact ⟨fb, rfl, HFK.out.toB, fun _ => ⟨_, p4, HIK.out, by omega, HBW.out⟩, fun h => absurd h HNE.out⟩
    subst hz
    obtain rfl := HEK.out rfl
    have HIK0 : Hid (StIs w4 ib v B p4 mo ovk Q 0 (.slice bo n bc)) := HIK.out
    have HBW : Hid (BkIs w4 ib (.slice bo n bc) n D) := HBk.out.keepW HFK.out
    have hQ := HQL.out rfl
    obtain ⟨q, hq⟩ : ∃ q, Q.length = q := ⟨_, rfl⟩
    have HQ : Hid (Q.length = q) := hq
    obtain ⟨oo, oc, hov, -⟩ := own_slice HIK0.out.own
    simp only at hQ
    rw [hq] at hov hQ
    subst hov
    have k4 := cellOf (o := 4) HIK0.out.at_ rfl
    have k3 : w4.cell? ⟨ib, 3, none⟩ = some (.slice oo q oc) := cellOf (o := 3) HIK0.out.at_ rfl
    have k5 : w4.cell? ⟨ib, 5, none⟩ = some (.slice bo n bc) := cellOf (o := 5) HIK0.out.at_ rfl
    obtain ⟨db, hdb⟩ : ∃ db : Int, (q : Int) - (q0 : Int) = db := ⟨_, rfl⟩
    have hdw : IntKind.i64.wrap db = db := by rw [IntKind.wrap_i64]; omega
    have hdw2 : wrap64 db = db := by unfold wrap64; omega
    have HDB : Hid ((q : Int) - (q0 : Int) = db) := hdb
    have HBd : Hid (w4.drew.ownsRow (ib + 1) 33 3 (.slice bo n bc) n D) := HBW.out
    have hib' : ib < w4.heap.size := lt_of_block HIK0.out.at_
    have a3 : (w4.alloc (.cells #[.int .i64 1, .bool fb, .int .i64 db] 33 (0, 0))).drew.cell? ⟨ib, 3, none⟩ = some (.slice oo q oc) := (((Fr.refl noB w4).alloc (.cells #[.int .i64 1, .bool fb, .int .i64 db] 33 (0, 0))).cell (a := ⟨ib, 3, none⟩) hib' id).trans k3
    have a5 : (w4.alloc (.cells #[.int .i64 1, .bool fb, .int .i64 db] 33 (0, 0))).drew.cell? ⟨ib, 5, none⟩ = some (.slice bo n bc) := (((Fr.refl noB w4).alloc (.cells #[.int .i64 1, .bool fb, .int .i64 db] 33 (0, 0))).cell (a := ⟨ib, 5, none⟩) hib' id).trans k5
    have HNB : Hid (¬ (Value.slice bo n bc).ownBlock = some ib) := fun e => by have := (own_blk3 HBW.out _ e).1; omega
    clear hq hIK HBk
    go_wp2_with fail
    go_region_law (refine step_append_lies _ rfl _ _ 29 rfl (ib + 1) 33 b0 (.agg #[.int .i64 0, .bool false, .int .i64 0]) 3 24 Tryd.underlying29 hb hb0 hb1 hb2 rfl (by decide) _ n D rfl (HBd.out.alloc _) ⟨w4.heap.size, 0, none⟩ 1 1 [.int .i64 1, .bool fb, .int .i64 db] rfl rfl (blk_src w4.drew _ _ _ _) (by intro u hu; simp at hu; rcases hu with rfl | rfl | rfl <;> rfl) (by decide) (by unfold maxLen; omega) (by omega) (by simp; omega) _ rfl ?_; intro g4 cap4 wA hown4 hg4 _ _; have hF4 : Fr (fun b => (Value.slice bo n bc).ownBlock = some b) w4 wA := (((Fr.refl _ w4).drew).alloc (.cells #[.int .i64 1, .bool fb, .int .i64 db] 33 (0, 0))).grown hg4 (fun k hk => Or.inl hk); have hat4 := hF4.obj HIK0.out.at_ HNB.out; have d43 := cellOf (o := 5) hat4 rfl; have f43 := freeOf 5 hat4)
    all_goals
      have hS7 := StIs.blk HIK0.out HBW.out hown4 hF4
      have HS7 : Hid _ := hS7
      clear hS7 hown4 hg4 hat4 hF4 d43 f43 HBd k3 k4 k5 a3 a5
      go_wp2_with fail
      go_ret
      rw [HBA.out]
      refine ⟨fb, rfl, btrans HFK.out.toB HS7.out.2.2, fun h => absurd rfl h, fun _ => ⟨rfl, _, _, HS7.out.1, ?_⟩⟩
      have hh := HS7.out.2.1
      rw [HQ.out, HQ0.out, HDB.out]
      exact hh
  · have HBA0 : Hid (blkA B mo p O = (kndA B mo 2 (p + 3) O, 2, fb)) := by
      show _ = _
      unfold blkA
      rw [if_neg (by omega), HK2.out, HK1.out]
    obtain ⟨R, hR⟩ : ∃ R, dynA B mo (8 * B.length + 1) (p + 3) O = R := ⟨_, rfl⟩
    have HBA : Hid (blkA B mo p O = (R, 2, fb)) := by show _ = _; rw [HBA0.out, ← hR]; rfl
    have HQL : Hid (R.1 = 0 → R.2.2.length ≤ 258 * R.2.1 ∧ R.2.1 ≤ 8 * B.length) := fun h => by
      rw [← hR] at h ⊢
      have := dynA_ok B mo (8 * B.length + 1) (p + 3) O (by omega) (by have := HQ0.out; omega) h
      exact ⟨this.2.2.1, this.2.1⟩
    rw [dynA_hd] at hR
    have CD := rdynamic_any ib (p + 3) v (.slice so q0 sc) (.slice bo n bc) B O mo w3 HI3.out HHB.out (by omega) hl
    have hok : (hdA B (p + 3)).1 = 0 → p + 3 ≤ (hdA B (p + 3)).2.1 ∧ (hdA B (p + 3)).2.1 ≤ 8 * B.length ∧ Code (hdA B (p + 3)).2.2.1 ∧ Code (hdA B (p + 3)).2.2.2 ∧ (hdA B (p + 3)).2.2.1.length ≤ 65536 := hdA_ok B (p + 3)
    generalize hdA B (p + 3) = H at *
    obtain ⟨eh, ph, M, N⟩ := H
    simp only at CD hR hok
    have HR : Hid _ := hR
    clear hR
    go_wp2_with fail
    refine CD.mono ?_
    rintro e w5 ⟨lv, dv, ⟨rfl, ⟨la, lm, lc, rfl⟩, ⟨da, dm, dc, rfl⟩⟩, hF5, hE, hG⟩
    obtain ⟨w6, hw6⟩ : ∃ w6, w6 = (w5.alloc (.cells #[.slice la lm lc] 86 (0, 0))).alloc (.cells #[.slice da dm dc] 86 (0, 0)) := ⟨_, rfl⟩
    have hF56 : Fr noB w5 w6 := by rw [hw6]; exact ((Fr.refl noB w5).alloc _).alloc _
    have HF6 : Hid (Fr (wS w ib) w w6) := wtrans HF3.out.toW (wtrans hF5.toW hF56.weak)
    have HW6 : Hid _ := hw6
    by_cases hz : eh = 0
    case neg =>
      obtain ⟨ph', hI5, hph'⟩ := hE hz
      have HI6 : Hid (StIs w6 ib v B ph' mo (.slice so q0 sc) O eh (.slice bo n bc)) := hI5.rdr hF56.weak (hF56.obj hI5.at_ id)
      have CY := rsymbols_err ib ph' eh v (.slice la lm lc) (.slice da dm dc) (.slice so q0 sc) (.slice bo n bc) B O mo w6 HI6.out hz
      have hRR := HR.out
      rw [if_pos hz] at hRR
      subst hRR
      have hz' : ¬ (eh : Int) = 0 := by omega
      have hzb : ((eh : Int) == 0) = false := by rw [beq_eq_false_iff_ne]; omega
      have HNE : Hid (eh ≠ 0) := hz
      clear hw6 hF56 hF5 HR c3 hz hE hG hok HQL hI5
      go_wp2_with fail
      rw [← HW6.out]
      refine CY.mono ?_
      rintro e w4 ⟨rfl, hIK, hFK⟩
      have HIK : Hid _ := hIK
      have HFK : Hid (Fr (wS w ib) w w4) := wtrans HF6.out hFK
      have HBW : Hid (BkIs w4 ib (.slice bo n bc) n D) := HBk.out.keepW HFK.out
      have k4 := cellOf (o := 4) hIK.at_ rfl
      clear CY hFK HW6 hIK
      go_wp2_with fail
      go_ret
      rw [HBA.out]
      exact ⟨fb, rfl, HFK.out.toB, fun _ => ⟨_, ph', HIK.out, by omega, HBW.out⟩, fun h => absurd h HNE.out⟩
    subst hz
    obtain ⟨hI5, hcl, hcd⟩ := hG rfl
    obtain ⟨o1, o2, o3, o4, o5⟩ := hok rfl
    have hRR := HR.out
    rw [if_neg (by simp)] at hRR
    have HI6 : Hid (StIs w6 ib v B ph mo (.slice so q0 sc) O 0 (.slice bo n bc)) := hI5.rdr hF56.weak (hF56.obj hI5.at_ id)
    have CY := rsymbols_any ib ph v (.slice la lm lc) (.slice da dm dc) (.slice so q0 sc) (.slice bo n bc) B M N O mo w6 HI6.out (fun w' hf => hcl w' (wtrans hF56.weak hf)) (fun w' hf => hcd w' (wtrans hF56.weak hf)) o3 o4 o5 HHB.out (by omega) hl hm hm2 (by omega) (8 * B.length + 1) (by omega)
    rw [hRR] at CY
    clear hw6 hF56 hF5 HR c3 hE hG hok hI5 hcl hcd o3 o4 hRR
    go_wp2_with fail
    rw [← HW6.out]
    refine CY.mono ?_
    rintro e w4 ⟨rfl, ⟨ovk, p4, hIK, hp4, hEK⟩, hFK⟩
    have HIK : Hid (StIs w4 ib v B p4 mo ovk R.2.2 R.1 (.slice bo n bc)) := hIK
    have HFK : Hid (Fr (wS w ib) w w4) := wtrans HF6.out hFK
    have HEK : Hid (R.1 = 0 → p4 = R.2.1) := hEK
    clear CY hEK hFK HW6
    obtain ⟨⟨er, pe, Q⟩, hRR⟩ : ∃ y, y = R := ⟨R, rfl⟩
    subst hRR
    simp only at HIK HEK
    by_cases hz : er = 0
    case neg =>
      have k4 := cellOf (o := 4) HIK.out.at_ rfl
      have hz' : ¬ (er : Int) = 0 := by omega
      have hzb : ((er : Int) == 0) = false := by rw [beq_eq_false_iff_ne]; omega
      have HNE : Hid (er ≠ 0) := hz
      have HBW : Hid (BkIs w4 ib (.slice bo n bc) n D) := HBk.out.keepW HFK.out
      clear hz
      go_wp2_with fail
      go_ret
      rw [HBA.out]
      exact ⟨fb, rfl, HFK.out.toB, fun _ => ⟨_, p4, HIK.out, by omega, HBW.out⟩, fun h => absurd h HNE.out⟩
    subst hz
    obtain rfl := HEK.out rfl
    have HIK0 : Hid (StIs w4 ib v B p4 mo ovk Q 0 (.slice bo n bc)) := HIK.out
    have HBW : Hid (BkIs w4 ib (.slice bo n bc) n D) := HBk.out.keepW HFK.out
    have hQ := HQL.out rfl
    obtain ⟨q, hq⟩ : ∃ q, Q.length = q := ⟨_, rfl⟩
    have HQ : Hid (Q.length = q) := hq
    obtain ⟨oo, oc, hov, -⟩ := own_slice HIK0.out.own
    simp only at hQ
    rw [hq] at hov hQ
    subst hov
    have k4 := cellOf (o := 4) HIK0.out.at_ rfl
    have k3 : w4.cell? ⟨ib, 3, none⟩ = some (.slice oo q oc) := cellOf (o := 3) HIK0.out.at_ rfl
    have k5 : w4.cell? ⟨ib, 5, none⟩ = some (.slice bo n bc) := cellOf (o := 5) HIK0.out.at_ rfl
    obtain ⟨db, hdb⟩ : ∃ db : Int, (q : Int) - (q0 : Int) = db := ⟨_, rfl⟩
    have hdw : IntKind.i64.wrap db = db := by rw [IntKind.wrap_i64]; omega
    have hdw2 : wrap64 db = db := by unfold wrap64; omega
    have HDB : Hid ((q : Int) - (q0 : Int) = db) := hdb
    have HBd : Hid (w4.drew.ownsRow (ib + 1) 33 3 (.slice bo n bc) n D) := HBW.out
    have hib' : ib < w4.heap.size := lt_of_block HIK0.out.at_
    have a3 : (w4.alloc (.cells #[.int .i64 2, .bool fb, .int .i64 db] 33 (0, 0))).drew.cell? ⟨ib, 3, none⟩ = some (.slice oo q oc) := (((Fr.refl noB w4).alloc (.cells #[.int .i64 2, .bool fb, .int .i64 db] 33 (0, 0))).cell (a := ⟨ib, 3, none⟩) hib' id).trans k3
    have a5 : (w4.alloc (.cells #[.int .i64 2, .bool fb, .int .i64 db] 33 (0, 0))).drew.cell? ⟨ib, 5, none⟩ = some (.slice bo n bc) := (((Fr.refl noB w4).alloc (.cells #[.int .i64 2, .bool fb, .int .i64 db] 33 (0, 0))).cell (a := ⟨ib, 5, none⟩) hib' id).trans k5
    have HNB : Hid (¬ (Value.slice bo n bc).ownBlock = some ib) := fun e => by have := (own_blk3 HBW.out _ e).1; omega
    clear hq hIK HBk
    go_wp2_with fail
    go_region_law (refine step_append_lies _ rfl _ _ 29 rfl (ib + 1) 33 b0 (.agg #[.int .i64 0, .bool false, .int .i64 0]) 3 24 Tryd.underlying29 hb hb0 hb1 hb2 rfl (by decide) _ n D rfl (HBd.out.alloc _) ⟨w4.heap.size, 0, none⟩ 1 1 [.int .i64 2, .bool fb, .int .i64 db] rfl rfl (blk_src w4.drew _ _ _ _) (by intro u hu; simp at hu; rcases hu with rfl | rfl | rfl <;> rfl) (by decide) (by unfold maxLen; omega) (by omega) (by simp; omega) _ rfl ?_; intro g4 cap4 wA hown4 hg4 _ _; have hF4 : Fr (fun b => (Value.slice bo n bc).ownBlock = some b) w4 wA := (((Fr.refl _ w4).drew).alloc (.cells #[.int .i64 2, .bool fb, .int .i64 db] 33 (0, 0))).grown hg4 (fun k hk => Or.inl hk); have hat4 := hF4.obj HIK0.out.at_ HNB.out; have d43 := cellOf (o := 5) hat4 rfl; have f43 := freeOf 5 hat4)
    all_goals
      have hS7 := StIs.blk HIK0.out HBW.out hown4 hF4
      have HS7 : Hid _ := hS7
      clear hS7 hown4 hg4 hat4 hF4 d43 f43 HBd k3 k4 k5 a3 a5
      go_wp2_with fail
      go_ret
      rw [HBA.out]
      refine ⟨fb, rfl, btrans HFK.out.toB HS7.out.2.2, fun h => absurd rfl h, fun _ => ⟨rfl, _, _, HS7.out.1, ?_⟩⟩
      have hh := HS7.out.2.1
      rw [HQ.out, HQ0.out, HDB.out]
      exact hh
  · have HBA0 : Hid (blkA B mo p O = (kndA B mo 3 (p + 3) O, 3, fb)) := by
      show _ = _
      unfold blkA
      rw [if_neg (by omega), HK2.out, HK1.out]
    have HBA : Hid (blkA B mo p O = ((30, p + 3, O), 3, fb)) := by show _ = _; rw [HBA0.out]; rfl
    have CF := fail_any mo (.slice so q0 sc) (.slice bo n bc) 0 30 ib v (p + 3) w3 HI3.out.at_
    rw [show erA 0 30 = 30 from rfl] at CF
    go_wp2_with fail
    refine CF.mono ?_
    rintro e w4 ⟨rfl, hS4, hF4⟩
    have HI4 : Hid (StIs w4 ib v B (p + 3) mo (.slice so q0 sc) O 30 (.slice bo n bc)) := HI3.out.rdr hF4 hS4
    have HF4 : Hid (Fr (wS w ib) w w4) := wtrans HF3.out.toW hF4.toW
    have HBW : Hid (BkIs w4 ib (.slice bo n bc) n D) := HBk.out.keepW HF4.out
    have k4 := cellOf (o := 4) HI4.out.at_ rfl
    clear CF hS4 hF4
    go_wp2_with fail
    go_ret
    rw [HBA.out]
    exact ⟨fb, rfl, HF4.out.toB, fun _ => ⟨_, p + 3, HI4.out, by omega, HBW.out⟩, fun h => by simp at h⟩
#print axioms rblock_any
end Go.Proofs.YthgnhcdodfildaaDoor
/- The document's read and Inflate: their contracts. -/
namespace Go.Proofs.YthgnhcdodfildaaDoor
open Go.RowKit Go.Shelf
attribute [local go_sem ↓] Go.wp_at_zero Go.wp_at_succ

theorem bS_new {w w0 w' : World} {ib : Nat} (hib : w.heap.size = ib) (h0 : Fr noB w w0) (h : Fr (bS w0 ib) w0 w') : Fr noB w w' :=
  h0.then h (fun k hk => by
    rcases hk with e | ⟨e, _⟩
    · exact Or.inr (by omega)
    · exact Or.inr (by omega))
/-- What read answers: the state. -/
def rdP (w : World) (v : Value) (mo : Int) (E : Nat × Nat × List Nat) (w' : World) : Prop :=
  Fr noB w w' ∧ ∃ ov' p' bv', SfAt mo ov' bv' E.1 w' w.heap.size v p' ∧ (E.1 = 0 → p' = E.2.1 ∧ p' ≤ 8589934592 ∧ w'.ownsRow (w.heap.size + 1) 5 1 ov' E.2.2.length (byteVals E.2.2))
set_option maxRecDepth 100000 in
set_option maxHeartbeats 3200000 in
theorem rblock_nil (ib : Nat) (v : Value) (mo : Int) (w : World) (h : SfAt mo (.slice none 0 0) (.slice none 0 0) 0 w ib v 0) (hv : Bs w v []) (hvk : ∀ w', Bs w' v []) :
    Calls Tryd.prog 28 #[.pointer (some ⟨ib, 0, none⟩)] w fun e w' => e = .returned (.bool false) ∧ SfAt mo (.slice none 0 0) (.slice none 0 0) 33 w' ib v 0 ∧ Fr (oneB ib) w w' := by
  have C1 := rbits_any mo (.slice none 0 0) (.slice none 0 0) 0 ib v [] 0 1 w h hv (by simp) (by simp) (by simp) (by decide)
  have C2 := fun w' (hs : SfAt mo (.slice none 0 0) (.slice none 0 0) 33 w' ib v 0) => rbits_any mo (.slice none 0 0) (.slice none 0 0) 33 ib v [] 0 2 w' hs (hvk w') (by simp) (by simp) (by simp) (by decide)
  rw [show rbA [] 0 0 1 = (0, 33, 0) from rfl] at C1
  rw [show rbA [] 33 0 2 = (0, 33, 0) from rfl] at C2
  have HC2 : Hid _ := C2
  clear h C2
  go_enter Tryd.func28, Tryd.ntmps28
  go_wp2_with fail
  refine C1.mono ?_
  rintro e w2 ⟨rfl, hS2, hF2⟩
  have C2 := HC2.out w2 hS2
  clear C1 hS2 HC2
  go_wp2_with fail
  refine C2.mono ?_
  rintro e w3 ⟨rfl, hS3, hF3⟩
  have c3 := cellOf (o := 3) hS3 rfl
  have c4 := cellOf (o := 4) hS3 rfl
  have HS3 : Hid _ := hS3
  clear C2 hS3
  go_wp2_with fail
  go_ret
  exact ⟨rfl, HS3.out, hF2.trans hF3⟩
set_option maxRecDepth 100000 in
set_option maxHeartbeats 3200000 in
theorem rread_nil (v : Value) (mo : Int) (w : World) (hv : Bs w v []) (hvk : ∀ w', Bs w' v []) (hm : 0 ≤ mo) (hm2 : mo ≤ 9223372036854775807) :
    Calls Tryd.prog 16 #[v, .int .i64 mo] w fun e w' => e = .returned (.pointer (some ⟨w.heap.size, 0, none⟩)) ∧ rdP w v mo (33, 0, []) w' := by
  obtain ⟨ib, hib⟩ : ∃ ib, w.heap.size = ib := ⟨_, rfl⟩
  obtain ⟨w0, hw0⟩ : ∃ w0, w0 = w.alloc (.cells #[v, .int .i64 0, .int .i64 mo, .slice none 0 0, .int .i64 0, .slice none 0 0] 57 (0, 0)) := ⟨_, rfl⟩
  have hF0 : Fr noB w w0 := by rw [hw0]; exact (Fr.refl _ _).alloc _
  have hat : SfAt mo (.slice none 0 0) (.slice none 0 0) 0 w0 ib v 0 := by
    show w0.heap[ib]? = _
    rw [hw0, ← hib]
    exact heap_alloc_new _ _
  have CB := rblock_nil ib v mo w0 hat (hvk w0) hvk
  have c4 := cellOf (o := 4) hat rfl
  have hmI : ¬ mo < 0 := by omega
  have HW0 : Hid _ := hw0
  have HIB : Hid (w.heap.size = ib) := hib
  have HVK : Hid (∀ w', Bs w' v []) := hvk
  rw [hib]
  obtain ⟨ao, cap, hvv, -⟩ := hv
  have hvv' : v = .slice ao 0 cap := hvv
  subst hvv'
  clear hw0 hat hvk hvv
  go_enter Tryd.func16, Tryd.ntmps16
  go_wp2_with fail
  rw [← HW0.out]
  try rw [HIB.out]
  go_loopg [15] 2 (fun gg _ wr => ((gg = 2 ∧ wr = w0) ∨ (gg = 1 ∧ Hid (SfAt mo (.slice none 0 0) (.slice none 0 0) 33 wr ib (.slice ao 0 cap) 0) ∧ Hid (Fr (oneB ib) w0 wr))))
  case atStart => exact Or.inl ⟨rfl, rfl⟩
  case round =>
    obtain ⟨rfl, hw⟩ | ⟨rfl, HS, HF⟩ := hrel
    · have hw' := hw.symm
      subst hw'
      go_wp2_with fail
      refine CB.mono ?_
      rintro e w3 ⟨rfl, hS3, hF3⟩
      have HS3 : Hid _ := hS3
      clear CB hS3
      go_wp2_with fail
      go_roundg 1
      case measure => omega
      case rel => exact Or.inr ⟨rfl, HS3.out, hF3⟩
    · have k4 := cellOf (o := 4) HS.out rfl
      clear CB c4
      go_wp2_with fail
      go_ret
      refine ⟨rfl, hF0.then HF.out (fun k hk => Or.inr (by have e' : k = ib := hk; have := HIB.out; omega)), .slice none 0 0, 0, .slice none 0 0, ?_, fun h => by simp at h⟩
      rw [HIB.out]
      exact HS.out
set_option maxRecDepth 100000 in
set_option maxHeartbeats 3200000 in
theorem rread_more (v : Value) (B : List Nat) (mo : Int) (w : World) (hv : Bs w v B) (hB0 : B ≠ []) (hB : ∀ x ∈ B, x < 256) (hl : B.length ≤ 1073741824) (hm : 0 ≤ mo) (hm2 : mo ≤ 9223372036854775807) :
    Calls Tryd.prog 16 #[v, .int .i64 mo] w fun e w' => e = .returned (.pointer (some ⟨w.heap.size, 0, none⟩)) ∧ rdP w v mo (endA B mo (8 * B.length + 1) 0 []) w' := by
  obtain ⟨E, hE⟩ : ∃ E, endA B mo (8 * B.length + 1) 0 [] = E := ⟨_, rfl⟩
  rw [hE]
  have HE : Hid (endA B mo (8 * B.length + 1) 0 [] = E) := hE
  have HHB : Hid (∀ x ∈ B, x < 256) := hB
  obtain ⟨ib, hib⟩ : ∃ ib, w.heap.size = ib := ⟨_, rfl⟩
  obtain ⟨w0, hw0⟩ : ∃ w0, w0 = w.alloc (.cells #[v, .int .i64 0, .int .i64 mo, .slice none 0 0, .int .i64 0, .slice none 0 0] 57 (0, 0)) := ⟨_, rfl⟩
  have hF0 : Fr noB w w0 := by rw [hw0]; exact (Fr.refl _ _).alloc _
  have hat : w0.heap[ib]? = some (.cells #[v, .int .i64 0, .int .i64 mo, .slice none 0 0, .int .i64 0, .slice none 0 0] 57 (0, 0)) := by rw [hw0, ← hib]; exact heap_alloc_new _ _
  obtain ⟨ao, cap, rfl, h1, h2, h4, h3⟩ := hv
  obtain ⟨gb, go, rfl, hgb, hgc⟩ : ∃ b off, ao = some ⟨b, off, none⟩ ∧ b < w.heap.size ∧ ∀ i (h : i < B.length), w.cell? ⟨b, off + i, none⟩ = some (.int .u8 ((B[i] : Nat) : Int)) := by
    rcases h3 with h3 | h3
    · exact absurd h3 hB0
    · exact h3
  have HI0 : Hid (StIs w0 ib (.slice (some ⟨gb, go, none⟩) B.length cap) B 0 mo (.slice none 0 0) [] 0 (.slice none 0 0)) := by
    refine ⟨hat, ?_, fun b off len cap' e => ?_, World.ownsRow_nil w0 _ _ 1⟩
    · exact Bs.fr (S := noB) ⟨_, cap, rfl, h1, h2, h4, Or.inr ⟨gb, go, rfl, hgb, hgc⟩⟩ hF0 (fun _ _ _ _ _ _ _ h => h)
    · injection e with e1 e2 e3
      injection e1 with e1
      injection e1 with e1
      omega
  have HB0 : Hid (BkIs w0 ib (.slice none 0 0) 0 []) := World.ownsRow_nil w0 _ _ 3
  have H0 : Hid (Fr noB w w0) := hF0
  have HW0 : Hid _ := hw0
  have HIB : Hid (w.heap.size = ib) := hib
  have hmI : ¬ mo < 0 := by omega
  rw [hib]
  generalize hv0 : Value.slice (some ⟨gb, go, none⟩) B.length cap = vv at *
  have HVV : Hid (Value.slice (some ⟨gb, go, none⟩) B.length cap = vv) := hv0
  have c4 := cellOf (o := 4) HI0.out.at_ rfl
  subst hv0
  clear hw0 hF0 hat hB hE h3 hgc h4 HVV
  go_enter Tryd.func16, Tryd.ntmps16
  go_wp2_with fail
  rw [← HW0.out]
  try rw [HIB.out]
  clear c4
  go_loopg [15] (8 * B.length + 2) (fun gg _ wr => ∃ (q er n : Nat) (O : List Nat) (D : List Value) (ov : Value) (bo : Option Addr) (bc : Nat), Hid (StIs wr ib (.slice (some ⟨gb, go, none⟩) B.length cap) B q mo ov O er (.slice bo n bc)) ∧ Hid (BkIs wr ib (.slice bo n bc) n D) ∧ q ≤ 8 * B.length ∧ Hid (Fr (bS w0 ib) w0 wr) ∧
    ((er = 0 ∧ (∃ f, gg = f + 2 ∧ Hid (endA B mo (f + 1) q O = E) ∧ 8 * B.length < q + (f + 1) ∧ n + f ≤ 8 * B.length) ∧ O.length ≤ 258 * q ∧ (O.length : Int) ≤ mo) ∨ (er ≠ 0 ∧ gg = 1 ∧ Hid (E.1 = er))))
  case atStart => exact ⟨0, 0, 0, [], [], .slice none 0 0, none, 0, HI0.out, HB0.out, by omega, Fr.refl _ _, Or.inl ⟨rfl, ⟨8 * B.length, rfl, HE.out, by omega, by omega⟩, by simp, by simpa using hm⟩⟩
  case round =>
    obtain ⟨q, er, n, O, D, ov, bo, bc, HI, HBk, hq, HF, hor⟩ := hrel
    have c4 := cellOf (o := 4) HI.out.at_ rfl
    rcases hor with ⟨rfl, ⟨f, rfl, HX, hfu, hnf⟩, hO, hOm⟩ | ⟨hne, rfl, HER⟩
    case inr =>
      have he' : ¬ (er : Int) = 0 := by omega
      have HNE : Hid (er ≠ 0) := hne
      clear hne
      go_wp2_with fail
      go_ret
      refine ⟨rfl, bS_new HIB.out H0.out HF.out, ov, q, .slice bo n bc, ?_, fun h => absurd (HER.out ▸ h) HNE.out⟩
      rw [HIB.out, HER.out]
      exact HI.out.at_
    have CB := rblock_any ib q n (.slice (some ⟨gb, go, none⟩) B.length cap) ov bo bc B O D mo wr HI.out HBk.out HHB.out hq hl hm hm2 hO hOm (by omega)
    have hok := blkA_ok B mo q O hO hOm
    have hend : E = if (blkA B mo q O).1.1 ≠ 0 ∨ (blkA B mo q O).2.2 = true then (blkA B mo q O).1 else endA B mo f (blkA B mo q O).1.2.1 (blkA B mo q O).1.2.2 := by rw [← HX.out]; rfl
    obtain ⟨⟨⟨eb, pb, Ob⟩, kb, fb0⟩, hbb⟩ : ∃ y, blkA B mo q O = y := ⟨_, rfl⟩
    rw [hbb] at CB hok hend
    simp only at CB hok hend
    have HEND : Hid _ := hend
    clear hbb hend
    by_cases hz : eb = 0
    case neg =>
      have hEe := HEND.out
      rw [if_pos (Or.inl hz)] at hEe
      have HEE : Hid (E = (eb, pb, Ob)) := hEe
      have HNE : Hid (eb ≠ 0) := hz
      have CB' := CB.mono (fun e w' (hh : ∃ fb, e = .returned (.bool fb) ∧ Fr (bS wr ib) wr w' ∧ (eb ≠ 0 → ∃ ov' p', StIs w' ib (.slice (some ⟨gb, go, none⟩) B.length cap) B p' mo ov' Ob eb (.slice bo n bc) ∧ p' ≤ 8 * B.length ∧ BkIs w' ib (.slice bo n bc) n D) ∧ _) => (⟨hh.choose, hh.choose_spec.1, hh.choose_spec.2.1, hh.choose_spec.2.2.1 hz⟩ : ∃ fb, e = .returned (.bool fb) ∧ Fr (bS wr ib) wr w' ∧ ∃ ov' p', StIs w' ib (.slice (some ⟨gb, go, none⟩) B.length cap) B p' mo ov' Ob eb (.slice bo n bc) ∧ p' ≤ 8 * B.length ∧ BkIs w' ib (.slice bo n bc) n D))
      clear CB hz hok hEe
      go_wp2_with fail
      refine CB'.mono ?_
      rintro e w3 ⟨fb, rfl, hF3, ov3, p3, hI3, hp3, hB3⟩
      have HI3 : Hid _ := hI3
      have HB3 : Hid _ := hB3
      have HF3 : Hid (Fr (bS w0 ib) w0 w3) := btrans HF.out hF3
      clear CB' hI3 hB3 hF3
      cases fb
      · go_wp2_with fail
        go_roundg 1
        case measure => omega
        case rel => exact ⟨p3, eb, n, Ob, D, ov3, bo, bc, HI3.out, HB3.out, hp3, HF3.out, Or.inr ⟨HNE.out, rfl, by show _ = _; rw [HEE.out]⟩⟩
      · go_wp2_with fail
        go_ret
        refine ⟨rfl, bS_new HIB.out H0.out HF3.out, ov3, p3, .slice bo n bc, ?_, fun h => ?_⟩
        · rw [HIB.out, HEE.out]
          exact HI3.out.at_
        · rw [HEE.out] at h
          exact absurd h HNE.out
    subst hz
    obtain ⟨k1, k2, k3, k4⟩ := hok rfl
    have CB' := CB.mono (fun e w' (hh : ∃ fb, e = .returned (.bool fb) ∧ Fr (bS wr ib) wr w' ∧ _ ∧ (0 = 0 → fb = fb0 ∧ ∃ ov' bv', StIs w' ib (.slice (some ⟨gb, go, none⟩) B.length cap) B pb mo ov' Ob 0 bv' ∧ BkIs w' ib bv' (n + 1) (D ++ [.int .i64 (kb : Int), .bool fb0, .int .i64 ((Ob.length : Int) - (O.length : Int))]))) => (by
      obtain ⟨fb, h1, h2, _, h3⟩ := hh
      obtain ⟨h4, h5⟩ := h3 rfl
      exact ⟨by rw [h1, h4], h2, h5⟩ : e = .returned (.bool fb0) ∧ Fr (bS wr ib) wr w' ∧ ∃ ov' bv', StIs w' ib (.slice (some ⟨gb, go, none⟩) B.length cap) B pb mo ov' Ob 0 bv' ∧ BkIs w' ib bv' (n + 1) (D ++ [.int .i64 (kb : Int), .bool fb0, .int .i64 ((Ob.length : Int) - (O.length : Int))])))
    clear CB hok
    go_wp2_with fail
    refine CB'.mono ?_
    rintro e w3 ⟨rfl, hF3, ov3, bv3, hI3, hB3⟩
    obtain ⟨bo3, bc3, rfl⟩ : ∃ so sc, bv3 = .slice so (n + 1) sc := by
      rcases hB3.2 with ⟨hv, h0⟩ | ⟨g, cap, cur, hv, _⟩
      · exact ⟨none, 0, by rw [hv, h0]⟩
      · exact ⟨_, _, hv⟩
    have HI3 : Hid (StIs w3 ib (.slice (some ⟨gb, go, none⟩) B.length cap) B pb mo ov3 Ob 0 (.slice bo3 (n + 1) bc3)) := hI3
    have HB3 : Hid _ := hB3
    have HF3 : Hid (Fr (bS w0 ib) w0 w3) := btrans HF.out hF3
    clear CB' hI3 hB3 hF3
    cases fb0
    · have hEe := HEND.out
      rw [if_neg (by simp)] at hEe
      have HEE : Hid (endA B mo f pb Ob = E) := hEe.symm
      clear hEe
      obtain ⟨f', rfl⟩ : ∃ f', f = f' + 1 := ⟨f - 1, by omega⟩
      go_wp2_with fail
      go_roundg (f' + 2)
      case measure => omega
      case rel => exact ⟨pb, 0, n + 1, Ob, _, ov3, bo3, bc3, HI3.out, HB3.out, k2, HF3.out, Or.inl ⟨rfl, ⟨f', rfl, HEE.out, by omega, by omega⟩, k3, k4⟩⟩
    · have hEe := HEND.out
      rw [if_pos (Or.inr rfl)] at hEe
      have HEE : Hid (E = (0, pb, Ob)) := hEe
      clear hEe
      go_wp2_with fail
      go_ret
      refine ⟨rfl, bS_new HIB.out H0.out HF3.out, ov3, pb, .slice bo3 (n + 1) bc3, ?_, fun _ => ?_⟩
      · rw [HIB.out, HEE.out]
        exact HI3.out.at_
      · rw [HIB.out, HEE.out]
        exact ⟨rfl, by omega, HI3.out.own⟩
#print axioms rread_nil
#print axioms rread_more
end Go.Proofs.YthgnhcdodfildaaDoor
/- The document's Inflate: its contract. -/
namespace Go.Proofs.YthgnhcdodfildaaDoor
open Go.RowKit Go.Shelf
attribute [local go_sem ↓] Go.wp_at_zero Go.wp_at_succ

theorem rread_any (v : Value) (B : List Nat) (mo : Int) (w : World) (hv : Bs w v B) (hB : ∀ x ∈ B, x < 256) (hl : B.length ≤ 1073741824) (hm : 0 ≤ mo) (hm2 : mo ≤ 9223372036854775807) :
    Calls Tryd.prog 16 #[v, .int .i64 mo] w fun e w' => e = .returned (.pointer (some ⟨w.heap.size, 0, none⟩)) ∧ rdP w v mo (endA B mo (8 * B.length + 1) 0 []) w' := by
  by_cases h : B = []
  · subst h
    have e : endA [] mo (8 * ([] : List Nat).length + 1) 0 [] = (33, 0, []) := by simp [endA, blkA]
    rw [e]
    refine rread_nil v mo w hv (fun w' => ?_) hm hm2
    obtain ⟨ao, cap, h1, h2, h3, h4, _⟩ := hv
    exact ⟨ao, cap, h1, h2, h3, h4, Or.inl rfl⟩
  · exact rread_more v B mo w hv h hB hl hm hm2
set_option maxRecDepth 100000 in
set_option maxHeartbeats 1600000 in
theorem rread_neg (v : Value) (B : List Nat) (mo : Int) (w : World) (hv : Bs w v B) (hm : mo < 0) :
    Calls Tryd.prog 16 #[v, .int .i64 mo] w fun e w' => e = .returned (.pointer (some ⟨w.heap.size, 0, none⟩)) ∧ rdP w v mo (1, 0, []) w' := by
  obtain ⟨w0, hw0⟩ : ∃ w0, w0 = w.alloc (.cells #[v, .int .i64 0, .int .i64 mo, .slice none 0 0, .int .i64 0, .slice none 0 0] 57 (0, 0)) := ⟨_, rfl⟩
  have hF0 : Fr noB w w0 := by rw [hw0]; exact (Fr.refl _ _).alloc _
  have hat : SfAt mo (.slice none 0 0) (.slice none 0 0) 0 w0 w.heap.size v 0 := by
    show w0.heap[w.heap.size]? = _
    rw [hw0]
    exact heap_alloc_new _ _
  have CF := fail_any mo (.slice none 0 0) (.slice none 0 0) 0 1 w.heap.size v 0 w0 hat
  rw [show erA 0 1 = 1 from rfl] at CF
  have HW0 : Hid _ := hw0
  obtain ⟨ao, cap, rfl, -⟩ := hv
  clear hw0 hat
  go_enter Tryd.func16, Tryd.ntmps16
  go_wp2_with fail
  rw [← HW0.out]
  refine CF.mono ?_
  rintro e w1 ⟨rfl, hS1, hF1⟩
  have k4 := cellOf (o := 4) hS1 rfl
  have HS1 : Hid _ := hS1
  have HF1 : Hid (Fr noB w w1) := hF0.then hF1 (fun k hk => Or.inr (by have e' : k = w.heap.size := hk; omega))
  clear CF hS1 hF1
  go_wp2_with fail
  go_loopg [15] 0 (fun gg _ wr => gg = 0 ∧ wr = w1)
  case atStart => exact ⟨rfl, rfl⟩
  case round =>
    obtain ⟨rfl, hw⟩ := hrel
    have hw' := hw.symm
    subst hw'
    go_wp2_with fail
    go_ret
    exact ⟨rfl, HF1.out, .slice none 0 0, 0, .slice none 0 0, HS1.out, fun h => by simp at h⟩
/-- What the document's Inflate answers. -/
def rinfP (w : World) (E : Nat × Nat × List Nat) (e : Ending) (w' : World) : Prop :=
  ((E.1 = 0 ∧ ∃ u, e = .returned (.tuple #[u, .int .i64 (((E.2.1 + 7) / 8 : Nat) : Int), .int .i64 0]) ∧ w'.ownsRow (w.heap.size + 1) 5 1 u E.2.2.length (byteVals E.2.2)) ∨
   (E.1 ≠ 0 ∧ e = .returned (.tuple #[.slice none 0 0, .int .i64 0, .int .i64 ((E.1 : Nat) : Int)]))) ∧ Fr noB w w'
set_option maxRecDepth 100000 in
set_option maxHeartbeats 3200000 in
theorem rinflate_of (v : Value) (mo : Int) (E : Nat × Nat × List Nat) (w : World) (h : Calls Tryd.prog 16 #[v, .int .i64 mo] w fun e w' => e = .returned (.pointer (some ⟨w.heap.size, 0, none⟩)) ∧ rdP w v mo E w') :
    Calls Tryd.prog 6 #[v, .int .i64 mo] w (rinfP w E) := by
  obtain ⟨er, pe, O⟩ := E
  go_enter Tryd.func6, Tryd.ntmps6
  go_wp2_with fail
  refine h.mono ?_
  rintro e w1 ⟨rfl, hF1, ov, p, bv, hS, hok⟩
  simp only at hS hok
  have HF1 : Hid (Fr noB w w1) := hF1
  have c4 := cellOf (o := 4) hS rfl
  have c3 := cellOf (o := 3) hS rfl
  obtain ⟨ib, hib⟩ : ∃ ib, w.heap.size = ib := ⟨_, rfl⟩
  have HIB : Hid (w.heap.size = ib) := hib
  rw [hib] at c3 c4 hS hok ⊢
  clear hF1 h hib
  by_cases hz : er = 0
  case neg =>
    have hz' : ¬ (er : Int) = 0 := by omega
    have hz2 : ((er : Int) != 0) = true := by rw [bne_iff_ne]; omega
    have HNE : Hid (er ≠ 0) := hz
    clear hz hok hS
    go_wp2_with fail
    go_quiet (fail)
    go_wp2_with fail
    refine bodyPost_ret (v := .tuple #[.slice none 0 0, .int .i64 0, .int .i64 (er : Int)]) (by simp [results, Tryd.results6, go_sem]) rfl ?_
    exact ⟨Or.inr ⟨HNE.out, rfl⟩, HF1.out.drewN nq⟩
  subst hz
  obtain ⟨rfl, hp, hown⟩ := hok rfl
  obtain ⟨n, hn⟩ : ∃ n, O.length = n := ⟨_, rfl⟩
  obtain ⟨so, sc, rfl, -⟩ := own_slice hown
  rw [hn] at c3
  have HU : Hid (∀ w', Fr noB w1 w' → Calls Tryd.prog 17 #[.pointer (some ⟨ib, 0, none⟩)] w' fun e w'' => e = .returned (.int .i64 (((p + 7) / 8 : Nat) : Int)) ∧ w'' = w') := fun w' hf => refused_any mo _ bv 0 ib v p w' (hf.obj hS id) (by omega)
  have HOW : Hid _ := hown
  have c3' : w1.cell? ⟨ib, 3, none⟩ = some (.slice so n sc) := c3
  have hFb : Fr noB w1 w1.drew := (Fr.refl noB w1).drew
  have HN : Hid (O.length = n) := hn
  obtain ⟨u, hu⟩ : ∃ u, (p + 7) / 8 = u := ⟨_, rfl⟩
  rw [hu] at HU
  have HUU : Hid ((p + 7) / 8 = u) := hu
  clear hu
  clear hown hS hok c3 hn
  go_wp2_with fail
  go_region_held3 (fun w' => w'.cell? ⟨ib, 3, none⟩ = some (.slice so n sc)) (first | exact c3' | fail) (first | (go_at_call 17; with_reducible refine (HU.out _ hFb).mono ?_; rintro e w' ⟨rfl, rfl⟩))
  go_wp2_with fail
  refine bodyPost_ret (v := .tuple #[.slice so n sc, .int .i64 (u : Int), .int .i64 0]) (by simp [results, Tryd.results6, go_sem]) rfl ?_
  refine ⟨Or.inl ⟨rfl, .slice so n sc, by simp only; rw [HUU.out], ?_⟩, HF1.out.drew⟩
  have := HOW.out
  show World.ownsRow _ _ _ _ _ _ _
  rw [HIB.out]
  rw [HN.out] at this ⊢
  exact this
theorem rinflate_any (v : Value) (B : List Nat) (mo : Int) (w : World) (hv : Bs w v B) (hB : ∀ x ∈ B, x < 256) (hl : B.length ≤ 1073741824) (hm : 0 ≤ mo) (hm2 : mo ≤ 9223372036854775807) :
    Calls Tryd.prog 6 #[v, .int .i64 mo] w (rinfP w (endA B mo (8 * B.length + 1) 0 [])) := rinflate_of v mo _ w (rread_any v B mo w hv hB hl hm hm2)
theorem rinflate_neg (v : Value) (B : List Nat) (mo : Int) (w : World) (hv : Bs w v B) (hm : mo < 0) :
    Calls Tryd.prog 6 #[v, .int .i64 mo] w (rinfP w (1, 0, [])) := rinflate_of v mo _ w (rread_neg v B mo w hv hm)
#print axioms rinflate_any
#print axioms rread_neg
end Go.Proofs.YthgnhcdodfildaaDoor
