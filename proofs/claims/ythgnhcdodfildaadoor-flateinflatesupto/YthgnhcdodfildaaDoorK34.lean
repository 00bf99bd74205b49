/- The document's may: its contract. -/
import Derived.Test.YthgnhcdodfildaaDoorK33
import Derived.Test.YthgnhcdodfildaaDoorK30
namespace Go.Proofs.YthgnhcdodfildaaDoor
open Go.RowKit Go.Shelf

theorem mroom_step (a x : Nat) (_h : x ≤ 15) (ha : a ≤ 16777216) : wrap64 ((a : Int) + wrap64 (2 ^ (15 - x))) = ((a + 2 ^ (15 - x) : Nat) : Int) := by
  have h2 := pow_15 x
  have e : ((2 : Int) ^ (15 - x)) = ((2 ^ (15 - x) : Nat) : Int) := by simp
  have e2 : (a : Int) + ((2 ^ (15 - x) : Nat) : Int) = ((a + 2 ^ (15 - x) : Nat) : Int) := by omega
  rw [e, w64 _ (by omega), e2, w64 _ (by omega)]
theorem none_room (M : List Nat) (h : manyN M = 0) : roomN M = 0 := by
  induction M with
  | nil => rfl
  | cons x M ih =>
    unfold manyN at h
    unfold roomN
    by_cases e : x = 0
    · rw [if_pos e] at h ⊢
      rw [ih (by omega)]
    · rw [if_neg e] at h; omega
theorem may_iff (M : List Nat) (hM : ∀ x ∈ M, x ≤ 15) (hl : M.length ≤ 512) : (roomN M = 32768 ∨ manyN M = 0 ∨ (manyN M = 1 ∧ cntN M 1 = 1)) ↔ chk (up M) = 0 := by
  constructor
  · intro h
    have hr : roomN M ≤ 32768 := by
      rcases h with h | h | ⟨h, h'⟩
      · omega
      · rw [none_room M h]; omega
      · rw [(one_of M hM h).2 h']; omega
    refine chk_ok M hl hM hr ?_
    unfold codeB
    rw [decide_eq_true_iff]
    rcases h with h | h | ⟨h, h'⟩
    · exact Or.inr (Or.inl h)
    · exact Or.inl h
    · exact Or.inr (Or.inr ⟨h, (one_of M hM h).2 h'⟩)
  · intro h
    have hc := (code_is M h).is
    unfold codeB at hc
    rw [decide_eq_true_iff] at hc
    rcases hc with h | h | ⟨h, h'⟩
    · exact Or.inr (Or.inl h)
    · exact Or.inl h
    · exact Or.inr (Or.inr ⟨h, (one_of M hM h).1 h'⟩)
set_option maxRecDepth 100000 in
set_option maxHeartbeats 1600000 in
theorem may_any (v : Value) (M : List Nat) (w : World) (hv : Ns .i64 w v (up M)) (hM : ∀ x ∈ M, x ≤ 15) (hl : M.length ≤ 512) :
    Calls Tryd.prog 63 #[v] w fun e w' => e = .returned (.bool (decide (chk (up M) = 0))) ∧ w' = w := by
  obtain ⟨ao, cap, rfl, h1, h2, h4, h3⟩ := hv
  rw [length_up] at *
  have hat : NsAt .i64 w ao (up M) := h3
  have HI : Hid _ := may_iff M hM hl
  obtain ⟨R, hR⟩ : ∃ R, decide (chk (up M) = 0) = R := ⟨_, rfl⟩
  rw [hR]
  have HR : Hid (decide (chk (up M) = 0) = R) := hR
  clear h3 hR
  unfold maxLen at h2
  go_enter Tryd.func63, Tryd.ntmps63
  go_wp2_with fail
  go_loop [3, 4, 5, 6] (fun s m o i => ∃ k : Nat, k ≤ M.length ∧ i = .int .i64 (k : Int) ∧ s = .int .i64 ((roomN (M.take k) : Nat) : Int) ∧ m = .int .i64 ((manyN (M.take k) : Nat) : Int) ∧ o = .int .i64 ((cntT M 1 k : Nat) : Int)) (fun _ _ _ i => M.length - (intOf i).toNat)
  case atStart => exact ⟨0, Nat.zero_le _, rfl, rfl, rfl, by simp [cntT]⟩
  case round =>
    obtain ⟨k, hk, rfl, rfl, rfl, rfl⟩ := hrel
    by_cases hlt : k < M.length
    · obtain ⟨b, off, rfl, hb, hcell⟩ := hat.get k (by simpa using hlt)
      rw [up_get _ _ hlt] at hcell
      have hx := hM M[k] (List.getElem_mem hlt)
      have HT : Hid (M.take (k + 1) = M.take k ++ [M[k]]) := take_snoc M k hlt
      have HO : Hid (cntT M 1 (k + 1) = cntT M 1 k + (if M[k] = 1 then 1 else 0)) := cntT_step M 1 k hlt
      have ho := cntT_le M 1 k (by omega)
      have hr1 := roomN_le (M.take k)
      have hm1 := manyN_le (M.take k)
      have hr : roomN (M.take k) ≤ 16777216 := by rw [List.length_take] at hr1; omega
      have hm : manyN (M.take k) ≤ 512 := by rw [List.length_take] at hm1; omega
      clear hr1 hm1
      generalize M[k] = x at *
      generalize cntT M 1 k = o at *
      by_cases hx0 : x = 0
      · subst hx0
        go_wp2
        go_round
        case rel => exact ⟨k + 1, by omega, by go_num, by rw [HT.out, roomN_snoc, if_pos rfl, Nat.add_zero], by rw [HT.out, manyN_snoc, if_pos rfl, Nat.add_zero], by rw [HO.out]; rfl⟩
        case measure => simp [intOf]; omega
      · have hx0' : 0 < (x : Int) := by omega
        have hx15 : (x : Int) ≤ 15 := by omega
        by_cases hx1 : x = 1
        · have HX1 : Hid (x = 1) := hx1
          subst hx1
          go_wp2
          go_round
          case rel =>
            refine ⟨k + 1, by omega, by go_num, ?_, ?_, by rw [HO.out]; go_num⟩
            · rw [HT.out, roomN_snoc, if_neg (by decide)]
              go_num
            · rw [HT.out, manyN_snoc, if_neg (by decide)]
              go_num
          case measure => simp [intOf]; omega
        · have HX1 : Hid (¬ x = 1) := hx1
          have e1 : ((x : Int) == 1) = false := by rw [beq_eq_false_iff_ne]; omega
          clear hx1
          go_wp2
          go_round
          case rel =>
            refine ⟨k + 1, by omega, by go_num, ?_, ?_, by rw [HO.out, if_neg HX1.out, Nat.add_zero]⟩
            · rw [HT.out, roomN_snoc, if_neg hx0]
              exact congrArg (Value.int .i64) (mroom_step _ x hx hr)
            · rw [HT.out, manyN_snoc, if_neg hx0]
              go_num
          case measure => simp [intOf]; omega
    · have hkM : k = M.length := by omega
      subst hkM
      rw [List.take_length, cntT_all M 1 (by decide)]
      have hr1 := roomN_le M
      have hm1 := manyN_le M
      have HR2 : Hid (decide (roomN M = 32768 ∨ manyN M = 0 ∨ (manyN M = 1 ∧ cntN M 1 = 1)) = R) := by
        show _ = _
        rw [← HR.out]
        exact decide_eq_decide.2 HI.out
      generalize roomN M = r at *
      generalize manyN M = m at *
      generalize cntN M 1 = o at *
      clear HI HR
      by_cases c1 : r = 32768
      · subst c1
        go_wp2_with fail
        go_ret
        rw [← HR2.out]
        exact ⟨by simp, rfl⟩
      have e1 : ((r : Int) == 32768) = false := by rw [beq_eq_false_iff_ne]; omega
      by_cases c2 : m = 0
      · subst c2
        go_wp2_with fail
        go_ret
        rw [← HR2.out]
        exact ⟨by simp, rfl⟩
      have e2 : ((m : Int) == 0) = false := by rw [beq_eq_false_iff_ne]; omega
      by_cases c3 : m = 1
      · subst c3
        by_cases c4 : o = 1
        · subst c4
          go_wp2_with fail
          go_ret
          rw [← HR2.out]
          exact ⟨by simp, rfl⟩
        · have e4 : ((o : Int) == 1) = false := by rw [beq_eq_false_iff_ne]; omega
          go_wp2_with fail
          go_ret
          rw [← HR2.out]
          exact ⟨by simp [c1, c4], rfl⟩
      · have e3 : ((m : Int) == 1) = false := by rw [beq_eq_false_iff_ne]; omega
        go_wp2_with fail
        go_ret
        rw [← HR2.out]
        exact ⟨by simp [c1, c2, c3], rfl⟩
#print axioms may_any
end Go.Proofs.YthgnhcdodfildaaDoor
/- The document's length and distance where the symbol is none; repeated. -/
namespace Go.Proofs.YthgnhcdodfildaaDoor
open Go.RowKit Go.Shelf
attribute [local go_sem ↓] Go.wp_at_zero Go.wp_at_succ

set_option maxRecDepth 100000 in
set_option maxHeartbeats 800000 in
theorem rlength_bad (mo : Int) (ov bv : Value) (ib : Nat) (v : Value) (p s : Nat) (w : World) (h : SfAt mo ov bv 0 w ib v p) (h2 : 285 < s) :
    Calls Tryd.prog 83 #[.pointer (some ⟨ib, 0, none⟩), .int .i64 (s : Int)] w fun e w' => e = .returned (.int .i64 0) ∧ SfAt mo ov bv 31 w' ib v p ∧ Fr (oneB ib) w w' := by
  have C := fail_any mo ov bv 0 31 ib v p w h
  rw [show erA 0 31 = 31 from rfl] at C
  have h2I : (285 : Int) < (s : Int) := by omega
  clear h
  go_enter Tryd.func83, Tryd.ntmps83
  go_wp2_with (go_at_call 27; refine C.mono ?_; rintro e w1 ⟨rfl, hS1, hF1⟩)
  go_ret
  exact ⟨rfl, hS1, hF1⟩
set_option maxRecDepth 100000 in
set_option maxHeartbeats 800000 in
theorem rdistance_bad (mo : Int) (ov bv : Value) (ib : Nat) (v : Value) (p s : Nat) (w : World) (h : SfAt mo ov bv 0 w ib v p) (h2 : 29 < s) :
    Calls Tryd.prog 84 #[.pointer (some ⟨ib, 0, none⟩), .int .i64 (s : Int)] w fun e w' => e = .returned (.int .i64 0) ∧ SfAt mo ov bv 31 w' ib v p ∧ Fr (oneB ib) w w' := by
  have C := fail_any mo ov bv 0 31 ib v p w h
  rw [show erA 0 31 = 31 from rfl] at C
  have h2I : (29 : Int) < (s : Int) := by omega
  clear h
  go_enter Tryd.func84, Tryd.ntmps84
  go_wp2_with (go_at_call 27; refine C.mono ?_; rintro e w1 ⟨rfl, hS1, hF1⟩)
  go_ret
  exact ⟨rfl, hS1, hF1⟩
/-- How many bits stand behind a symbol of the code of lengths, how often it repeats at least, and what. -/
def rpB (s : Nat) : Nat := if s = 16 then 2 else if s = 17 then 3 else 7
def rpF (s : Nat) : Nat := if s = 16 then 3 else if s = 17 then 3 else 11
set_option maxRecDepth 100000 in
set_option maxHeartbeats 1600000 in
theorem repeated_rep (mo : Int) (ov bv : Value) (er : Nat) (ib : Nat) (v : Value) (B : List Nat) (p s last : Nat) (w : World) (h : SfAt mo ov bv er w ib v p) (hv : Bs w v B) (hB : ∀ x ∈ B, x < 256) (hp : p ≤ 8 * B.length) (hl : B.length ≤ 140737488355328) (h1 : 16 ≤ s) (h2 : s ≤ 18) :
    Calls Tryd.prog 85 #[.pointer (some ⟨ib, 0, none⟩), .int .i64 (s : Int), .int .i64 (last : Int)] w fun e w' => e = .returned (.tuple #[.int .i64 ((rpF s + (rbA B er p (rpB s)).1 : Nat) : Int), .int .i64 ((if s = 16 then last else 0 : Nat) : Int)]) ∧ SfAt mo ov bv (rbA B er p (rpB s)).2.1 w' ib v (rbA B er p (rpB s)).2.2 ∧ Fr (oneB ib) w w' := by
  have hL : rpB s ≤ 7 := by unfold rpB; split <;> (try split) <;> omega
  have C := rbits_any mo ov bv er ib v B p (rpB s) w h hv hB hp hl (by omega)
  have hx : (rbA B er p (rpB s)).1 < 128 := by
    unfold rbA
    split
    · exact Nat.lt_of_lt_of_le (bitA_lt B p (rpB s)) (Nat.pow_le_pow_right (n := 2) (by decide) hL)
    · simp
  obtain ⟨E, hE⟩ : ∃ E, rbA B er p (rpB s) = E := ⟨_, rfl⟩
  rw [hE] at C hx ⊢
  obtain ⟨x, hxx⟩ : ∃ x, E.1 = x := ⟨_, rfl⟩
  rw [hxx] at C hx ⊢
  clear h hv hE hxx hL
  rcases (show s = 16 ∨ s = 17 ∨ s = 18 by omega) with rfl | rfl | rfl
  · simp only [rpB, rpF, if_true] at C ⊢
    go_enter Tryd.func85, Tryd.ntmps85
    go_wp2_with (go_at_call 39; refine C.mono ?_; rintro e w1 ⟨rfl, hS1, hF1⟩)
    go_ret2
    exact ⟨by simp, hS1, hF1⟩
  · rw [show rpB 17 = 3 from rfl] at C
    rw [show rpF 17 = 3 from rfl, if_neg (by decide)]
    go_enter Tryd.func85, Tryd.ntmps85
    go_wp2_with (go_at_call 39; refine C.mono ?_; rintro e w1 ⟨rfl, hS1, hF1⟩)
    go_ret2
    exact ⟨by simp, hS1, hF1⟩
  · rw [show rpB 18 = 7 from rfl] at C
    rw [show rpF 18 = 11 from rfl, if_neg (by decide)]
    go_enter Tryd.func85, Tryd.ntmps85
    go_wp2_with (go_at_call 39; refine C.mono ?_; rintro e w1 ⟨rfl, hS1, hF1⟩)
    go_ret2
    exact ⟨by simp, hS1, hF1⟩
set_option maxRecDepth 100000 in
set_option maxHeartbeats 800000 in
theorem repeated_lit (ib : Nat) (s last : Nat) (w : World) (h1 : s < 16) :
    Calls Tryd.prog 85 #[.pointer (some ⟨ib, 0, none⟩), .int .i64 (s : Int), .int .i64 (last : Int)] w fun e w' => e = .returned (.tuple #[.int .i64 1, .int .i64 (s : Int)]) ∧ w' = w := by
  have e1 : ((s : Int) == 16) = false := by rw [beq_eq_false_iff_ne]; omega
  have e2 : ((s : Int) == 17) = false := by rw [beq_eq_false_iff_ne]; omega
  have e3 : ((s : Int) == 18) = false := by rw [beq_eq_false_iff_ne]; omega
  go_enter Tryd.func85, Tryd.ntmps85
  go_wp2_with fail
  go_ret2
  exact ⟨rfl, rfl⟩
#print axioms repeated_rep
#print axioms repeated_lit
end Go.Proofs.YthgnhcdodfildaaDoor
/- The document's state with what was said; say. -/
namespace Go.Proofs.YthgnhcdodfildaaDoor
open Go.RowKit Go.Shelf
attribute [local go_sem ↓] Go.wp_at_zero Go.wp_at_succ

/-- The document's state at ib: its reader's place p in the bytes B, how much may be said, what was said, the error. -/
structure StIs (w : World) (ib : Nat) (v : Value) (B : List Nat) (p : Nat) (mo : Int) (ov : Value) (O : List Nat) (er : Nat) (bv : Value) : Prop where
  at_ : SfAt mo ov bv er w ib v p
  bs : Bs w v B
  vlt : ∀ b off len cap, v = .slice (some ⟨b, off, none⟩) len cap → b < ib
  own : w.ownsRow (ib + 1) 5 1 ov O.length (byteVals O)
theorem StIs.rdr {w w' : World} {ib p p' er er' : Nat} {v ov bv : Value} {B O : List Nat} {mo : Int} (h : StIs w ib v B p mo ov O er bv) (hF : Fr (oneB ib) w w') (ha : SfAt mo ov bv er' w' ib v p') : StIs w' ib v B p' mo ov O er' bv := by
  refine ⟨ha, h.bs.fr hF (fun ao len cap b off e1 e2 e => ?_), h.vlt, ?_⟩
  · have e' : b = ib := e
    subst e2
    have := h.vlt b off len cap e1
    omega
  · obtain ⟨o1, o2⟩ := h.own
    refine ⟨o1, ?_⟩
    rcases o2 with o2 | ⟨g', cap', cur', k1, k2, k3, k4⟩
    · exact Or.inl o2
    · exact Or.inr ⟨g', cap', cur', k1, k2, hF.obj k3 (fun e => by have e' : g' = ib := e; omega), k4⟩
set_option maxRecDepth 100000 in
set_option maxHeartbeats 1600000 in
theorem say_long (ib : Nat) (v : Value) (B : List Nat) (p : Nat) (mo : Int) (ov : Value) (O : List Nat) (er : Nat) (bv : Value) (so : Option Addr) (n sc : Nat) (w : World) (h : StIs w ib v B p mo ov O er bv) (hm : 0 ≤ mo) (hm2 : mo ≤ 9223372036854775807) (hO : O.length ≤ 35184372088832) (hle : mo - (O.length : Int) < (n : Int)) :
    Calls Tryd.prog 60 #[.pointer (some ⟨ib, 0, none⟩), .slice so n sc] w fun e w' => e = .returned (.tuple #[]) ∧ StIs w' ib v B p mo ov O (erA er 3) bv ∧ Fr (oneB ib) w w' := by
  obtain ⟨q, hq⟩ : ∃ q, O.length = q := ⟨_, rfl⟩
  obtain ⟨oo, oc, hov, -⟩ := own_slice h.own
  rw [hq] at hov hle hO
  subst hov
  have C := fun m => fail_any mo (.slice oo q oc) bv er 3 ib v p (w.drewN m) h.at_
  have HC : Hid _ := C
  have c2 := cellOf (o := 2) h.at_ rfl
  have c3 := cellOf (o := 3) h.at_ rfl
  have HI : Hid (StIs w ib v B p mo (.slice oo q oc) O er bv) := h
  clear h C hq
  go_enter Tryd.func60, Tryd.ntmps60
  go_wp2_with fail
  go_quiet (fail)
  go_wp2_with fail
  refine (HC.out _).mono ?_
  rintro e w1 ⟨rfl, hS1, hF1⟩
  go_wp2_with fail
  refine bodyPost_ret (results_none rfl _ _ _) rfl ?_
  exact ⟨rfl, HI.out.rdr (((Fr.refl _ w).drewN _).trans hF1) hS1, ((Fr.refl _ w).drewN _).trans hF1⟩
#print axioms say_long
/-- What was said grows by T. -/
theorem StIs.say {w w4 : World} {ib p er : Nat} {v ov bv v4 : Value} {B O : List Nat} (T : List Nat) {mo : Int} (h : StIs w ib v B p mo ov O er bv)
    (ho : w4.ownsRow (ib + 1) 5 1 v4 (O ++ T).length (byteVals (O ++ T))) (hF : Fr (fun b => ov.ownBlock = some b) w w4) :
    StIs (w4.setCell ⟨ib, 3, none⟩ v4) ib v B p mo v4 (O ++ T) er bv ∧ Fr (wS w ib) w (w4.setCell ⟨ib, 3, none⟩ v4) := by
  obtain ⟨so, sc, rfl, -, -, -, -, hob⟩ := own_slice h.own
  have hne4 : ¬ (Value.slice so O.length sc).ownBlock = some ib := fun e => by have := (hob ib e).1; omega
  have hF2 : Fr (wS w ib) w (w4.setCell ⟨ib, 3, none⟩ v4) := by
    refine (hF.mono (fun k _ hk => ?_)).setCell _ (Or.inl (Or.inl rfl)) _
    obtain ⟨hk1, cur, hk2⟩ := hob k hk
    exact Or.inr ⟨by omega, cur, (0, 0), hk2⟩
  refine ⟨⟨?_, ?_, h.vlt, ?_⟩, hF2⟩
  · have h0 := hF.obj h.at_ hne4
    have h1 := setOf 3 v4 h0
    exact h1
  · refine h.bs.fr hF2 (fun ao len cap b off e1 e2 e => ?_)
    subst e2
    have := h.vlt b off len cap e1
    rcases e with e | ⟨e, _⟩ <;> omega
  · obtain ⟨o1, o2⟩ := ho
    refine ⟨o1, ?_⟩
    rcases o2 with o2 | ⟨g', cap', cur', k1, k2, k3, k4⟩
    · exact Or.inl o2
    · exact Or.inr ⟨g', cap', cur', k1, k2, (Below.heap_setCell _ _ _ _ (by show g' ≠ ib; omega)).trans k3, k4⟩
set_option maxRecDepth 100000 in
set_option maxHeartbeats 1600000 in
theorem say_good (ib : Nat) (v : Value) (B : List Nat) (p : Nat) (mo : Int) (ov : Value) (O T : List Nat) (er : Nat) (bv : Value) (so : Option Addr) (n sc : Nat) (w : World) (h : StIs w ib v B p mo ov O er bv) (hm : 0 ≤ mo) (hm2 : mo ≤ 9223372036854775807) (hO : O.length ≤ 35184372088832) (hn : n ≤ 35184372088832) (hTl : T.length = n) (hsrc : Src w so (byteVals T)) (hnil : so = none → sc = 0) (hlec : n ≤ sc) (hle : (n : Int) ≤ mo - (O.length : Int)) :
    Calls Tryd.prog 60 #[.pointer (some ⟨ib, 0, none⟩), .slice so n sc] w fun e w' => e = .returned (.tuple #[]) ∧ ∃ ov', StIs w' ib v B p mo ov' (O ++ T) er bv ∧ Fr (wS w ib) w w' := by
  obtain ⟨i0, hi, hz0, hz1, hz2⟩ := info_parts Tryd.info5'
  obtain ⟨q, hq⟩ : ∃ q, O.length = q := ⟨_, rfl⟩
  have HQ : Hid (O.length = q) := hq
  obtain ⟨oo, oc, hov, hle', hmx, hnil', hsrc', hob⟩ := own_slice h.own
  have hO3 : Hid (w.ownsRow (ib + 1) 5 1 ov q (byteVals O)) := by have := h.own; rw [hq] at this; exact this
  rw [hq] at hov hle hO
  subst hov
  have c2 := cellOf (o := 2) h.at_ rfl
  have c3 := cellOf (o := 3) h.at_ rfl
  have hfree := freeOf 3 h.at_
  have hib : ib < w.heap.size := lt_of_block h.at_
  have HI : Hid (StIs w ib v B p mo (.slice oo q oc) O er bv) := h
  have HTq : Hid ((byteVals T).length = n) := by rw [length_byteVals]; exact hTl
  have HSR : Hid (∀ m, Src (w.drewN m) so (byteVals T)) := fun _ => ⟨hsrc.1⟩
  clear h hq hsrc hTl
  go_enter Tryd.func60, Tryd.ntmps60
  go_wp2_with fail
  go_quiet (fail)
  have hOd : (w.drewN nq).ownsRow (ib + 1) 5 1 (.slice oo q oc) q (byteVals O) := hO3.out
  have hibd : ib + 1 ≤ (w.drewN nq).heap.size := hib
  go_wp2_with (at_builtin; refine wpList_append_src rfl (.tmp 23) (.tmp 24) 22 rfl (ib + 1) 5 i0 (.int .u8 0) 1 Tryd.underlying22 hi hz0 hz1 hz2 rfl _ q (byteVals O) rfl hOd so n sc rfl hnil hlec (byteVals T) HTq.out (HSR.out _) (byteVals_one _) (by unfold maxLen; omega) (by omega) hibd ?_)
  intro v4 w4 hown4 hg4
  have hF4 : Fr (fun b => (Value.slice oo q oc).ownBlock = some b) w w4 := ((Fr.refl _ w).drewN _).grown hg4 (fun k hk => Or.inl hk)
  have hne4 : ¬ (Value.slice oo q oc).ownBlock = some ib := fun e => by have := (hob ib e).1; omega
  have hat4 := hF4.obj HI.out.at_ hne4
  have c4 := cellOf (o := 3) hat4 rfl
  have f4 := freeOf 3 hat4
  have hown4' : w4.ownsRow (ib + 1) 5 1 v4 (O ++ T).length (byteVals (O ++ T)) := by
    have e : byteVals (O ++ T) = byteVals O ++ byteVals T := by simp [byteVals]
    have e2 : T.length = n := by rw [← HTq.out, length_byteVals]
    rw [List.length_append, HQ.out, e2, e]
    exact hown4
  obtain ⟨so4, sc4, hv4, -⟩ := own_slice hown4'
  obtain ⟨z, hz⟩ : ∃ z, (O ++ T).length = z := ⟨_, rfl⟩
  rw [hz] at hv4
  subst hv4
  have HFIN : Hid _ := StIs.say T HI.out hown4' hF4
  clear hown4' hown4 hg4 hat4 hz
  go_wp2_with fail
  go_end0
  exact ⟨rfl, _, HFIN.out⟩
#print axioms say_good
end Go.Proofs.YthgnhcdodfildaaDoor
