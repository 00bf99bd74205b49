/- The reader reads a whole reference, and all is well. -/
import Derived.Test.YtiokbpknaldbaaaDoorRRfM
namespace Go.Proofs.YtiokbpknaldbaaaDoor
open Go.RowKit Go.Shelf
set_option maxRecDepth 100000 in
set_option maxHeartbeats 8000000 in
theorem ref_cell (rb : Nat) (s t : ByteArray) (q r c z : Nat) (x y fx : Bool) (w : World) (h : RdAt w rb s 0) (hz : s.size ≤ 140737488355328) (hfx : isAt s 36 0 = fx) (hs : shA s (past s 36 0) = .ok (t, q)) (hbad : ¬ (fx = true ∧ t.size = 0)) (hi : isAt s 46 q = true) (hk : crA s (q + 1) = .ok ((r, c, x, y), z)) (h58 : isAt s 58 z = false) (hend : z = s.size) :
    Calls Tryd.prog 17 #[.pointer (some ⟨rb, 0, none⟩)] w fun e w' => e = .returned (.agg #[.string t, .string ⟨#[]⟩, .bool fx, .bool false, .int .i64 (r : Int), .int .i64 (c : Int), .bool x, .bool y, .int .i64 0, .int .i64 0, .bool false, .bool false]) ∧ Fr (oneB rb) w w' := by
  have hp0 := past_le s 36 0 (Nat.zero_le _)
  have hs1 := shA_le hp0.2 hs
  have hq1 := isAt_size hi
  have hk1 := crA_le (by omega) hk
  have hlt := h.lt
  obtain ⟨W0, hW0⟩ : ∃ W0, (w.alloc (.cells #[.string ⟨#[]⟩, .string ⟨#[]⟩, .bool false, .bool false, .int .i64 0, .int .i64 0, .bool false, .bool false, .int .i64 0, .int .i64 0, .bool false, .bool false] 25 (0, 0))).alloc (.cells #[.string ⟨#[]⟩, .string ⟨#[]⟩, .bool false, .bool false, .int .i64 0, .int .i64 0, .bool false, .bool false, .int .i64 0, .int .i64 0, .bool false, .bool false] 25 (0, 0)) = W0 := ⟨_, rfl⟩
  have hF0 : Fr noB w W0 := by rw [← hW0]; exact ((Fr.refl noB w).alloc _).alloc _
  have hR0 : RdAt W0 rb s 0 := h.fr hF0 id
  have hAB := two_refs w
  rw [hW0] at hAB
  obtain ⟨hA0, hB0⟩ := hAB
  have n1 : rb ≠ w.heap.size + 1 := by omega
  have n0 : rb ≠ w.heap.size := by omega
  have n2 : ¬ oneB rb w.heap.size := fun e => by unfold oneB at e; omega
  have n3 : ¬ oneB rb (w.heap.size + 1) := fun e => by unfold oneB at e; omega
  have n4 : w.heap.size ≠ w.heap.size + 1 := by omega
  have H1 := skip36 rb s 0 W0 hR0 (Nat.zero_le _) hz
  rw [hfx] at H1
  have H2 : Hid (∀ W, RdAt W rb s (past s 36 0) → _) := fun W hW => sheet_ok rb s t _ q W hW hp0.2 hz hs
  have H3 : Hid (∀ W, RdAt W rb s q → _) := fun W hW => need46 rb s q W hW (by omega) hz hi
  have H4 : Hid (∀ W, RdAt W rb s (q + 1) → _) := fun W hW => corner_ok rb s (q + 1) r c z x y W hW (by omega) hz hk
  have H5 : Hid (∀ W, RdAt W rb s z → Calls Tryd.prog 28 #[.pointer (some ⟨rb, 0, none⟩), .string ⟨#[58]⟩] W fun e w' => e = .returned (.bool false) ∧ RdAt w' rb s z ∧ Fr (oneB rb) W w') := fun W hW => by
    have e := skip58 rb s z W hW (by omega) hz
    rwa [h58, show past s 58 z = z by unfold past; rw [if_neg (by rw [h58]; simp)]] at e
  have HF0 : Hid (Fr (oneB rb) w W0) := hF0.weak
  have HS : Hid (w.heap.size ≤ w.heap.size + 1) := Nat.le_succ _
  have HH := hold_ok
  have hcd : (t.toList.isEmpty = false ∧ 0 < t.size) ∨ (t.toList.isEmpty = true ∧ t.size = 0 ∧ fx = false) := by
    by_cases ht : t.size = 0
    · right
      refine ⟨emp_yes t ht, ht, ?_⟩
      cases fx with
      | false => rfl
      | true => exact absurd ⟨rfl, ht⟩ hbad
    · left
      exact ⟨emp_no t (by omega), by omega⟩
  subst hend
  clear h hs hi hk hF0 hR0 hp0 hs1 hq1 hk1 hbad h58 hfx
  generalize past s 36 0 = p1 at *
  go_enter Tryd.func17, Tryd.ntmps17
  go_wp2_with (first
    | (go_at_call 28; (with_reducible refine H1.mono ?_); rintro e w1 ⟨rfl, hR1, hF1⟩; have hA1 := hA0.fr hF1 n2; have hB1 := hB0.fr hF1 n3; have g3 := hB1.g2; have f1 := hB1.f; have HG1 : Hid _ := HF0.out.trans hF1; clear hA0 hB0 hF1 H1)
    | (go_at_call 29; (with_reducible refine (H2.out _ (hR1.setO _ _ _ n1)).mono ?_); rintro e w2 ⟨rfl, hR2, hF2⟩; have hA2 := (hA1.setO _ 2 (.bool fx) n4).fr hF2 n2; have hB2 := (hB1.s2 fx).fr hF2 n3; have HG2 : Hid _ := HG1.out.one HS.out _ _ hF2; clear hA1 hB1 g3 f1 hF2 HG1 hR1 H2; have g1 := hB2.g0; have f2 := hB2.f))
  obtain ⟨W2, hW2⟩ : ∃ W2, w2.setCell ⟨w.heap.size + 1, 0, none⟩ (.string t) = W2 := ⟨_, rfl⟩
  have hR3 : RdAt W2 rb s q := by rw [← hW2]; exact hR2.setO _ _ _ n1
  have hA3 := hA2.setO (w.heap.size + 1) 0 (.string t) n4
  have hB3 := hB2.s0 t
  have hG3 := HG2.out.setCell ⟨w.heap.size + 1, 0, none⟩ (Or.inr HS.out) (.string t)
  rw [hW2] at hA3 hB3 hG3
  rw [hW2]
  clear hW2 hA2 hB2 HG2 hR2 g1 f2
  have k0 := hB3.g0
  have k2 := hB3.g2
  have k1 := hR3.c1
  rcases hcd with ⟨he, hts⟩ | ⟨he, hts, rfl⟩
  all_goals
    go_quiet ((go_at_call 30; exact Calls.quiet_of_same (HH _ _ _)))
    obtain ⟨W3, hW3⟩ : ∃ W3, W2.drewN nq = W3 := ⟨_, rfl⟩
    have hF3 : Fr noB W2 W3 := by rw [← hW3]; exact (Fr.refl noB _).drewN _
    rw [hW3]
    clear hW3 k0 k2 k1
    have hR4 := hR3.fr hF3 id
    have hA4 := hA3.fr hF3 id
    have hB4 := hB3.fr hF3 id
    have HG4 : Hid _ := hG3.trans hF3.weak
    clear hR3 hA3 hB3 hG3 hF3
    go_wp2_with (first
      | (go_at_call 31; (with_reducible refine (H3.out _ hR4).mono ?_); rintro e w5 ⟨rfl, hR5, hF5⟩; have hA5 := hA4.fr hF5 n2; have hB5 := hB4.fr hF5 n3; have HG5 : Hid _ := HG4.out.trans hF5; clear hA4 hB4 hF5 HG4 hR4)
      | (go_at_call 32; (with_reducible refine (H4.out _ hR5).mono ?_); rintro e w6 ⟨rfl, hR6, hF6⟩; have hA6 := hA5.fr hF6 n2; have hB6 := hB5.fr hF6 n3; have HG6 : Hid _ := HG5.out.trans hF6; clear hA5 hB5 hF6 HG5 hR5; have g4 := hB6.g4; have g5 := hB6.g5; have g6 := hB6.g6; have g7 := hB6.g7; have f6 := hB6.f)
      | (go_at_call 28; (with_reducible refine (H5.out _ ((((hR6.setO _ 4 (.int .i64 (r : Int)) n1).setO _ 5 (.int .i64 (c : Int)) n1).setO _ 6 (.bool x) n1).setO _ 7 (.bool y) n1)).mono ?_); rintro e w7 ⟨rfl, hR7, hF7⟩; have hA7 := ((((hA6.setO _ 4 (.int .i64 (r : Int)) n4).setO _ 5 (.int .i64 (c : Int)) n4).setO _ 6 (.bool x) n4).setO _ 7 (.bool y) n4).fr hF7 n2; have hB7 := ((((hB6.s4 (r : Int)).s5 (c : Int)).s6 x).s7 y).fr hF7 n3; have HG7 : Hid _ := ((((HG6.out.setCell ⟨w.heap.size + 1, 4, none⟩ (Or.inr HS.out) (.int .i64 (r : Int))).setCell ⟨w.heap.size + 1, 5, none⟩ (Or.inr HS.out) (.int .i64 (c : Int))).setCell ⟨w.heap.size + 1, 6, none⟩ (Or.inr HS.out) (.bool x)).setCell ⟨w.heap.size + 1, 7, none⟩ (Or.inr HS.out) (.bool y)).trans hF7; clear hA6 hB6 hF7 HG6 hR6 g4 g5 g6 g7 f6))
    have k0 := hR7.c0
    have k1 := hR7.c1
    have hzz : ((s.size : Int) == (s.size : Int)) = true := by simp
    go_quiet ((go_at_call 30; exact Calls.quiet_of_same (HH _ _ _)))
    obtain ⟨W8, hW8⟩ : ∃ W8, w7.drewN nq = W8 := ⟨_, rfl⟩
    have hF8 : Fr noB w7 W8 := by rw [← hW8]; exact (Fr.refl noB _).drewN _
    rw [hW8]
    clear hW8 k0 k1
    have hA8 := hA7.fr hF8 id
    have hB8 := hB7.fr hF8 id
    have HG8 : Hid _ := HG7.out.trans hF8.weak
    clear hR7 hA7 hB7 HG7 hF8
    have g0 := hB8.g0; have g1 := hB8.g1; have g2 := hB8.g2; have g3 := hB8.g3; have g4 := hB8.g4; have g5 := hB8.g5; have g6 := hB8.g6; have g7 := hB8.g7; have g8 := hB8.g8; have g9 := hB8.g9; have g10 := hB8.g10; have g11 := hB8.g11
    have k0 := hA8.g0; have k1 := hA8.g1; have k2 := hA8.g2; have k3 := hA8.g3; have k4 := hA8.g4; have k5 := hA8.g5; have k6 := hA8.g6; have k7 := hA8.g7; have k8 := hA8.g8; have k9 := hA8.g9; have k10 := hA8.g10; have k11 := hA8.g11
    have f8 := hA8.f
    go_wp2_with fail
    exact bodyPost_ret (rret Tryd.results17 _ _ w.heap.size rfl (hA8.all _ _ _ _ _ _ _ _ _ _ _ _)) rfl ⟨rfl, HG8.out.all (Or.inr (Nat.le_refl _)) _ _ _ _ _ _ _ _ _ _ _ _⟩
set_option maxRecDepth 100000 in
set_option maxHeartbeats 8000000 in
theorem ref_area (rb : Nat) (s t : ByteArray) (q r c z : Nat) (x y fx : Bool) (u : ByteArray) (q2 r2 c2 z2 : Nat) (x2 y2 : Bool) (w : World) (h : RdAt w rb s 0) (hz : s.size ≤ 140737488355328) (hfx : isAt s 36 0 = fx) (hs : shA s (past s 36 0) = .ok (t, q)) (hbad : ¬ (fx = true ∧ t.size = 0)) (hi : isAt s 46 q = true) (hk : crA s (q + 1) = .ok ((r, c, x, y), z)) (h58 : isAt s 58 z = true) (hto : toA s t (z + 1) = .ok (u, q2)) (hi2 : isAt s 46 q2 = true) (hk2 : crA s (q2 + 1) = .ok ((r2, c2, x2, y2), z2)) (hend : z2 = s.size) :
    Calls Tryd.prog 17 #[.pointer (some ⟨rb, 0, none⟩)] w fun e w' => e = .returned (.agg #[.string t, .string u, .bool fx, .bool true, .int .i64 (r : Int), .int .i64 (c : Int), .bool x, .bool y, .int .i64 (r2 : Int), .int .i64 (c2 : Int), .bool x2, .bool y2]) ∧ Fr (oneB rb) w w' := by
  have hp0 := past_le s 36 0 (Nat.zero_le _)
  have hs1 := shA_le hp0.2 hs
  have hq1 := isAt_size hi
  have hk1 := crA_le (by omega) hk
  have hlt := h.lt
  obtain ⟨W0, hW0⟩ : ∃ W0, (w.alloc (.cells #[.string ⟨#[]⟩, .string ⟨#[]⟩, .bool false, .bool false, .int .i64 0, .int .i64 0, .bool false, .bool false, .int .i64 0, .int .i64 0, .bool false, .bool false] 25 (0, 0))).alloc (.cells #[.string ⟨#[]⟩, .string ⟨#[]⟩, .bool false, .bool false, .int .i64 0, .int .i64 0, .bool false, .bool false, .int .i64 0, .int .i64 0, .bool false, .bool false] 25 (0, 0)) = W0 := ⟨_, rfl⟩
  have hF0 : Fr noB w W0 := by rw [← hW0]; exact ((Fr.refl noB w).alloc _).alloc _
  have hR0 : RdAt W0 rb s 0 := h.fr hF0 id
  have hAB := two_refs w
  rw [hW0] at hAB
  obtain ⟨hA0, hB0⟩ := hAB
  have n1 : rb ≠ w.heap.size + 1 := by omega
  have n0 : rb ≠ w.heap.size := by omega
  have n2 : ¬ oneB rb w.heap.size := fun e => by unfold oneB at e; omega
  have n3 : ¬ oneB rb (w.heap.size + 1) := fun e => by unfold oneB at e; omega
  have n4 : w.heap.size ≠ w.heap.size + 1 := by omega
  have H1 := skip36 rb s 0 W0 hR0 (Nat.zero_le _) hz
  rw [hfx] at H1
  have H2 : Hid (∀ W, RdAt W rb s (past s 36 0) → _) := fun W hW => sheet_ok rb s t _ q W hW hp0.2 hz hs
  have H3 : Hid (∀ W, RdAt W rb s q → _) := fun W hW => need46 rb s q W hW (by omega) hz hi
  have H4 : Hid (∀ W, RdAt W rb s (q + 1) → _) := fun W hW => corner_ok rb s (q + 1) r c z x y W hW (by omega) hz hk
  have hz58 := isAt_size h58
  have hto1 := shA_le (by omega) (toA_ok hto).1
  have hq2 := isAt_size hi2
  have H5 : Hid (∀ W, RdAt W rb s z → Calls Tryd.prog 28 #[.pointer (some ⟨rb, 0, none⟩), .string ⟨#[58]⟩] W fun e w' => e = .returned (.bool true) ∧ RdAt w' rb s (z + 1) ∧ Fr (oneB rb) W w') := fun W hW => by
    have e := skip58 rb s z W hW (by omega) hz
    rwa [h58, show past s 58 z = z + 1 by unfold past; rw [if_pos h58]] at e
  have H6 : Hid (∀ W, RdAt W rb s (z + 1) → _) := fun W hW => to_ok rb s t u (z + 1) q2 W hW (by omega) hz hto
  have H7 : Hid (∀ W, RdAt W rb s q2 → _) := fun W hW => need46 rb s q2 W hW (by omega) hz hi2
  have H8 : Hid (∀ W, RdAt W rb s (q2 + 1) → _) := fun W hW => corner_ok rb s (q2 + 1) r2 c2 z2 x2 y2 W hW (by omega) hz hk2
  have HF0 : Hid (Fr (oneB rb) w W0) := hF0.weak
  have HS : Hid (w.heap.size ≤ w.heap.size + 1) := Nat.le_succ _
  have HH := hold_ok
  have hcd : (t.toList.isEmpty = false ∧ 0 < t.size) ∨ (t.toList.isEmpty = true ∧ t.size = 0 ∧ fx = false) := by
    by_cases ht : t.size = 0
    · right
      refine ⟨emp_yes t ht, ht, ?_⟩
      cases fx with
      | false => rfl
      | true => exact absurd ⟨rfl, ht⟩ hbad
    · left
      exact ⟨emp_no t (by omega), by omega⟩
  subst hend
  clear h hs hi hk hF0 hR0 hp0 hs1 hq1 hk1 hbad h58 hfx hto hi2 hk2 hto1 hq2 hz58
  generalize past s 36 0 = p1 at *
  go_enter Tryd.func17, Tryd.ntmps17
  go_wp2_with (first
    | (go_at_call 28; (with_reducible refine H1.mono ?_); rintro e w1 ⟨rfl, hR1, hF1⟩; have hA1 := hA0.fr hF1 n2; have hB1 := hB0.fr hF1 n3; have g3 := hB1.g2; have f1 := hB1.f; have HG1 : Hid _ := HF0.out.trans hF1; clear hA0 hB0 hF1 H1)
    | (go_at_call 29; (with_reducible refine (H2.out _ (hR1.setO _ _ _ n1)).mono ?_); rintro e w2 ⟨rfl, hR2, hF2⟩; have hA2 := (hA1.setO _ 2 (.bool fx) n4).fr hF2 n2; have hB2 := (hB1.s2 fx).fr hF2 n3; have HG2 : Hid _ := HG1.out.one HS.out _ _ hF2; clear hA1 hB1 g3 f1 hF2 HG1 hR1 H2; have g1 := hB2.g0; have f2 := hB2.f))
  obtain ⟨W2, hW2⟩ : ∃ W2, w2.setCell ⟨w.heap.size + 1, 0, none⟩ (.string t) = W2 := ⟨_, rfl⟩
  have hR3 : RdAt W2 rb s q := by rw [← hW2]; exact hR2.setO _ _ _ n1
  have hA3 := hA2.setO (w.heap.size + 1) 0 (.string t) n4
  have hB3 := hB2.s0 t
  have hG3 := HG2.out.setCell ⟨w.heap.size + 1, 0, none⟩ (Or.inr HS.out) (.string t)
  rw [hW2] at hA3 hB3 hG3
  rw [hW2]
  clear hW2 hA2 hB2 HG2 hR2 g1 f2
  have k0 := hB3.g0
  have k2 := hB3.g2
  have k1 := hR3.c1
  rcases hcd with ⟨he, hts⟩ | ⟨he, hts, rfl⟩
  all_goals
    go_quiet ((go_at_call 30; exact Calls.quiet_of_same (HH _ _ _)))
    obtain ⟨W3, hW3⟩ : ∃ W3, W2.drewN nq = W3 := ⟨_, rfl⟩
    have hF3 : Fr noB W2 W3 := by rw [← hW3]; exact (Fr.refl noB _).drewN _
    rw [hW3]
    clear hW3 k0 k2 k1
    have hR4 := hR3.fr hF3 id
    have hA4 := hA3.fr hF3 id
    have hB4 := hB3.fr hF3 id
    have HG4 : Hid _ := hG3.trans hF3.weak
    clear hR3 hA3 hB3 hG3 hF3
    go_wp2_with (first
      | (go_at_call 31; (with_reducible refine (H3.out _ hR4).mono ?_); rintro e w5 ⟨rfl, hR5, hF5⟩; have hA5 := hA4.fr hF5 n2; have hB5 := hB4.fr hF5 n3; have HG5 : Hid _ := HG4.out.trans hF5; clear hA4 hB4 hF5 HG4 hR4)
      | (go_at_call 32; (with_reducible refine (H4.out _ hR5).mono ?_); rintro e w6 ⟨rfl, hR6, hF6⟩; have hA6 := hA5.fr hF6 n2; have hB6 := hB5.fr hF6 n3; have HG6 : Hid _ := HG5.out.trans hF6; clear hA5 hB5 hF6 HG5 hR5; have g4 := hB6.g4; have g5 := hB6.g5; have g6 := hB6.g6; have g7 := hB6.g7; have f6 := hB6.f)
      | (go_at_call 28; (with_reducible refine (H5.out _ ((((hR6.setO _ 4 (.int .i64 (r : Int)) n1).setO _ 5 (.int .i64 (c : Int)) n1).setO _ 6 (.bool x) n1).setO _ 7 (.bool y) n1)).mono ?_); rintro e w7 ⟨rfl, hR7, hF7⟩; have hA7 := ((((hA6.setO _ 4 (.int .i64 (r : Int)) n4).setO _ 5 (.int .i64 (c : Int)) n4).setO _ 6 (.bool x) n4).setO _ 7 (.bool y) n4).fr hF7 n2; have hB7 := ((((hB6.s4 (r : Int)).s5 (c : Int)).s6 x).s7 y).fr hF7 n3; have HG7 : Hid _ := ((((HG6.out.setCell ⟨w.heap.size + 1, 4, none⟩ (Or.inr HS.out) (.int .i64 (r : Int))).setCell ⟨w.heap.size + 1, 5, none⟩ (Or.inr HS.out) (.int .i64 (c : Int))).setCell ⟨w.heap.size + 1, 6, none⟩ (Or.inr HS.out) (.bool x)).setCell ⟨w.heap.size + 1, 7, none⟩ (Or.inr HS.out) (.bool y)).trans hF7; clear hA6 hB6 hF7 HG6 hR6 g4 g5 g6 g7 f6; have g0 := hB7.g0; have g3 := hB7.g3; have f7 := hB7.f)
      | (go_at_call 33; (with_reducible refine (H6.out _ (hR7.setO _ 3 (.bool true) n1)).mono ?_); rintro e w8 ⟨rfl, hR8, hF8⟩; have hA8 := (hA7.setO _ 3 (.bool true) n4).fr hF8 n2; have hB8 := (hB7.s3 true).fr hF8 n3; have HG8 : Hid _ := HG7.out.one HS.out _ _ hF8; clear hA7 hB7 hF8 HG7 hR7 g0 g3 f7; have g1 := hB8.g1; have f8 := hB8.f)
      | (go_at_call 31; (with_reducible refine (H7.out _ (hR8.setO _ 1 (.string u) n1)).mono ?_); rintro e w9 ⟨rfl, hR9, hF9⟩; have hA9 := (hA8.setO _ 1 (.string u) n4).fr hF9 n2; have hB9 := (hB8.s1 u).fr hF9 n3; have HG9 : Hid _ := HG8.out.one HS.out _ _ hF9; clear hA8 hB8 hF9 HG8 hR8 g1 f8)
      | (go_at_call 32; (with_reducible refine (H8.out _ hR9).mono ?_); rintro e wa ⟨rfl, hRa, hFa⟩; have hAa := hA9.fr hFa n2; have hBa := hB9.fr hFa n3; have HGa : Hid _ := HG9.out.trans hFa; clear hA9 hB9 hFa HG9 hR9; have g8 := hBa.g8; have g9 := hBa.g9; have g10 := hBa.g10; have g11 := hBa.g11; have fa := hBa.f))
    obtain ⟨Wb, hWb⟩ : ∃ Wb, (((wa.setCell ⟨w.heap.size + 1, 8, none⟩ (.int .i64 (r2 : Int))).setCell ⟨w.heap.size + 1, 9, none⟩ (.int .i64 (c2 : Int))).setCell ⟨w.heap.size + 1, 10, none⟩ (.bool x2)).setCell ⟨w.heap.size + 1, 11, none⟩ (.bool y2) = Wb := ⟨_, rfl⟩
    have hRb := (((hRa.setO _ 8 (.int .i64 (r2 : Int)) n1).setO _ 9 (.int .i64 (c2 : Int)) n1).setO _ 10 (.bool x2) n1).setO _ 11 (.bool y2) n1
    have hAb := (((hAa.setO _ 8 (.int .i64 (r2 : Int)) n4).setO _ 9 (.int .i64 (c2 : Int)) n4).setO _ 10 (.bool x2) n4).setO _ 11 (.bool y2) n4
    have hBb := (((hBa.s8 (r2 : Int)).s9 (c2 : Int)).s10 x2).s11 y2
    have hGb := ((((HGa.out.setCell ⟨w.heap.size + 1, 8, none⟩ (Or.inr HS.out) (.int .i64 (r2 : Int))).setCell ⟨w.heap.size + 1, 9, none⟩ (Or.inr HS.out) (.int .i64 (c2 : Int))).setCell ⟨w.heap.size + 1, 10, none⟩ (Or.inr HS.out) (.bool x2)).setCell ⟨w.heap.size + 1, 11, none⟩ (Or.inr HS.out) (.bool y2))
    rw [hWb] at hRb hAb hBb hGb
    rw [hWb]
    have HGb : Hid _ := hGb
    clear hWb hRa hAa hBa HGa hGb g8 g9 g10 g11 fa
    have k0 := hRb.c0
    have k1 := hRb.c1
    have hzz : ((s.size : Int) == (s.size : Int)) = true := by simp
    go_quiet ((go_at_call 30; exact Calls.quiet_of_same (HH _ _ _)))
    obtain ⟨W8, hW8⟩ : ∃ W8, Wb.drewN nq = W8 := ⟨_, rfl⟩
    have hF8 : Fr noB Wb W8 := by rw [← hW8]; exact (Fr.refl noB _).drewN _
    rw [hW8]
    clear hW8 k0 k1
    have hA8 := hAb.fr hF8 id
    have hB8 := hBb.fr hF8 id
    have HG8 : Hid _ := HGb.out.trans hF8.weak
    clear hRb hAb hBb HGb hF8
    have g0 := hB8.g0; have g1 := hB8.g1; have g2 := hB8.g2; have g3 := hB8.g3; have g4 := hB8.g4; have g5 := hB8.g5; have g6 := hB8.g6; have g7 := hB8.g7; have g8 := hB8.g8; have g9 := hB8.g9; have g10 := hB8.g10; have g11 := hB8.g11
    have k0 := hA8.g0; have k1 := hA8.g1; have k2 := hA8.g2; have k3 := hA8.g3; have k4 := hA8.g4; have k5 := hA8.g5; have k6 := hA8.g6; have k7 := hA8.g7; have k8 := hA8.g8; have k9 := hA8.g9; have k10 := hA8.g10; have k11 := hA8.g11
    have f8 := hA8.f
    go_wp2_with fail
    exact bodyPost_ret (rret Tryd.results17 _ _ w.heap.size rfl (hA8.all _ _ _ _ _ _ _ _ _ _ _ _)) rfl ⟨rfl, HG8.out.all (Or.inr (Nat.le_refl _)) _ _ _ _ _ _ _ _ _ _ _ _⟩
#print axioms ref_cell
#print axioms ref_area
end Go.Proofs.YtiokbpknaldbaaaDoor
