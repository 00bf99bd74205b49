/- The reader gives a reference up, at each place. -/
import Derived.Test.YtiokbpknaldbaaaDoorRPno
namespace Go.Proofs.YtiokbpknaldbaaaDoor
open Go.RowKit Go.Shelf

theorem ba_nil (t : ByteArray) (h : t.size = 0) : t = ⟨#[]⟩ := by
  cases t with
  | mk d => exact congrArg ByteArray.mk (Array.size_eq_zero_iff.1 h)
theorem ite_yes {c : Prop} {i : Decidable c} {A B : Prop} (h : c) (a : A) : @ite Prop c i A B := by rw [if_pos h]; exact a
section
variable {ops : Array Oper} {S : World → Prop} {op : Oper} {a : Act}
theorem y_neI (n m : Int) (hne : ¬ n = m) (x y : Operand) (hw : Region.wanted op (yielded ops a.tmps) = true) (ho : op.op = .binOp .eql 3 x y 3) (hx : a.eval x = .int .i64 n) (hy : a.eval y = .int .i64 m) : YieldsIf Tryd.prog ops S op (.bool false) a :=
  .inl ⟨hw, fun w _ => by
    unfold execOp
    simp only [ho, hx, hy]
    simp [go_sem, hne]⟩
end
set_option maxRecDepth 100000 in
set_option maxHeartbeats 8000000 in
theorem ref_n1 (rb : Nat) (s : ByteArray) (w : World) (h : RdAt w rb s 0) (hE : ETab w) (hb1 : ¬ rb = 2) (hb2 : ¬ rb = 3) (hz : s.size ≤ 140737488355328) (a : Nat) (d : Int) (hs : shA s (past s 36 0) = .error (a, d)) :
    Calls Tryd.prog 17 #[.pointer (some ⟨rb, 0, none⟩)] w fun e w' => e = thr a d ∧ Fr (oneB rb) w w' := by
  have hp0 := past_le s 36 0 (Nat.zero_le _)
  have hlt := h.lt
  have HE : Hid (∀ W, Fr (oneB rb) w W → ETab W) := fun W hF => hE.fr hF (fun e => hb1 e.symm) (fun e => hb2 e.symm)
  obtain ⟨W0, hW0⟩ : ∃ W0, (w.alloc (.cells #[.string ⟨#[]⟩, .string ⟨#[]⟩, .bool false, .bool false, .int .i64 0, .int .i64 0, .bool false, .bool false, .int .i64 0, .int .i64 0, .bool false, .bool false] 25 (0, 0))).alloc (.cells #[.string ⟨#[]⟩, .string ⟨#[]⟩, .bool false, .bool false, .int .i64 0, .int .i64 0, .bool false, .bool false, .int .i64 0, .int .i64 0, .bool false, .bool false] 25 (0, 0)) = W0 := ⟨_, rfl⟩
  have hF0 : Fr noB w W0 := by rw [← hW0]; exact ((Fr.refl noB w).alloc _).alloc _
  have hR0 : RdAt W0 rb s 0 := h.fr hF0 id
  have hAB := two_refs w
  rw [hW0] at hAB
  obtain ⟨hA0, hB0⟩ := hAB
  have n1 : rb ≠ w.heap.size + 1 := by omega
  have n0 : rb ≠ w.heap.size := by omega
  have n2 : ¬ oneB rb w.heap.size := fun e => by unfold oneB at e; omega
  have n3 : ¬ oneB rb (w.heap.size + 1) := fun e => by unfold oneB at e; omega
  have n4 : w.heap.size ≠ w.heap.size + 1 := by omega
  have H1 := skip36 rb s 0 W0 hR0 (Nat.zero_le _) hz
  generalize isAt s 36 0 = fx at H1
  have H2 : Hid (∀ W, RdAt W rb s (past s 36 0) → _) := fun W hW => sheet_no rb s _ a d W hW hp0.2 hz hs
  have HF0 : Hid (Fr (oneB rb) w W0) := hF0.weak
  have HS : Hid (w.heap.size ≤ w.heap.size + 1) := Nat.le_succ _
  clear h hs hF0 hR0 hp0 hE hb1 hb2
  generalize past s 36 0 = p1 at *
  go_enter Tryd.func17, Tryd.ntmps17
  go_wp2_with (first
    | (go_at_call 28; (with_reducible refine H1.mono ?_); rintro e w1 ⟨rfl, hR1, hF1⟩; have hA1 := hA0.fr hF1 n2; have hB1 := hB0.fr hF1 n3; have g3 := hB1.g2; have f1 := hB1.f; have HG1 : Hid _ := HF0.out.trans hF1; clear hA0 hB0 hF1 H1)
    | (go_at_call 29; (with_reducible refine (H2.out _ (hR1.setO _ _ _ n1)).mono ?_); rintro e w2 ⟨rfl, hF2⟩; exact ⟨rfl, rfl, HG1.out.one HS.out _ _ hF2⟩))
set_option maxRecDepth 100000 in
set_option maxHeartbeats 8000000 in
theorem ref_n2 (rb : Nat) (s : ByteArray) (w : World) (h : RdAt w rb s 0) (hE : ETab w) (hb1 : ¬ rb = 2) (hb2 : ¬ rb = 3) (hz : s.size ≤ 140737488355328) (t : ByteArray) (q : Nat) (hfx : isAt s 36 0 = true) (hs : shA s (past s 36 0) = .ok (t, q)) (ht : t.size = 0) :
    Calls Tryd.prog 17 #[.pointer (some ⟨rb, 0, none⟩)] w fun e w' => e = thr q 110 ∧ Fr (oneB rb) w w' := by
  have hp0 := past_le s 36 0 (Nat.zero_le _)
  have hs1 := shA_le hp0.2 hs
  have hlt := h.lt
  have HE : Hid (∀ W, Fr (oneB rb) w W → ETab W) := fun W hF => hE.fr hF (fun e => hb1 e.symm) (fun e => hb2 e.symm)
  obtain ⟨W0, hW0⟩ : ∃ W0, (w.alloc (.cells #[.string ⟨#[]⟩, .string ⟨#[]⟩, .bool false, .bool false, .int .i64 0, .int .i64 0, .bool false, .bool false, .int .i64 0, .int .i64 0, .bool false, .bool false] 25 (0, 0))).alloc (.cells #[.string ⟨#[]⟩, .string ⟨#[]⟩, .bool false, .bool false, .int .i64 0, .int .i64 0, .bool false, .bool false, .int .i64 0, .int .i64 0, .bool false, .bool false] 25 (0, 0)) = W0 := ⟨_, rfl⟩
  have hF0 : Fr noB w W0 := by rw [← hW0]; exact ((Fr.refl noB w).alloc _).alloc _
  have hR0 : RdAt W0 rb s 0 := h.fr hF0 id
  have hAB := two_refs w
  rw [hW0] at hAB
  obtain ⟨hA0, hB0⟩ := hAB
  have n1 : rb ≠ w.heap.size + 1 := by omega
  have n0 : rb ≠ w.heap.size := by omega
  have n2 : ¬ oneB rb w.heap.size := fun e => by unfold oneB at e; omega
  have n3 : ¬ oneB rb (w.heap.size + 1) := fun e => by unfold oneB at e; omega
  have n4 : w.heap.size ≠ w.heap.size + 1 := by omega
  have H1 := skip36 rb s 0 W0 hR0 (Nat.zero_le _) hz
  rw [hfx] at H1
  have H2 : Hid (∀ W, RdAt W rb s (past s 36 0) → _) := fun W hW => sheet_ok rb s t _ q W hW hp0.2 hz hs
  have HF0 : Hid (Fr (oneB rb) w W0) := hF0.weak
  have HS : Hid (w.heap.size ≤ w.heap.size + 1) := Nat.le_succ _
  clear h hs hF0 hR0 hp0 hE hb1 hb2 hs1 hfx
  generalize past s 36 0 = p1 at *
  obtain rfl := ba_nil t ht
  clear ht
  go_enter Tryd.func17, Tryd.ntmps17
  go_wp2_with (first
    | (go_at_call 28; (with_reducible refine H1.mono ?_); rintro e w1 ⟨rfl, hR1, hF1⟩; have hA1 := hA0.fr hF1 n2; have hB1 := hB0.fr hF1 n3; have g3 := hB1.g2; have f1 := hB1.f; have HG1 : Hid _ := HF0.out.trans hF1; clear hA0 hB0 hF1 H1)
    | (go_at_call 29; (with_reducible refine (H2.out _ (hR1.setO _ _ _ n1)).mono ?_); rintro e w2 ⟨rfl, hR2, hF2⟩; have hA2 := (hA1.setO _ 2 (.bool true) n4).fr hF2 n2; have hB2 := (hB1.s2 true).fr hF2 n3; have HG2 : Hid _ := HG1.out.one HS.out _ _ hF2; clear hA1 hB1 g3 f1 hF2 HG1 hR1 H2; have g1 := hB2.g0; have f2 := hB2.f))
  obtain ⟨W2, hW2⟩ : ∃ W2, w2.setCell ⟨w.heap.size + 1, 0, none⟩ (.string ⟨#[]⟩) = W2 := ⟨_, rfl⟩
  have hR3 : RdAt W2 rb s q := by rw [← hW2]; exact hR2.setO _ _ _ n1
  have hA3 := hA2.setO (w.heap.size + 1) 0 (.string ⟨#[]⟩) n4
  have hB3 := hB2.s0 ⟨#[]⟩
  have hG3 := HG2.out.setCell ⟨w.heap.size + 1, 0, none⟩ (Or.inr HS.out) (.string ⟨#[]⟩)
  rw [hW2] at hA3 hB3 hG3
  rw [hW2]
  clear hW2 hA2 hB2 HG2 hR2 g1 f2
  have hFd := (Fr.refl noB W2).drew
  have hBd := hB3.fr hFd id
  have hRd := hR3.fr hFd id
  refine wp_region_held_drew (S := fun W => W.cell? ⟨w.heap.size + 1, 0, none⟩ = some (.string ⟨#[]⟩) ∧ W.cell? ⟨w.heap.size + 1, 2, none⟩ = some (.bool true) ∧ W.cell? ⟨rb, 1, none⟩ = some (.int .i64 (q : Int))) (by kernel_rfl) ⟨hBd.g0, hBd.g2, hRd.c1⟩ (fun hHeld => ?_)
  refine wpAnyH_take (i := 0) (v := .pointer (some ⟨w.heap.size + 1, 0, none⟩)) rfl (by kernel_rfl) (by kernel_rfl) (by kernel_rfl) (fun _ _ _ h => h) (Or.inl ⟨by kernel_rfl, fun w hSw => by kernel_rfl⟩) hHeld ?_
  refine wpAnyH_take (i := 1) (v := .string ⟨#[]⟩) rfl (by kernel_rfl) (by kernel_rfl) (by kernel_rfl) (fun _ _ _ h => h) (y_loadOf 9 load_str (.tmp 10) (w.heap.size + 1) 0 _ (by kernel_rfl) rfl (by kernel_rfl) (fun w h => h.1)) hHeld ?_
  refine wpAnyH_take (i := 2) (v := .bool false) rfl (by kernel_rfl) (by kernel_rfl) (by kernel_rfl) (fun _ _ _ h => h) (Or.inl ⟨by kernel_rfl, fun w hSw => by kernel_rfl⟩) hHeld ?_
  refine wpAnyH_take (i := 3) (v := .bool false) rfl (by kernel_rfl) (by kernel_rfl) (by kernel_rfl) (fun _ _ _ h => h) (Or.inl ⟨by kernel_rfl, fun w hSw => by kernel_rfl⟩) hHeld ?_
  refine wpAnyH_take (i := 4) (v := .pointer (some ⟨w.heap.size + 1, 2, none⟩)) rfl (by kernel_rfl) (by kernel_rfl) (by kernel_rfl) (fun _ _ _ h => h) (Or.inl ⟨by kernel_rfl, fun w hSw => by kernel_rfl⟩) hHeld ?_
  refine wpAnyH_take (i := 5) (v := .bool true) rfl (by kernel_rfl) (by kernel_rfl) (by kernel_rfl) (fun _ _ _ h => h) (y_loadOf 4 load_boo (.tmp 14) (w.heap.size + 1) 2 _ (by kernel_rfl) rfl (by kernel_rfl) (fun w h => h.2.1)) hHeld ?_
  refine wpAnyH_take (i := 6) (v := .bool false) rfl (by kernel_rfl) (by kernel_rfl) (by kernel_rfl) (fun _ _ _ h => h) (Or.inl ⟨by kernel_rfl, fun w hSw => by kernel_rfl⟩) hHeld ?_
  refine wpAnyH_take (i := 7) (v := .bool false) rfl (by kernel_rfl) (by kernel_rfl) (by kernel_rfl) (fun _ _ _ h => h) (Or.inl ⟨by kernel_rfl, fun w hSw => by kernel_rfl⟩) hHeld ?_
  refine wpAnyH_take (i := 8) (v := .pointer (some ⟨rb, 0, none⟩)) rfl (by kernel_rfl) (by kernel_rfl) (by kernel_rfl) (fun _ _ _ h => h) (Or.inl ⟨by kernel_rfl, fun w hSw => by kernel_rfl⟩) hHeld ?_
  refine wpAnyH_take (i := 9) (v := .pointer (some ⟨rb, 0, none⟩)) rfl (by kernel_rfl) (by kernel_rfl) (by kernel_rfl) (fun _ _ _ h => h) (Or.inl ⟨by kernel_rfl, fun w hSw => by kernel_rfl⟩) hHeld ?_
  refine wpAnyH_take (i := 10) (v := .pointer (some ⟨rb, 1, none⟩)) rfl (by kernel_rfl) (by kernel_rfl) (by kernel_rfl) (fun _ _ _ h => h) (Or.inl ⟨by kernel_rfl, fun w hSw => by kernel_rfl⟩) hHeld ?_
  refine wpAnyH_take (i := 11) (v := .int .i64 (q : Int)) rfl (by kernel_rfl) (by kernel_rfl) (by kernel_rfl) (fun _ _ _ h => h) (y_loadOf 3 load_int (.tmp 20) rb 1 _ (by kernel_rfl) rfl (by kernel_rfl) (fun w h => h.2.2)) hHeld ?_
  refine wpAnyH_ready (rs := [12]) (by kernel_rfl) (by simp) ?_
  refine AllReadyH.cons rfl (fun K hK => ?_) AllReadyH.nil
  (with_reducible refine ite_yes ?_ ?_)
  · kernel_rfl
  (with_reducible refine wp_go 30 #[.bool false, .int .i64 (q : Int), .int .i64 110] ?_ ?_)
  · kernel_rfl
  refine (hold_no q 110 _).mono ?_
  rintro e wz ⟨rfl, rfl⟩
  exact ⟨rfl, rfl, hG3.trans hFd.weak⟩
set_option maxRecDepth 100000 in
set_option maxHeartbeats 8000000 in
theorem ref_n3 (rb : Nat) (s : ByteArray) (w : World) (h : RdAt w rb s 0) (hE : ETab w) (hb1 : ¬ rb = 2) (hb2 : ¬ rb = 3) (hz : s.size ≤ 140737488355328) (t : ByteArray) (q : Nat) (fx : Bool) (hfx : isAt s 36 0 = fx) (hs : shA s (past s 36 0) = .ok (t, q)) (hbad : ¬ (fx = true ∧ t.size = 0)) (hi : isAt s 46 q = false) :
    Calls Tryd.prog 17 #[.pointer (some ⟨rb, 0, none⟩)] w fun e w' => e = thr q 110 ∧ Fr (oneB rb) w w' := by
  have hp0 := past_le s 36 0 (Nat.zero_le _)
  have hs1 := shA_le hp0.2 hs
  have hlt := h.lt
  have HE : Hid (∀ W, Fr (oneB rb) w W → ETab W) := fun W hF => hE.fr hF (fun e => hb1 e.symm) (fun e => hb2 e.symm)
  obtain ⟨W0, hW0⟩ : ∃ W0, (w.alloc (.cells #[.string ⟨#[]⟩, .string ⟨#[]⟩, .bool false, .bool false, .int .i64 0, .int .i64 0, .bool false, .bool false, .int .i64 0, .int .i64 0, .bool false, .bool false] 25 (0, 0))).alloc (.cells #[.string ⟨#[]⟩, .string ⟨#[]⟩, .bool false, .bool false, .int .i64 0, .int .i64 0, .bool false, .bool false, .int .i64 0, .int .i64 0, .bool false, .bool false] 25 (0, 0)) = W0 := ⟨_, rfl⟩
  have hF0 : Fr noB w W0 := by rw [← hW0]; exact ((Fr.refl noB w).alloc _).alloc _
  have hR0 : RdAt W0 rb s 0 := h.fr hF0 id
  have hAB := two_refs w
  rw [hW0] at hAB
  obtain ⟨hA0, hB0⟩ := hAB
  have n1 : rb ≠ w.heap.size + 1 := by omega
  have n0 : rb ≠ w.heap.size := by omega
  have n2 : ¬ oneB rb w.heap.size := fun e => by unfold oneB at e; omega
  have n3 : ¬ oneB rb (w.heap.size + 1) := fun e => by unfold oneB at e; omega
  have n4 : w.heap.size ≠ w.heap.size + 1 := by omega
  have H1 := skip36 rb s 0 W0 hR0 (Nat.zero_le _) hz
  rw [hfx] at H1
  have H2 : Hid (∀ W, RdAt W rb s (past s 36 0) → _) := fun W hW => sheet_ok rb s t _ q W hW hp0.2 hz hs
  have H3 : Hid (∀ W, RdAt W rb s q → _) := fun W hW => need46n rb s q W hW (by omega) hz hi
  have HF0 : Hid (Fr (oneB rb) w W0) := hF0.weak
  have HS : Hid (w.heap.size ≤ w.heap.size + 1) := Nat.le_succ _
  have HH := hold_ok
  have hcd : (t.toList.isEmpty = false ∧ 0 < t.size) ∨ (t.toList.isEmpty = true ∧ t.size = 0 ∧ fx = false) := by
    by_cases ht : t.size = 0
    · right
      refine ⟨emp_yes t ht, ht, ?_⟩
      cases fx with
      | false => rfl
      | true => exact absurd ⟨rfl, ht⟩ hbad
    · left
      exact ⟨emp_no t (by omega), by omega⟩
  clear h hs hF0 hR0 hp0 hE hb1 hb2 hs1 hfx hbad hi
  generalize past s 36 0 = p1 at *
  go_enter Tryd.func17, Tryd.ntmps17
  go_wp2_with (first
    | (go_at_call 28; (with_reducible refine H1.mono ?_); rintro e w1 ⟨rfl, hR1, hF1⟩; have hA1 := hA0.fr hF1 n2; have hB1 := hB0.fr hF1 n3; have g3 := hB1.g2; have f1 := hB1.f; have HG1 : Hid _ := HF0.out.trans hF1; clear hA0 hB0 hF1 H1)
    | (go_at_call 29; (with_reducible refine (H2.out _ (hR1.setO _ _ _ n1)).mono ?_); rintro e w2 ⟨rfl, hR2, hF2⟩; have hA2 := (hA1.setO _ 2 (.bool fx) n4).fr hF2 n2; have hB2 := (hB1.s2 fx).fr hF2 n3; have HG2 : Hid _ := HG1.out.one HS.out _ _ hF2; clear hA1 hB1 g3 f1 hF2 HG1 hR1 H2; have g1 := hB2.g0; have f2 := hB2.f))
  obtain ⟨W2, hW2⟩ : ∃ W2, w2.setCell ⟨w.heap.size + 1, 0, none⟩ (.string t) = W2 := ⟨_, rfl⟩
  have hR3 : RdAt W2 rb s q := by rw [← hW2]; exact hR2.setO _ _ _ n1
  have hA3 := hA2.setO (w.heap.size + 1) 0 (.string t) n4
  have hB3 := hB2.s0 t
  have hG3 := HG2.out.setCell ⟨w.heap.size + 1, 0, none⟩ (Or.inr HS.out) (.string t)
  rw [hW2] at hA3 hB3 hG3
  rw [hW2]
  clear hW2 hA2 hB2 HG2 hR2 g1 f2
  have k0 := hB3.g0
  have k2 := hB3.g2
  have k1 := hR3.c1
  rcases hcd with ⟨he, hts⟩ | ⟨he, hts, rfl⟩
  all_goals
    go_quiet ((go_at_call 30; exact Calls.quiet_of_same (HH _ _ _)))
    obtain ⟨W3, hW3⟩ : ∃ W3, W2.drewN nq = W3 := ⟨_, rfl⟩
    have hF3 : Fr noB W2 W3 := by rw [← hW3]; exact (Fr.refl noB _).drewN _
    rw [hW3]
    clear hW3 k0 k2 k1
    have hR4 := hR3.fr hF3 id
    have hA4 := hA3.fr hF3 id
    have hB4 := hB3.fr hF3 id
    have HG4 : Hid _ := hG3.trans hF3.weak
    clear hR3 hA3 hB3 hG3 hF3
    go_wp2_with (first
      | (go_at_call 31; (with_reducible refine (H3.out _ hR4).mono ?_); rintro e w5 ⟨rfl, hF5⟩; exact ⟨rfl, rfl, HG4.out.trans hF5⟩))
set_option maxRecDepth 100000 in
set_option maxHeartbeats 8000000 in
theorem ref_n4 (rb : Nat) (s : ByteArray) (w : World) (h : RdAt w rb s 0) (hE : ETab w) (hb1 : ¬ rb = 2) (hb2 : ¬ rb = 3) (hz : s.size ≤ 140737488355328) (t : ByteArray) (q : Nat) (fx : Bool) (hfx : isAt s 36 0 = fx) (hs : shA s (past s 36 0) = .ok (t, q)) (hbad : ¬ (fx = true ∧ t.size = 0)) (a : Nat) (d : Int) (hi : isAt s 46 q = true) (hk : crA s (q + 1) = .error (a, d)) :
    Calls Tryd.prog 17 #[.pointer (some ⟨rb, 0, none⟩)] w fun e w' => e = thr a d ∧ Fr (oneB rb) w w' := by
  have hp0 := past_le s 36 0 (Nat.zero_le _)
  have hs1 := shA_le hp0.2 hs
  have hq1 := isAt_size hi
  have hlt := h.lt
  have HE : Hid (∀ W, Fr (oneB rb) w W → ETab W) := fun W hF => hE.fr hF (fun e => hb1 e.symm) (fun e => hb2 e.symm)
  obtain ⟨W0, hW0⟩ : ∃ W0, (w.alloc (.cells #[.string ⟨#[]⟩, .string ⟨#[]⟩, .bool false, .bool false, .int .i64 0, .int .i64 0, .bool false, .bool false, .int .i64 0, .int .i64 0, .bool false, .bool false] 25 (0, 0))).alloc (.cells #[.string ⟨#[]⟩, .string ⟨#[]⟩, .bool false, .bool false, .int .i64 0, .int .i64 0, .bool false, .bool false, .int .i64 0, .int .i64 0, .bool false, .bool false] 25 (0, 0)) = W0 := ⟨_, rfl⟩
  have hF0 : Fr noB w W0 := by rw [← hW0]; exact ((Fr.refl noB w).alloc _).alloc _
  have hR0 : RdAt W0 rb s 0 := h.fr hF0 id
  have hAB := two_refs w
  rw [hW0] at hAB
  obtain ⟨hA0, hB0⟩ := hAB
  have n1 : rb ≠ w.heap.size + 1 := by omega
  have n0 : rb ≠ w.heap.size := by omega
  have n2 : ¬ oneB rb w.heap.size := fun e => by unfold oneB at e; omega
  have n3 : ¬ oneB rb (w.heap.size + 1) := fun e => by unfold oneB at e; omega
  have n4 : w.heap.size ≠ w.heap.size + 1 := by omega
  have H1 := skip36 rb s 0 W0 hR0 (Nat.zero_le _) hz
  rw [hfx] at H1
  have H2 : Hid (∀ W, RdAt W rb s (past s 36 0) → _) := fun W hW => sheet_ok rb s t _ q W hW hp0.2 hz hs
  have H3 : Hid (∀ W, RdAt W rb s q → _) := fun W hW => need46 rb s q W hW (by omega) hz hi
  have H4 : Hid (∀ W, RdAt W rb s (q + 1) → ETab W → _) := fun W hW hEE => corner_no rb s (q + 1) a d W hW hEE hb1 hb2 (by omega) hz hk
  have HF0 : Hid (Fr (oneB rb) w W0) := hF0.weak
  have HS : Hid (w.heap.size ≤ w.heap.size + 1) := Nat.le_succ _
  have HH := hold_ok
  have hcd : (t.toList.isEmpty = false ∧ 0 < t.size) ∨ (t.toList.isEmpty = true ∧ t.size = 0 ∧ fx = false) := by
    by_cases ht : t.size = 0
    · right
      refine ⟨emp_yes t ht, ht, ?_⟩
      cases fx with
      | false => rfl
      | true => exact absurd ⟨rfl, ht⟩ hbad
    · left
      exact ⟨emp_no t (by omega), by omega⟩
  clear h hs hF0 hR0 hp0 hE hb1 hb2 hs1 hfx hbad hi hq1 hk
  generalize past s 36 0 = p1 at *
  go_enter Tryd.func17, Tryd.ntmps17
  go_wp2_with (first
    | (go_at_call 28; (with_reducible refine H1.mono ?_); rintro e w1 ⟨rfl, hR1, hF1⟩; have hA1 := hA0.fr hF1 n2; have hB1 := hB0.fr hF1 n3; have g3 := hB1.g2; have f1 := hB1.f; have HG1 : Hid _ := HF0.out.trans hF1; clear hA0 hB0 hF1 H1)
    | (go_at_call 29; (with_reducible refine (H2.out _ (hR1.setO _ _ _ n1)).mono ?_); rintro e w2 ⟨rfl, hR2, hF2⟩; have hA2 := (hA1.setO _ 2 (.bool fx) n4).fr hF2 n2; have hB2 := (hB1.s2 fx).fr hF2 n3; have HG2 : Hid _ := HG1.out.one HS.out _ _ hF2; clear hA1 hB1 g3 f1 hF2 HG1 hR1 H2; have g1 := hB2.g0; have f2 := hB2.f))
  obtain ⟨W2, hW2⟩ : ∃ W2, w2.setCell ⟨w.heap.size + 1, 0, none⟩ (.string t) = W2 := ⟨_, rfl⟩
  have hR3 : RdAt W2 rb s q := by rw [← hW2]; exact hR2.setO _ _ _ n1
  have hA3 := hA2.setO (w.heap.size + 1) 0 (.string t) n4
  have hB3 := hB2.s0 t
  have hG3 := HG2.out.setCell ⟨w.heap.size + 1, 0, none⟩ (Or.inr HS.out) (.string t)
  rw [hW2] at hA3 hB3 hG3
  rw [hW2]
  clear hW2 hA2 hB2 HG2 hR2 g1 f2
  have k0 := hB3.g0
  have k2 := hB3.g2
  have k1 := hR3.c1
  rcases hcd with ⟨he, hts⟩ | ⟨he, hts, rfl⟩
  all_goals
    go_quiet ((go_at_call 30; exact Calls.quiet_of_same (HH _ _ _)))
    obtain ⟨W3, hW3⟩ : ∃ W3, W2.drewN nq = W3 := ⟨_, rfl⟩
    have hF3 : Fr noB W2 W3 := by rw [← hW3]; exact (Fr.refl noB _).drewN _
    rw [hW3]
    clear hW3 k0 k2 k1
    have hR4 := hR3.fr hF3 id
    have hA4 := hA3.fr hF3 id
    have hB4 := hB3.fr hF3 id
    have HG4 : Hid _ := hG3.trans hF3.weak
    clear hR3 hA3 hB3 hG3 hF3
    go_wp2_with (first
      | (go_at_call 31; (with_reducible refine (H3.out _ hR4).mono ?_); rintro e w5 ⟨rfl, hR5, hF5⟩; have hA5 := hA4.fr hF5 n2; have hB5 := hB4.fr hF5 n3; have HG5 : Hid _ := HG4.out.trans hF5; clear hA4 hB4 hF5 HG4 hR4)
      | (go_at_call 32; (with_reducible refine (H4.out _ hR5 (HE.out _ HG5.out)).mono ?_); rintro e w6 ⟨rfl, hF6⟩; exact ⟨rfl, rfl, HG5.out.trans hF6⟩))
set_option maxRecDepth 100000 in
set_option maxHeartbeats 8000000 in
theorem ref_n5 (rb : Nat) (s : ByteArray) (w : World) (h : RdAt w rb s 0) (hE : ETab w) (hb1 : ¬ rb = 2) (hb2 : ¬ rb = 3) (hz : s.size ≤ 140737488355328) (t : ByteArray) (q : Nat) (fx : Bool) (hfx : isAt s 36 0 = fx) (hs : shA s (past s 36 0) = .ok (t, q)) (hbad : ¬ (fx = true ∧ t.size = 0)) (r c z : Nat) (x y : Bool) (hi : isAt s 46 q = true) (hk : crA s (q + 1) = .ok ((r, c, x, y), z)) (h58 : isAt s 58 z = false) (hnz : z ≠ s.size) :
    Calls Tryd.prog 17 #[.pointer (some ⟨rb, 0, none⟩)] w fun e w' => e = thr z 110 ∧ Fr (oneB rb) w w' := by
  have hp0 := past_le s 36 0 (Nat.zero_le _)
  have hs1 := shA_le hp0.2 hs
  have hq1 := isAt_size hi
  have hk1 := crA_le (by omega) hk
  have hlt := h.lt
  have HE : Hid (∀ W, Fr (oneB rb) w W → ETab W) := fun W hF => hE.fr hF (fun e => hb1 e.symm) (fun e => hb2 e.symm)
  obtain ⟨W0, hW0⟩ : ∃ W0, (w.alloc (.cells #[.string ⟨#[]⟩, .string ⟨#[]⟩, .bool false, .bool false, .int .i64 0, .int .i64 0, .bool false, .bool false, .int .i64 0, .int .i64 0, .bool false, .bool false] 25 (0, 0))).alloc (.cells #[.string ⟨#[]⟩, .string ⟨#[]⟩, .bool false, .bool false, .int .i64 0, .int .i64 0, .bool false, .bool false, .int .i64 0, .int .i64 0, .bool false, .bool false] 25 (0, 0)) = W0 := ⟨_, rfl⟩
  have hF0 : Fr noB w W0 := by rw [← hW0]; exact ((Fr.refl noB w).alloc _).alloc _
  have hR0 : RdAt W0 rb s 0 := h.fr hF0 id
  have hAB := two_refs w
  rw [hW0] at hAB
  obtain ⟨hA0, hB0⟩ := hAB
  have n1 : rb ≠ w.heap.size + 1 := by omega
  have n0 : rb ≠ w.heap.size := by omega
  have n2 : ¬ oneB rb w.heap.size := fun e => by unfold oneB at e; omega
  have n3 : ¬ oneB rb (w.heap.size + 1) := fun e => by unfold oneB at e; omega
  have n4 : w.heap.size ≠ w.heap.size + 1 := by omega
  have H1 := skip36 rb s 0 W0 hR0 (Nat.zero_le _) hz
  rw [hfx] at H1
  have H2 : Hid (∀ W, RdAt W rb s (past s 36 0) → _) := fun W hW => sheet_ok rb s t _ q W hW hp0.2 hz hs
  have H3 : Hid (∀ W, RdAt W rb s q → _) := fun W hW => need46 rb s q W hW (by omega) hz hi
  have H4 : Hid (∀ W, RdAt W rb s (q + 1) → _) := fun W hW => corner_ok rb s (q + 1) r c z x y W hW (by omega) hz hk
  have H5 : Hid (∀ W, RdAt W rb s z → Calls Tryd.prog 28 #[.pointer (some ⟨rb, 0, none⟩), .string ⟨#[58]⟩] W fun e w' => e = .returned (.bool false) ∧ RdAt w' rb s z ∧ Fr (oneB rb) W w') := fun W hW => by
    have e := skip58 rb s z W hW (by omega) hz
    rwa [h58, show past s 58 z = z by unfold past; rw [if_neg (by rw [h58]; simp)]] at e
  have hne : ¬ (z : Int) = (s.size : Int) := by omega
  have HF0 : Hid (Fr (oneB rb) w W0) := hF0.weak
  have HS : Hid (w.heap.size ≤ w.heap.size + 1) := Nat.le_succ _
  have HH := hold_ok
  have hcd : (t.toList.isEmpty = false ∧ 0 < t.size) ∨ (t.toList.isEmpty = true ∧ t.size = 0 ∧ fx = false) := by
    by_cases ht : t.size = 0
    · right
      refine ⟨emp_yes t ht, ht, ?_⟩
      cases fx with
      | false => rfl
      | true => exact absurd ⟨rfl, ht⟩ hbad
    · left
      exact ⟨emp_no t (by omega), by omega⟩
  have HNE : Hid _ := hne
  clear h hs hF0 hR0 hp0 hE hb1 hb2 hs1 hfx hbad hi hq1 hk hk1 h58 hnz hne
  generalize past s 36 0 = p1 at *
  go_enter Tryd.func17, Tryd.ntmps17
  go_wp2_with (first
    | (go_at_call 28; (with_reducible refine H1.mono ?_); rintro e w1 ⟨rfl, hR1, hF1⟩; have hA1 := hA0.fr hF1 n2; have hB1 := hB0.fr hF1 n3; have g3 := hB1.g2; have f1 := hB1.f; have HG1 : Hid _ := HF0.out.trans hF1; clear hA0 hB0 hF1 H1)
    | (go_at_call 29; (with_reducible refine (H2.out _ (hR1.setO _ _ _ n1)).mono ?_); rintro e w2 ⟨rfl, hR2, hF2⟩; have hA2 := (hA1.setO _ 2 (.bool fx) n4).fr hF2 n2; have hB2 := (hB1.s2 fx).fr hF2 n3; have HG2 : Hid _ := HG1.out.one HS.out _ _ hF2; clear hA1 hB1 g3 f1 hF2 HG1 hR1 H2; have g1 := hB2.g0; have f2 := hB2.f))
  obtain ⟨W2, hW2⟩ : ∃ W2, w2.setCell ⟨w.heap.size + 1, 0, none⟩ (.string t) = W2 := ⟨_, rfl⟩
  have hR3 : RdAt W2 rb s q := by rw [← hW2]; exact hR2.setO _ _ _ n1
  have hA3 := hA2.setO (w.heap.size + 1) 0 (.string t) n4
  have hB3 := hB2.s0 t
  have hG3 := HG2.out.setCell ⟨w.heap.size + 1, 0, none⟩ (Or.inr HS.out) (.string t)
  rw [hW2] at hA3 hB3 hG3
  rw [hW2]
  clear hW2 hA2 hB2 HG2 hR2 g1 f2
  have k0 := hB3.g0
  have k2 := hB3.g2
  have k1 := hR3.c1
  rcases hcd with ⟨he, hts⟩ | ⟨he, hts, rfl⟩
  all_goals
    go_quiet ((go_at_call 30; exact Calls.quiet_of_same (HH _ _ _)))
    obtain ⟨W3, hW3⟩ : ∃ W3, W2.drewN nq = W3 := ⟨_, rfl⟩
    have hF3 : Fr noB W2 W3 := by rw [← hW3]; exact (Fr.refl noB _).drewN _
    rw [hW3]
    clear hW3 k0 k2 k1
    have hR4 := hR3.fr hF3 id
    have hA4 := hA3.fr hF3 id
    have hB4 := hB3.fr hF3 id
    have HG4 : Hid _ := hG3.trans hF3.weak
    clear hR3 hA3 hB3 hG3 hF3
    go_wp2_with (first
      | (go_at_call 31; (with_reducible refine (H3.out _ hR4).mono ?_); rintro e w5 ⟨rfl, hR5, hF5⟩; have hA5 := hA4.fr hF5 n2; have hB5 := hB4.fr hF5 n3; have HG5 : Hid _ := HG4.out.trans hF5; clear hA4 hB4 hF5 HG4 hR4)
      | (go_at_call 32; (with_reducible refine (H4.out _ hR5).mono ?_); rintro e w6 ⟨rfl, hR6, hF6⟩; have hA6 := hA5.fr hF6 n2; have hB6 := hB5.fr hF6 n3; have HG6 : Hid _ := HG5.out.trans hF6; clear hA5 hB5 hF6 HG5 hR5; have g4 := hB6.g4; have g5 := hB6.g5; have g6 := hB6.g6; have g7 := hB6.g7; have f6 := hB6.f)
      | (go_at_call 28; (with_reducible refine (H5.out _ ((((hR6.setO _ 4 (.int .i64 (r : Int)) n1).setO _ 5 (.int .i64 (c : Int)) n1).setO _ 6 (.bool x) n1).setO _ 7 (.bool y) n1)).mono ?_); rintro e w7 ⟨rfl, hR7, hF7⟩; have hA7 := ((((hA6.setO _ 4 (.int .i64 (r : Int)) n4).setO _ 5 (.int .i64 (c : Int)) n4).setO _ 6 (.bool x) n4).setO _ 7 (.bool y) n4).fr hF7 n2; have hB7 := ((((hB6.s4 (r : Int)).s5 (c : Int)).s6 x).s7 y).fr hF7 n3; have HG7 : Hid _ := ((((HG6.out.setCell ⟨w.heap.size + 1, 4, none⟩ (Or.inr HS.out) (.int .i64 (r : Int))).setCell ⟨w.heap.size + 1, 5, none⟩ (Or.inr HS.out) (.int .i64 (c : Int))).setCell ⟨w.heap.size + 1, 6, none⟩ (Or.inr HS.out) (.bool x)).setCell ⟨w.heap.size + 1, 7, none⟩ (Or.inr HS.out) (.bool y)).trans hF7; clear hA6 hB6 hF7 HG6 hR6 g4 g5 g6 g7 f6))
    have hG7 := HG7.out
    have hne := HNE.out
    have hFd := (Fr.refl noB w7).drew
    have hRd := hR7.fr hFd id
    refine wp_region_held_drew (S := fun W => W.cell? ⟨rb, 0, none⟩ = some (.string s) ∧ W.cell? ⟨rb, 1, none⟩ = some (.int .i64 (z : Int))) (by kernel_rfl) ⟨hRd.c0, hRd.c1⟩ (fun hHeld => ?_)
    refine wpAnyH_take (i := 0) (v := .pointer (some ⟨rb, 0, none⟩)) rfl (by kernel_rfl) (by kernel_rfl) (by kernel_rfl) (fun _ _ _ h => h) (Or.inl ⟨by kernel_rfl, fun w hSw => by kernel_rfl⟩) hHeld ?_
    refine wpAnyH_take (i := 1) (v := .pointer (some ⟨rb, 0, none⟩)) rfl (by kernel_rfl) (by kernel_rfl) (by kernel_rfl) (fun _ _ _ h => h) (Or.inl ⟨by kernel_rfl, fun w hSw => by kernel_rfl⟩) hHeld ?_
    refine wpAnyH_take (i := 2) (v := .pointer (some ⟨rb, 1, none⟩)) rfl (by kernel_rfl) (by kernel_rfl) (by kernel_rfl) (fun _ _ _ h => h) (Or.inl ⟨by kernel_rfl, fun w hSw => by kernel_rfl⟩) hHeld ?_
    refine wpAnyH_take (i := 3) (v := .int .i64 (z : Int)) rfl (by kernel_rfl) (by kernel_rfl) (by kernel_rfl) (fun _ _ _ h => h) (y_loadOf 3 load_int (.tmp 43) rb 1 _ (by kernel_rfl) rfl (by kernel_rfl) (fun w h => h.2)) hHeld ?_
    refine wpAnyH_take (i := 4) (v := .pointer (some ⟨rb, 0, none⟩)) rfl (by kernel_rfl) (by kernel_rfl) (by kernel_rfl) (fun _ _ _ h => h) (Or.inl ⟨by kernel_rfl, fun w hSw => by kernel_rfl⟩) hHeld ?_
    refine wpAnyH_take (i := 5) (v := .pointer (some ⟨rb, 0, none⟩)) rfl (by kernel_rfl) (by kernel_rfl) (by kernel_rfl) (fun _ _ _ h => h) (Or.inl ⟨by kernel_rfl, fun w hSw => by kernel_rfl⟩) hHeld ?_
    refine wpAnyH_take (i := 6) (v := .pointer (some ⟨rb, 0, none⟩)) rfl (by kernel_rfl) (by kernel_rfl) (by kernel_rfl) (fun _ _ _ h => h) (Or.inl ⟨by kernel_rfl, fun w hSw => by kernel_rfl⟩) hHeld ?_
    refine wpAnyH_take (i := 7) (v := .string s) rfl (by kernel_rfl) (by kernel_rfl) (by kernel_rfl) (fun _ _ _ h => h) (y_loadOf 9 load_str (.tmp 47) rb 0 _ (by kernel_rfl) rfl (by kernel_rfl) (fun w h => h.1)) hHeld ?_
    refine wpAnyH_take (i := 8) (v := .int .i64 (s.size : Int)) rfl (by kernel_rfl) (by kernel_rfl) (by kernel_rfl) (fun _ _ _ h => h) (Or.inl ⟨by kernel_rfl, fun w hSw => by kernel_rfl⟩) hHeld ?_
    refine wpAnyH_take (i := 9) (v := .bool false) rfl (by kernel_rfl) (by kernel_rfl) (by kernel_rfl) (fun _ _ _ h => h) (y_neI (z : Int) (s.size : Int) hne (.tmp 44) (.tmp 49) (by kernel_rfl) rfl (by kernel_rfl) (by kernel_rfl)) hHeld ?_
    refine wpAnyH_take (i := 10) (v := .pointer (some ⟨rb, 0, none⟩)) rfl (by kernel_rfl) (by kernel_rfl) (by kernel_rfl) (fun _ _ _ h => h) (Or.inl ⟨by kernel_rfl, fun w hSw => by kernel_rfl⟩) hHeld ?_
    refine wpAnyH_take (i := 11) (v := .pointer (some ⟨rb, 0, none⟩)) rfl (by kernel_rfl) (by kernel_rfl) (by kernel_rfl) (fun _ _ _ h => h) (Or.inl ⟨by kernel_rfl, fun w hSw => by kernel_rfl⟩) hHeld ?_
    refine wpAnyH_take (i := 12) (v := .pointer (some ⟨rb, 1, none⟩)) rfl (by kernel_rfl) (by kernel_rfl) (by kernel_rfl) (fun _ _ _ h => h) (Or.inl ⟨by kernel_rfl, fun w hSw => by kernel_rfl⟩) hHeld ?_
    refine wpAnyH_take (i := 13) (v := .int .i64 (z : Int)) rfl (by kernel_rfl) (by kernel_rfl) (by kernel_rfl) (fun _ _ _ h => h) (y_loadOf 3 load_int (.tmp 53) rb 1 _ (by kernel_rfl) rfl (by kernel_rfl) (fun w h => h.2)) hHeld ?_
    refine wpAnyH_ready (rs := [14]) (by kernel_rfl) (by simp) ?_
    refine AllReadyH.cons rfl (fun K hK => ?_) AllReadyH.nil
    (with_reducible refine ite_yes ?_ ?_)
    · kernel_rfl
    (with_reducible refine wp_go 30 #[.bool false, .int .i64 (z : Int), .int .i64 110] ?_ ?_)
    · kernel_rfl
    refine (hold_no z 110 _).mono ?_
    rintro e wz ⟨rfl, rfl⟩
    exact ⟨rfl, rfl, hG7.trans hFd.weak⟩
set_option maxRecDepth 100000 in
set_option maxHeartbeats 8000000 in
theorem ref_n6 (rb : Nat) (s : ByteArray) (w : World) (h : RdAt w rb s 0) (hE : ETab w) (hb1 : ¬ rb = 2) (hb2 : ¬ rb = 3) (hz : s.size ≤ 140737488355328) (t : ByteArray) (q : Nat) (fx : Bool) (hfx : isAt s 36 0 = fx) (hs : shA s (past s 36 0) = .ok (t, q)) (hbad : ¬ (fx = true ∧ t.size = 0)) (r c z : Nat) (x y : Bool) (hi : isAt s 46 q = true) (hk : crA s (q + 1) = .ok ((r, c, x, y), z)) (a : Nat) (d : Int) (h58 : isAt s 58 z = true) (hto : toA s t (z + 1) = .error (a, d)) :
    Calls Tryd.prog 17 #[.pointer (some ⟨rb, 0, none⟩)] w fun e w' => e = thr a d ∧ Fr (oneB rb) w w' := by
  have hp0 := past_le s 36 0 (Nat.zero_le _)
  have hs1 := shA_le hp0.2 hs
  have hq1 := isAt_size hi
  have hk1 := crA_le (by omega) hk
  have hz58 := isAt_size h58
  have hlt := h.lt
  have HE : Hid (∀ W, Fr (oneB rb) w W → ETab W) := fun W hF => hE.fr hF (fun e => hb1 e.symm) (fun e => hb2 e.symm)
  obtain ⟨W0, hW0⟩ : ∃ W0, (w.alloc (.cells #[.string ⟨#[]⟩, .string ⟨#[]⟩, .bool false, .bool false, .int .i64 0, .int .i64 0, .bool false, .bool false, .int .i64 0, .int .i64 0, .bool false, .bool false] 25 (0, 0))).alloc (.cells #[.string ⟨#[]⟩, .string ⟨#[]⟩, .bool false, .bool false, .int .i64 0, .int .i64 0, .bool false, .bool false, .int .i64 0, .int .i64 0, .bool false, .bool false] 25 (0, 0)) = W0 := ⟨_, rfl⟩
  have hF0 : Fr noB w W0 := by rw [← hW0]; exact ((Fr.refl noB w).alloc _).alloc _
  have hR0 : RdAt W0 rb s 0 := h.fr hF0 id
  have hAB := two_refs w
  rw [hW0] at hAB
  obtain ⟨hA0, hB0⟩ := hAB
  have n1 : rb ≠ w.heap.size + 1 := by omega
  have n0 : rb ≠ w.heap.size := by omega
  have n2 : ¬ oneB rb w.heap.size := fun e => by unfold oneB at e; omega
  have n3 : ¬ oneB rb (w.heap.size + 1) := fun e => by unfold oneB at e; omega
  have n4 : w.heap.size ≠ w.heap.size + 1 := by omega
  have H1 := skip36 rb s 0 W0 hR0 (Nat.zero_le _) hz
  rw [hfx] at H1
  have H2 : Hid (∀ W, RdAt W rb s (past s 36 0) → _) := fun W hW => sheet_ok rb s t _ q W hW hp0.2 hz hs
  have H3 : Hid (∀ W, RdAt W rb s q → _) := fun W hW => need46 rb s q W hW (by omega) hz hi
  have H4 : Hid (∀ W, RdAt W rb s (q + 1) → _) := fun W hW => corner_ok rb s (q + 1) r c z x y W hW (by omega) hz hk
  have H5 : Hid (∀ W, RdAt W rb s z → Calls Tryd.prog 28 #[.pointer (some ⟨rb, 0, none⟩), .string ⟨#[58]⟩] W fun e w' => e = .returned (.bool true) ∧ RdAt w' rb s (z + 1) ∧ Fr (oneB rb) W w') := fun W hW => by
    have e := skip58 rb s z W hW (by omega) hz
    rwa [h58, show past s 58 z = z + 1 by unfold past; rw [if_pos h58]] at e
  have H6 : Hid (∀ W, RdAt W rb s (z + 1) → _) := fun W hW => to_no rb s t (z + 1) a d W hW (by omega) hz hto
  have HF0 : Hid (Fr (oneB rb) w W0) := hF0.weak
  have HS : Hid (w.heap.size ≤ w.heap.size + 1) := Nat.le_succ _
  have HH := hold_ok
  have hcd : (t.toList.isEmpty = false ∧ 0 < t.size) ∨ (t.toList.isEmpty = true ∧ t.size = 0 ∧ fx = false) := by
    by_cases ht : t.size = 0
    · right
      refine ⟨emp_yes t ht, ht, ?_⟩
      cases fx with
      | false => rfl
      | true => exact absurd ⟨rfl, ht⟩ hbad
    · left
      exact ⟨emp_no t (by omega), by omega⟩
  clear h hs hF0 hR0 hp0 hE hb1 hb2 hs1 hfx hbad hi hq1 hk hk1 h58 hz58 hto
  generalize past s 36 0 = p1 at *
  go_enter Tryd.func17, Tryd.ntmps17
  go_wp2_with (first
    | (go_at_call 28; (with_reducible refine H1.mono ?_); rintro e w1 ⟨rfl, hR1, hF1⟩; have hA1 := hA0.fr hF1 n2; have hB1 := hB0.fr hF1 n3; have g3 := hB1.g2; have f1 := hB1.f; have HG1 : Hid _ := HF0.out.trans hF1; clear hA0 hB0 hF1 H1)
    | (go_at_call 29; (with_reducible refine (H2.out _ (hR1.setO _ _ _ n1)).mono ?_); rintro e w2 ⟨rfl, hR2, hF2⟩; have hA2 := (hA1.setO _ 2 (.bool fx) n4).fr hF2 n2; have hB2 := (hB1.s2 fx).fr hF2 n3; have HG2 : Hid _ := HG1.out.one HS.out _ _ hF2; clear hA1 hB1 g3 f1 hF2 HG1 hR1 H2; have g1 := hB2.g0; have f2 := hB2.f))
  obtain ⟨W2, hW2⟩ : ∃ W2, w2.setCell ⟨w.heap.size + 1, 0, none⟩ (.string t) = W2 := ⟨_, rfl⟩
  have hR3 : RdAt W2 rb s q := by rw [← hW2]; exact hR2.setO _ _ _ n1
  have hA3 := hA2.setO (w.heap.size + 1) 0 (.string t) n4
  have hB3 := hB2.s0 t
  have hG3 := HG2.out.setCell ⟨w.heap.size + 1, 0, none⟩ (Or.inr HS.out) (.string t)
  rw [hW2] at hA3 hB3 hG3
  rw [hW2]
  clear hW2 hA2 hB2 HG2 hR2 g1 f2
  have k0 := hB3.g0
  have k2 := hB3.g2
  have k1 := hR3.c1
  rcases hcd with ⟨he, hts⟩ | ⟨he, hts, rfl⟩
  all_goals
    go_quiet ((go_at_call 30; exact Calls.quiet_of_same (HH _ _ _)))
    obtain ⟨W3, hW3⟩ : ∃ W3, W2.drewN nq = W3 := ⟨_, rfl⟩
    have hF3 : Fr noB W2 W3 := by rw [← hW3]; exact (Fr.refl noB _).drewN _
    rw [hW3]
    clear hW3 k0 k2 k1
    have hR4 := hR3.fr hF3 id
    have hA4 := hA3.fr hF3 id
    have hB4 := hB3.fr hF3 id
    have HG4 : Hid _ := hG3.trans hF3.weak
    clear hR3 hA3 hB3 hG3 hF3
    go_wp2_with (first
      | (go_at_call 31; (with_reducible refine (H3.out _ hR4).mono ?_); rintro e w5 ⟨rfl, hR5, hF5⟩; have hA5 := hA4.fr hF5 n2; have hB5 := hB4.fr hF5 n3; have HG5 : Hid _ := HG4.out.trans hF5; clear hA4 hB4 hF5 HG4 hR4)
      | (go_at_call 32; (with_reducible refine (H4.out _ hR5).mono ?_); rintro e w6 ⟨rfl, hR6, hF6⟩; have hA6 := hA5.fr hF6 n2; have hB6 := hB5.fr hF6 n3; have HG6 : Hid _ := HG5.out.trans hF6; clear hA5 hB5 hF6 HG5 hR5; have g4 := hB6.g4; have g5 := hB6.g5; have g6 := hB6.g6; have g7 := hB6.g7; have f6 := hB6.f)
      | (go_at_call 28; (with_reducible refine (H5.out _ ((((hR6.setO _ 4 (.int .i64 (r : Int)) n1).setO _ 5 (.int .i64 (c : Int)) n1).setO _ 6 (.bool x) n1).setO _ 7 (.bool y) n1)).mono ?_); rintro e w7 ⟨rfl, hR7, hF7⟩; have hA7 := ((((hA6.setO _ 4 (.int .i64 (r : Int)) n4).setO _ 5 (.int .i64 (c : Int)) n4).setO _ 6 (.bool x) n4).setO _ 7 (.bool y) n4).fr hF7 n2; have hB7 := ((((hB6.s4 (r : Int)).s5 (c : Int)).s6 x).s7 y).fr hF7 n3; have HG7 : Hid _ := ((((HG6.out.setCell ⟨w.heap.size + 1, 4, none⟩ (Or.inr HS.out) (.int .i64 (r : Int))).setCell ⟨w.heap.size + 1, 5, none⟩ (Or.inr HS.out) (.int .i64 (c : Int))).setCell ⟨w.heap.size + 1, 6, none⟩ (Or.inr HS.out) (.bool x)).setCell ⟨w.heap.size + 1, 7, none⟩ (Or.inr HS.out) (.bool y)).trans hF7; clear hA6 hB6 hF7 HG6 hR6 g4 g5 g6 g7 f6; have g0 := hB7.g0; have g3 := hB7.g3; have f7 := hB7.f)
      | (go_at_call 33; (with_reducible refine (H6.out _ (hR7.setO _ 3 (.bool true) n1)).mono ?_); rintro e w8 ⟨rfl, hF8⟩; exact ⟨rfl, rfl, HG7.out.one HS.out _ _ hF8⟩))
set_option maxRecDepth 100000 in
set_option maxHeartbeats 8000000 in
theorem ref_n7 (rb : Nat) (s : ByteArray) (w : World) (h : RdAt w rb s 0) (hE : ETab w) (hb1 : ¬ rb = 2) (hb2 : ¬ rb = 3) (hz : s.size ≤ 140737488355328) (t : ByteArray) (q : Nat) (fx : Bool) (hfx : isAt s 36 0 = fx) (hs : shA s (past s 36 0) = .ok (t, q)) (hbad : ¬ (fx = true ∧ t.size = 0)) (r c z : Nat) (x y : Bool) (hi : isAt s 46 q = true) (hk : crA s (q + 1) = .ok ((r, c, x, y), z)) (u : ByteArray) (q2 : Nat) (h58 : isAt s 58 z = true) (hto : toA s t (z + 1) = .ok (u, q2)) (hi2 : isAt s 46 q2 = false) :
    Calls Tryd.prog 17 #[.pointer (some ⟨rb, 0, none⟩)] w fun e w' => e = thr q2 110 ∧ Fr (oneB rb) w w' := by
  have hp0 := past_le s 36 0 (Nat.zero_le _)
  have hs1 := shA_le hp0.2 hs
  have hq1 := isAt_size hi
  have hk1 := crA_le (by omega) hk
  have hz58 := isAt_size h58
  have hto1 := shA_le (by omega) (toA_ok hto).1
  have hlt := h.lt
  have HE : Hid (∀ W, Fr (oneB rb) w W → ETab W) := fun W hF => hE.fr hF (fun e => hb1 e.symm) (fun e => hb2 e.symm)
  obtain ⟨W0, hW0⟩ : ∃ W0, (w.alloc (.cells #[.string ⟨#[]⟩, .string ⟨#[]⟩, .bool false, .bool false, .int .i64 0, .int .i64 0, .bool false, .bool false, .int .i64 0, .int .i64 0, .bool false, .bool false] 25 (0, 0))).alloc (.cells #[.string ⟨#[]⟩, .string ⟨#[]⟩, .bool false, .bool false, .int .i64 0, .int .i64 0, .bool false, .bool false, .int .i64 0, .int .i64 0, .bool false, .bool false] 25 (0, 0)) = W0 := ⟨_, rfl⟩
  have hF0 : Fr noB w W0 := by rw [← hW0]; exact ((Fr.refl noB w).alloc _).alloc _
  have hR0 : RdAt W0 rb s 0 := h.fr hF0 id
  have hAB := two_refs w
  rw [hW0] at hAB
  obtain ⟨hA0, hB0⟩ := hAB
  have n1 : rb ≠ w.heap.size + 1 := by omega
  have n0 : rb ≠ w.heap.size := by omega
  have n2 : ¬ oneB rb w.heap.size := fun e => by unfold oneB at e; omega
  have n3 : ¬ oneB rb (w.heap.size + 1) := fun e => by unfold oneB at e; omega
  have n4 : w.heap.size ≠ w.heap.size + 1 := by omega
  have H1 := skip36 rb s 0 W0 hR0 (Nat.zero_le _) hz
  rw [hfx] at H1
  have H2 : Hid (∀ W, RdAt W rb s (past s 36 0) → _) := fun W hW => sheet_ok rb s t _ q W hW hp0.2 hz hs
  have H3 : Hid (∀ W, RdAt W rb s q → _) := fun W hW => need46 rb s q W hW (by omega) hz hi
  have H4 : Hid (∀ W, RdAt W rb s (q + 1) → _) := fun W hW => corner_ok rb s (q + 1) r c z x y W hW (by omega) hz hk
  have H5 : Hid (∀ W, RdAt W rb s z → Calls Tryd.prog 28 #[.pointer (some ⟨rb, 0, none⟩), .string ⟨#[58]⟩] W fun e w' => e = .returned (.bool true) ∧ RdAt w' rb s (z + 1) ∧ Fr (oneB rb) W w') := fun W hW => by
    have e := skip58 rb s z W hW (by omega) hz
    rwa [h58, show past s 58 z = z + 1 by unfold past; rw [if_pos h58]] at e
  have H6 : Hid (∀ W, RdAt W rb s (z + 1) → _) := fun W hW => to_ok rb s t u (z + 1) q2 W hW (by omega) hz hto
  have H7 : Hid (∀ W, RdAt W rb s q2 → _) := fun W hW => need46n rb s q2 W hW (by omega) hz hi2
  have HF0 : Hid (Fr (oneB rb) w W0) := hF0.weak
  have HS : Hid (w.heap.size ≤ w.heap.size + 1) := Nat.le_succ _
  have HH := hold_ok
  have hcd : (t.toList.isEmpty = false ∧ 0 < t.size) ∨ (t.toList.isEmpty = true ∧ t.size = 0 ∧ fx = false) := by
    by_cases ht : t.size = 0
    · right
      refine ⟨emp_yes t ht, ht, ?_⟩
      cases fx with
      | false => rfl
      | true => exact absurd ⟨rfl, ht⟩ hbad
    · left
      exact ⟨emp_no t (by omega), by omega⟩
  clear h hs hF0 hR0 hp0 hE hb1 hb2 hs1 hfx hbad hi hq1 hk hk1 h58 hz58 hto hto1 hi2
  generalize past s 36 0 = p1 at *
  go_enter Tryd.func17, Tryd.ntmps17
  go_wp2_with (first
    | (go_at_call 28; (with_reducible refine H1.mono ?_); rintro e w1 ⟨rfl, hR1, hF1⟩; have hA1 := hA0.fr hF1 n2; have hB1 := hB0.fr hF1 n3; have g3 := hB1.g2; have f1 := hB1.f; have HG1 : Hid _ := HF0.out.trans hF1; clear hA0 hB0 hF1 H1)
    | (go_at_call 29; (with_reducible refine (H2.out _ (hR1.setO _ _ _ n1)).mono ?_); rintro e w2 ⟨rfl, hR2, hF2⟩; have hA2 := (hA1.setO _ 2 (.bool fx) n4).fr hF2 n2; have hB2 := (hB1.s2 fx).fr hF2 n3; have HG2 : Hid _ := HG1.out.one HS.out _ _ hF2; clear hA1 hB1 g3 f1 hF2 HG1 hR1 H2; have g1 := hB2.g0; have f2 := hB2.f))
  obtain ⟨W2, hW2⟩ : ∃ W2, w2.setCell ⟨w.heap.size + 1, 0, none⟩ (.string t) = W2 := ⟨_, rfl⟩
  have hR3 : RdAt W2 rb s q := by rw [← hW2]; exact hR2.setO _ _ _ n1
  have hA3 := hA2.setO (w.heap.size + 1) 0 (.string t) n4
  have hB3 := hB2.s0 t
  have hG3 := HG2.out.setCell ⟨w.heap.size + 1, 0, none⟩ (Or.inr HS.out) (.string t)
  rw [hW2] at hA3 hB3 hG3
  rw [hW2]
  clear hW2 hA2 hB2 HG2 hR2 g1 f2
  have k0 := hB3.g0
  have k2 := hB3.g2
  have k1 := hR3.c1
  rcases hcd with ⟨he, hts⟩ | ⟨he, hts, rfl⟩
  all_goals
    go_quiet ((go_at_call 30; exact Calls.quiet_of_same (HH _ _ _)))
    obtain ⟨W3, hW3⟩ : ∃ W3, W2.drewN nq = W3 := ⟨_, rfl⟩
    have hF3 : Fr noB W2 W3 := by rw [← hW3]; exact (Fr.refl noB _).drewN _
    rw [hW3]
    clear hW3 k0 k2 k1
    have hR4 := hR3.fr hF3 id
    have hA4 := hA3.fr hF3 id
    have hB4 := hB3.fr hF3 id
    have HG4 : Hid _ := hG3.trans hF3.weak
    clear hR3 hA3 hB3 hG3 hF3
    go_wp2_with (first
      | (go_at_call 31; (with_reducible refine (H3.out _ hR4).mono ?_); rintro e w5 ⟨rfl, hR5, hF5⟩; have hA5 := hA4.fr hF5 n2; have hB5 := hB4.fr hF5 n3; have HG5 : Hid _ := HG4.out.trans hF5; clear hA4 hB4 hF5 HG4 hR4)
      | (go_at_call 32; (with_reducible refine (H4.out _ hR5).mono ?_); rintro e w6 ⟨rfl, hR6, hF6⟩; have hA6 := hA5.fr hF6 n2; have hB6 := hB5.fr hF6 n3; have HG6 : Hid _ := HG5.out.trans hF6; clear hA5 hB5 hF6 HG5 hR5; have g4 := hB6.g4; have g5 := hB6.g5; have g6 := hB6.g6; have g7 := hB6.g7; have f6 := hB6.f)
      | (go_at_call 28; (with_reducible refine (H5.out _ ((((hR6.setO _ 4 (.int .i64 (r : Int)) n1).setO _ 5 (.int .i64 (c : Int)) n1).setO _ 6 (.bool x) n1).setO _ 7 (.bool y) n1)).mono ?_); rintro e w7 ⟨rfl, hR7, hF7⟩; have hA7 := ((((hA6.setO _ 4 (.int .i64 (r : Int)) n4).setO _ 5 (.int .i64 (c : Int)) n4).setO _ 6 (.bool x) n4).setO _ 7 (.bool y) n4).fr hF7 n2; have hB7 := ((((hB6.s4 (r : Int)).s5 (c : Int)).s6 x).s7 y).fr hF7 n3; have HG7 : Hid _ := ((((HG6.out.setCell ⟨w.heap.size + 1, 4, none⟩ (Or.inr HS.out) (.int .i64 (r : Int))).setCell ⟨w.heap.size + 1, 5, none⟩ (Or.inr HS.out) (.int .i64 (c : Int))).setCell ⟨w.heap.size + 1, 6, none⟩ (Or.inr HS.out) (.bool x)).setCell ⟨w.heap.size + 1, 7, none⟩ (Or.inr HS.out) (.bool y)).trans hF7; clear hA6 hB6 hF7 HG6 hR6 g4 g5 g6 g7 f6; have g0 := hB7.g0; have g3 := hB7.g3; have f7 := hB7.f)
      | (go_at_call 33; (with_reducible refine (H6.out _ (hR7.setO _ 3 (.bool true) n1)).mono ?_); rintro e w8 ⟨rfl, hR8, hF8⟩; have hA8 := (hA7.setO _ 3 (.bool true) n4).fr hF8 n2; have hB8 := (hB7.s3 true).fr hF8 n3; have HG8 : Hid _ := HG7.out.one HS.out _ _ hF8; clear hA7 hB7 hF8 HG7 hR7 g0 g3 f7; have g1 := hB8.g1; have f8 := hB8.f)
      | (go_at_call 31; (with_reducible refine (H7.out _ (hR8.setO _ 1 (.string u) n1)).mono ?_); rintro e w9 ⟨rfl, hF9⟩; exact ⟨rfl, rfl, HG8.out.one HS.out _ _ hF9⟩))
set_option maxRecDepth 100000 in
set_option maxHeartbeats 8000000 in
theorem ref_n8 (rb : Nat) (s : ByteArray) (w : World) (h : RdAt w rb s 0) (hE : ETab w) (hb1 : ¬ rb = 2) (hb2 : ¬ rb = 3) (hz : s.size ≤ 140737488355328) (t : ByteArray) (q : Nat) (fx : Bool) (hfx : isAt s 36 0 = fx) (hs : shA s (past s 36 0) = .ok (t, q)) (hbad : ¬ (fx = true ∧ t.size = 0)) (r c z : Nat) (x y : Bool) (hi : isAt s 46 q = true) (hk : crA s (q + 1) = .ok ((r, c, x, y), z)) (u : ByteArray) (q2 : Nat) (h58 : isAt s 58 z = true) (hto : toA s t (z + 1) = .ok (u, q2)) (a : Nat) (d : Int) (hi2 : isAt s 46 q2 = true) (hk2 : crA s (q2 + 1) = .error (a, d)) :
    Calls Tryd.prog 17 #[.pointer (some ⟨rb, 0, none⟩)] w fun e w' => e = thr a d ∧ Fr (oneB rb) w w' := by
  have hp0 := past_le s 36 0 (Nat.zero_le _)
  have hs1 := shA_le hp0.2 hs
  have hq1 := isAt_size hi
  have hk1 := crA_le (by omega) hk
  have hz58 := isAt_size h58
  have hto1 := shA_le (by omega) (toA_ok hto).1
  have hq2 := isAt_size hi2
  have hlt := h.lt
  have HE : Hid (∀ W, Fr (oneB rb) w W → ETab W) := fun W hF => hE.fr hF (fun e => hb1 e.symm) (fun e => hb2 e.symm)
  obtain ⟨W0, hW0⟩ : ∃ W0, (w.alloc (.cells #[.string ⟨#[]⟩, .string ⟨#[]⟩, .bool false, .bool false, .int .i64 0, .int .i64 0, .bool false, .bool false, .int .i64 0, .int .i64 0, .bool false, .bool false] 25 (0, 0))).alloc (.cells #[.string ⟨#[]⟩, .string ⟨#[]⟩, .bool false, .bool false, .int .i64 0, .int .i64 0, .bool false, .bool false, .int .i64 0, .int .i64 0, .bool false, .bool false] 25 (0, 0)) = W0 := ⟨_, rfl⟩
  have hF0 : Fr noB w W0 := by rw [← hW0]; exact ((Fr.refl noB w).alloc _).alloc _
  have hR0 : RdAt W0 rb s 0 := h.fr hF0 id
  have hAB := two_refs w
  rw [hW0] at hAB
  obtain ⟨hA0, hB0⟩ := hAB
  have n1 : rb ≠ w.heap.size + 1 := by omega
  have n0 : rb ≠ w.heap.size := by omega
  have n2 : ¬ oneB rb w.heap.size := fun e => by unfold oneB at e; omega
  have n3 : ¬ oneB rb (w.heap.size + 1) := fun e => by unfold oneB at e; omega
  have n4 : w.heap.size ≠ w.heap.size + 1 := by omega
  have H1 := skip36 rb s 0 W0 hR0 (Nat.zero_le _) hz
  rw [hfx] at H1
  have H2 : Hid (∀ W, RdAt W rb s (past s 36 0) → _) := fun W hW => sheet_ok rb s t _ q W hW hp0.2 hz hs
  have H3 : Hid (∀ W, RdAt W rb s q → _) := fun W hW => need46 rb s q W hW (by omega) hz hi
  have H4 : Hid (∀ W, RdAt W rb s (q + 1) → _) := fun W hW => corner_ok rb s (q + 1) r c z x y W hW (by omega) hz hk
  have H5 : Hid (∀ W, RdAt W rb s z → Calls Tryd.prog 28 #[.pointer (some ⟨rb, 0, none⟩), .string ⟨#[58]⟩] W fun e w' => e = .returned (.bool true) ∧ RdAt w' rb s (z + 1) ∧ Fr (oneB rb) W w') := fun W hW => by
    have e := skip58 rb s z W hW (by omega) hz
    rwa [h58, show past s 58 z = z + 1 by unfold past; rw [if_pos h58]] at e
  have H6 : Hid (∀ W, RdAt W rb s (z + 1) → _) := fun W hW => to_ok rb s t u (z + 1) q2 W hW (by omega) hz hto
  have H7 : Hid (∀ W, RdAt W rb s q2 → _) := fun W hW => need46 rb s q2 W hW (by omega) hz hi2
  have H8 : Hid (∀ W, RdAt W rb s (q2 + 1) → ETab W → _) := fun W hW hEE => corner_no rb s (q2 + 1) a d W hW hEE hb1 hb2 (by omega) hz hk2
  have HF0 : Hid (Fr (oneB rb) w W0) := hF0.weak
  have HS : Hid (w.heap.size ≤ w.heap.size + 1) := Nat.le_succ _
  have HH := hold_ok
  have hcd : (t.toList.isEmpty = false ∧ 0 < t.size) ∨ (t.toList.isEmpty = true ∧ t.size = 0 ∧ fx = false) := by
    by_cases ht : t.size = 0
    · right
      refine ⟨emp_yes t ht, ht, ?_⟩
      cases fx with
      | false => rfl
      | true => exact absurd ⟨rfl, ht⟩ hbad
    · left
      exact ⟨emp_no t (by omega), by omega⟩
  clear h hs hF0 hR0 hp0 hE hb1 hb2 hs1 hfx hbad hi hq1 hk hk1 h58 hz58 hto hto1 hi2 hq2 hk2
  generalize past s 36 0 = p1 at *
  go_enter Tryd.func17, Tryd.ntmps17
  go_wp2_with (first
    | (go_at_call 28; (with_reducible refine H1.mono ?_); rintro e w1 ⟨rfl, hR1, hF1⟩; have hA1 := hA0.fr hF1 n2; have hB1 := hB0.fr hF1 n3; have g3 := hB1.g2; have f1 := hB1.f; have HG1 : Hid _ := HF0.out.trans hF1; clear hA0 hB0 hF1 H1)
    | (go_at_call 29; (with_reducible refine (H2.out _ (hR1.setO _ _ _ n1)).mono ?_); rintro e w2 ⟨rfl, hR2, hF2⟩; have hA2 := (hA1.setO _ 2 (.bool fx) n4).fr hF2 n2; have hB2 := (hB1.s2 fx).fr hF2 n3; have HG2 : Hid _ := HG1.out.one HS.out _ _ hF2; clear hA1 hB1 g3 f1 hF2 HG1 hR1 H2; have g1 := hB2.g0; have f2 := hB2.f))
  obtain ⟨W2, hW2⟩ : ∃ W2, w2.setCell ⟨w.heap.size + 1, 0, none⟩ (.string t) = W2 := ⟨_, rfl⟩
  have hR3 : RdAt W2 rb s q := by rw [← hW2]; exact hR2.setO _ _ _ n1
  have hA3 := hA2.setO (w.heap.size + 1) 0 (.string t) n4
  have hB3 := hB2.s0 t
  have hG3 := HG2.out.setCell ⟨w.heap.size + 1, 0, none⟩ (Or.inr HS.out) (.string t)
  rw [hW2] at hA3 hB3 hG3
  rw [hW2]
  clear hW2 hA2 hB2 HG2 hR2 g1 f2
  have k0 := hB3.g0
  have k2 := hB3.g2
  have k1 := hR3.c1
  rcases hcd with ⟨he, hts⟩ | ⟨he, hts, rfl⟩
  all_goals
    go_quiet ((go_at_call 30; exact Calls.quiet_of_same (HH _ _ _)))
    obtain ⟨W3, hW3⟩ : ∃ W3, W2.drewN nq = W3 := ⟨_, rfl⟩
    have hF3 : Fr noB W2 W3 := by rw [← hW3]; exact (Fr.refl noB _).drewN _
    rw [hW3]
    clear hW3 k0 k2 k1
    have hR4 := hR3.fr hF3 id
    have hA4 := hA3.fr hF3 id
    have hB4 := hB3.fr hF3 id
    have HG4 : Hid _ := hG3.trans hF3.weak
    clear hR3 hA3 hB3 hG3 hF3
    go_wp2_with (first
      | (go_at_call 31; (with_reducible refine (H3.out _ hR4).mono ?_); rintro e w5 ⟨rfl, hR5, hF5⟩; have hA5 := hA4.fr hF5 n2; have hB5 := hB4.fr hF5 n3; have HG5 : Hid _ := HG4.out.trans hF5; clear hA4 hB4 hF5 HG4 hR4)
      | (go_at_call 32; (with_reducible refine (H4.out _ hR5).mono ?_); rintro e w6 ⟨rfl, hR6, hF6⟩; have hA6 := hA5.fr hF6 n2; have hB6 := hB5.fr hF6 n3; have HG6 : Hid _ := HG5.out.trans hF6; clear hA5 hB5 hF6 HG5 hR5; have g4 := hB6.g4; have g5 := hB6.g5; have g6 := hB6.g6; have g7 := hB6.g7; have f6 := hB6.f)
      | (go_at_call 28; (with_reducible refine (H5.out _ ((((hR6.setO _ 4 (.int .i64 (r : Int)) n1).setO _ 5 (.int .i64 (c : Int)) n1).setO _ 6 (.bool x) n1).setO _ 7 (.bool y) n1)).mono ?_); rintro e w7 ⟨rfl, hR7, hF7⟩; have hA7 := ((((hA6.setO _ 4 (.int .i64 (r : Int)) n4).setO _ 5 (.int .i64 (c : Int)) n4).setO _ 6 (.bool x) n4).setO _ 7 (.bool y) n4).fr hF7 n2; have hB7 := ((((hB6.s4 (r : Int)).s5 (c : Int)).s6 x).s7 y).fr hF7 n3; have HG7 : Hid _ := ((((HG6.out.setCell ⟨w.heap.size + 1, 4, none⟩ (Or.inr HS.out) (.int .i64 (r : Int))).setCell ⟨w.heap.size + 1, 5, none⟩ (Or.inr HS.out) (.int .i64 (c : Int))).setCell ⟨w.heap.size + 1, 6, none⟩ (Or.inr HS.out) (.bool x)).setCell ⟨w.heap.size + 1, 7, none⟩ (Or.inr HS.out) (.bool y)).trans hF7; clear hA6 hB6 hF7 HG6 hR6 g4 g5 g6 g7 f6; have g0 := hB7.g0; have g3 := hB7.g3; have f7 := hB7.f)
      | (go_at_call 33; (with_reducible refine (H6.out _ (hR7.setO _ 3 (.bool true) n1)).mono ?_); rintro e w8 ⟨rfl, hR8, hF8⟩; have hA8 := (hA7.setO _ 3 (.bool true) n4).fr hF8 n2; have hB8 := (hB7.s3 true).fr hF8 n3; have HG8 : Hid _ := HG7.out.one HS.out _ _ hF8; clear hA7 hB7 hF8 HG7 hR7 g0 g3 f7; have g1 := hB8.g1; have f8 := hB8.f)
      | (go_at_call 31; (with_reducible refine (H7.out _ (hR8.setO _ 1 (.string u) n1)).mono ?_); rintro e w9 ⟨rfl, hR9, hF9⟩; have hA9 := (hA8.setO _ 1 (.string u) n4).fr hF9 n2; have hB9 := (hB8.s1 u).fr hF9 n3; have HG9 : Hid _ := HG8.out.one HS.out _ _ hF9; clear hA8 hB8 hF9 HG8 hR8 g1 f8)
      | (go_at_call 32; (with_reducible refine (H8.out _ hR9 (HE.out _ HG9.out)).mono ?_); rintro e wa ⟨rfl, hFa⟩; exact ⟨rfl, rfl, HG9.out.trans hFa⟩))
set_option maxRecDepth 100000 in
set_option maxHeartbeats 8000000 in
theorem ref_n9 (rb : Nat) (s : ByteArray) (w : World) (h : RdAt w rb s 0) (hE : ETab w) (hb1 : ¬ rb = 2) (hb2 : ¬ rb = 3) (hz : s.size ≤ 140737488355328) (t : ByteArray) (q : Nat) (fx : Bool) (hfx : isAt s 36 0 = fx) (hs : shA s (past s 36 0) = .ok (t, q)) (hbad : ¬ (fx = true ∧ t.size = 0)) (r c z : Nat) (x y : Bool) (hi : isAt s 46 q = true) (hk : crA s (q + 1) = .ok ((r, c, x, y), z)) (u : ByteArray) (q2 : Nat) (h58 : isAt s 58 z = true) (hto : toA s t (z + 1) = .ok (u, q2)) (r2 c2 z2 : Nat) (x2 y2 : Bool) (hi2 : isAt s 46 q2 = true) (hk2 : crA s (q2 + 1) = .ok ((r2, c2, x2, y2), z2)) (hnz : z2 ≠ s.size) :
    Calls Tryd.prog 17 #[.pointer (some ⟨rb, 0, none⟩)] w fun e w' => e = thr z2 110 ∧ Fr (oneB rb) w w' := by
  have hp0 := past_le s 36 0 (Nat.zero_le _)
  have hs1 := shA_le hp0.2 hs
  have hq1 := isAt_size hi
  have hk1 := crA_le (by omega) hk
  have hz58 := isAt_size h58
  have hto1 := shA_le (by omega) (toA_ok hto).1
  have hq2 := isAt_size hi2
  have hlt := h.lt
  have HE : Hid (∀ W, Fr (oneB rb) w W → ETab W) := fun W hF => hE.fr hF (fun e => hb1 e.symm) (fun e => hb2 e.symm)
  obtain ⟨W0, hW0⟩ : ∃ W0, (w.alloc (.cells #[.string ⟨#[]⟩, .string ⟨#[]⟩, .bool false, .bool false, .int .i64 0, .int .i64 0, .bool false, .bool false, .int .i64 0, .int .i64 0, .bool false, .bool false] 25 (0, 0))).alloc (.cells #[.string ⟨#[]⟩, .string ⟨#[]⟩, .bool false, .bool false, .int .i64 0, .int .i64 0, .bool false, .bool false, .int .i64 0, .int .i64 0, .bool false, .bool false] 25 (0, 0)) = W0 := ⟨_, rfl⟩
  have hF0 : Fr noB w W0 := by rw [← hW0]; exact ((Fr.refl noB w).alloc _).alloc _
  have hR0 : RdAt W0 rb s 0 := h.fr hF0 id
  have hAB := two_refs w
  rw [hW0] at hAB
  obtain ⟨hA0, hB0⟩ := hAB
  have n1 : rb ≠ w.heap.size + 1 := by omega
  have n0 : rb ≠ w.heap.size := by omega
  have n2 : ¬ oneB rb w.heap.size := fun e => by unfold oneB at e; omega
  have n3 : ¬ oneB rb (w.heap.size + 1) := fun e => by unfold oneB at e; omega
  have n4 : w.heap.size ≠ w.heap.size + 1 := by omega
  have H1 := skip36 rb s 0 W0 hR0 (Nat.zero_le _) hz
  rw [hfx] at H1
  have H2 : Hid (∀ W, RdAt W rb s (past s 36 0) → _) := fun W hW => sheet_ok rb s t _ q W hW hp0.2 hz hs
  have H3 : Hid (∀ W, RdAt W rb s q → _) := fun W hW => need46 rb s q W hW (by omega) hz hi
  have H4 : Hid (∀ W, RdAt W rb s (q + 1) → _) := fun W hW => corner_ok rb s (q + 1) r c z x y W hW (by omega) hz hk
  have H5 : Hid (∀ W, RdAt W rb s z → Calls Tryd.prog 28 #[.pointer (some ⟨rb, 0, none⟩), .string ⟨#[58]⟩] W fun e w' => e = .returned (.bool true) ∧ RdAt w' rb s (z + 1) ∧ Fr (oneB rb) W w') := fun W hW => by
    have e := skip58 rb s z W hW (by omega) hz
    rwa [h58, show past s 58 z = z + 1 by unfold past; rw [if_pos h58]] at e
  have H6 : Hid (∀ W, RdAt W rb s (z + 1) → _) := fun W hW => to_ok rb s t u (z + 1) q2 W hW (by omega) hz hto
  have H7 : Hid (∀ W, RdAt W rb s q2 → _) := fun W hW => need46 rb s q2 W hW (by omega) hz hi2
  have H8 : Hid (∀ W, RdAt W rb s (q2 + 1) → _) := fun W hW => corner_ok rb s (q2 + 1) r2 c2 z2 x2 y2 W hW (by omega) hz hk2
  have hne : ¬ (z2 : Int) = (s.size : Int) := by omega
  have HF0 : Hid (Fr (oneB rb) w W0) := hF0.weak
  have HS : Hid (w.heap.size ≤ w.heap.size + 1) := Nat.le_succ _
  have HH := hold_ok
  have hcd : (t.toList.isEmpty = false ∧ 0 < t.size) ∨ (t.toList.isEmpty = true ∧ t.size = 0 ∧ fx = false) := by
    by_cases ht : t.size = 0
    · right
      refine ⟨emp_yes t ht, ht, ?_⟩
      cases fx with
      | false => rfl
      | true => exact absurd ⟨rfl, ht⟩ hbad
    · left
      exact ⟨emp_no t (by omega), by omega⟩
  have HNE : Hid _ := hne
  clear h hs hF0 hR0 hp0 hE hb1 hb2 hs1 hfx hbad hi hq1 hk hk1 h58 hz58 hto hto1 hi2 hq2 hk2 hnz hne
  generalize past s 36 0 = p1 at *
  go_enter Tryd.func17, Tryd.ntmps17
  go_wp2_with (first
    | (go_at_call 28; (with_reducible refine H1.mono ?_); rintro e w1 ⟨rfl, hR1, hF1⟩; have hA1 := hA0.fr hF1 n2; have hB1 := hB0.fr hF1 n3; have g3 := hB1.g2; have f1 := hB1.f; have HG1 : Hid _ := HF0.out.trans hF1; clear hA0 hB0 hF1 H1)
    | (go_at_call 29; (with_reducible refine (H2.out _ (hR1.setO _ _ _ n1)).mono ?_); rintro e w2 ⟨rfl, hR2, hF2⟩; have hA2 := (hA1.setO _ 2 (.bool fx) n4).fr hF2 n2; have hB2 := (hB1.s2 fx).fr hF2 n3; have HG2 : Hid _ := HG1.out.one HS.out _ _ hF2; clear hA1 hB1 g3 f1 hF2 HG1 hR1 H2; have g1 := hB2.g0; have f2 := hB2.f))
  obtain ⟨W2, hW2⟩ : ∃ W2, w2.setCell ⟨w.heap.size + 1, 0, none⟩ (.string t) = W2 := ⟨_, rfl⟩
  have hR3 : RdAt W2 rb s q := by rw [← hW2]; exact hR2.setO _ _ _ n1
  have hA3 := hA2.setO (w.heap.size + 1) 0 (.string t) n4
  have hB3 := hB2.s0 t
  have hG3 := HG2.out.setCell ⟨w.heap.size + 1, 0, none⟩ (Or.inr HS.out) (.string t)
  rw [hW2] at hA3 hB3 hG3
  rw [hW2]
  clear hW2 hA2 hB2 HG2 hR2 g1 f2
  have k0 := hB3.g0
  have k2 := hB3.g2
  have k1 := hR3.c1
  rcases hcd with ⟨he, hts⟩ | ⟨he, hts, rfl⟩
  all_goals
    go_quiet ((go_at_call 30; exact Calls.quiet_of_same (HH _ _ _)))
    obtain ⟨W3, hW3⟩ : ∃ W3, W2.drewN nq = W3 := ⟨_, rfl⟩
    have hF3 : Fr noB W2 W3 := by rw [← hW3]; exact (Fr.refl noB _).drewN _
    rw [hW3]
    clear hW3 k0 k2 k1
    have hR4 := hR3.fr hF3 id
    have hA4 := hA3.fr hF3 id
    have hB4 := hB3.fr hF3 id
    have HG4 : Hid _ := hG3.trans hF3.weak
    clear hR3 hA3 hB3 hG3 hF3
    go_wp2_with (first
      | (go_at_call 31; (with_reducible refine (H3.out _ hR4).mono ?_); rintro e w5 ⟨rfl, hR5, hF5⟩; have hA5 := hA4.fr hF5 n2; have hB5 := hB4.fr hF5 n3; have HG5 : Hid _ := HG4.out.trans hF5; clear hA4 hB4 hF5 HG4 hR4)
      | (go_at_call 32; (with_reducible refine (H4.out _ hR5).mono ?_); rintro e w6 ⟨rfl, hR6, hF6⟩; have hA6 := hA5.fr hF6 n2; have hB6 := hB5.fr hF6 n3; have HG6 : Hid _ := HG5.out.trans hF6; clear hA5 hB5 hF6 HG5 hR5; have g4 := hB6.g4; have g5 := hB6.g5; have g6 := hB6.g6; have g7 := hB6.g7; have f6 := hB6.f)
      | (go_at_call 28; (with_reducible refine (H5.out _ ((((hR6.setO _ 4 (.int .i64 (r : Int)) n1).setO _ 5 (.int .i64 (c : Int)) n1).setO _ 6 (.bool x) n1).setO _ 7 (.bool y) n1)).mono ?_); rintro e w7 ⟨rfl, hR7, hF7⟩; have hA7 := ((((hA6.setO _ 4 (.int .i64 (r : Int)) n4).setO _ 5 (.int .i64 (c : Int)) n4).setO _ 6 (.bool x) n4).setO _ 7 (.bool y) n4).fr hF7 n2; have hB7 := ((((hB6.s4 (r : Int)).s5 (c : Int)).s6 x).s7 y).fr hF7 n3; have HG7 : Hid _ := ((((HG6.out.setCell ⟨w.heap.size + 1, 4, none⟩ (Or.inr HS.out) (.int .i64 (r : Int))).setCell ⟨w.heap.size + 1, 5, none⟩ (Or.inr HS.out) (.int .i64 (c : Int))).setCell ⟨w.heap.size + 1, 6, none⟩ (Or.inr HS.out) (.bool x)).setCell ⟨w.heap.size + 1, 7, none⟩ (Or.inr HS.out) (.bool y)).trans hF7; clear hA6 hB6 hF7 HG6 hR6 g4 g5 g6 g7 f6; have g0 := hB7.g0; have g3 := hB7.g3; have f7 := hB7.f)
      | (go_at_call 33; (with_reducible refine (H6.out _ (hR7.setO _ 3 (.bool true) n1)).mono ?_); rintro e w8 ⟨rfl, hR8, hF8⟩; have hA8 := (hA7.setO _ 3 (.bool true) n4).fr hF8 n2; have hB8 := (hB7.s3 true).fr hF8 n3; have HG8 : Hid _ := HG7.out.one HS.out _ _ hF8; clear hA7 hB7 hF8 HG7 hR7 g0 g3 f7; have g1 := hB8.g1; have f8 := hB8.f)
      | (go_at_call 31; (with_reducible refine (H7.out _ (hR8.setO _ 1 (.string u) n1)).mono ?_); rintro e w9 ⟨rfl, hR9, hF9⟩; have hA9 := (hA8.setO _ 1 (.string u) n4).fr hF9 n2; have hB9 := (hB8.s1 u).fr hF9 n3; have HG9 : Hid _ := HG8.out.one HS.out _ _ hF9; clear hA8 hB8 hF9 HG8 hR8 g1 f8)
      | (go_at_call 32; (with_reducible refine (H8.out _ hR9).mono ?_); rintro e wa ⟨rfl, hRa, hFa⟩; have hAa := hA9.fr hFa n2; have hBa := hB9.fr hFa n3; have HGa : Hid _ := HG9.out.trans hFa; clear hA9 hB9 hFa HG9 hR9; have g8 := hBa.g8; have g9 := hBa.g9; have g10 := hBa.g10; have g11 := hBa.g11; have fa := hBa.f))
    have hRb := (((hRa.setO _ 8 (.int .i64 (r2 : Int)) n1).setO _ 9 (.int .i64 (c2 : Int)) n1).setO _ 10 (.bool x2) n1).setO _ 11 (.bool y2) n1
    have hGb := ((((HGa.out.setCell ⟨w.heap.size + 1, 8, none⟩ (Or.inr HS.out) (.int .i64 (r2 : Int))).setCell ⟨w.heap.size + 1, 9, none⟩ (Or.inr HS.out) (.int .i64 (c2 : Int))).setCell ⟨w.heap.size + 1, 10, none⟩ (Or.inr HS.out) (.bool x2)).setCell ⟨w.heap.size + 1, 11, none⟩ (Or.inr HS.out) (.bool y2))
    clear hRa hAa hBa HGa g8 g9 g10 g11 fa
    generalize World.setCell _ ⟨w.heap.size + 1, 11, none⟩ _ = Wb at *
    have hne := HNE.out
    have hFd := (Fr.refl noB Wb).drew
    have hRd := hRb.fr hFd id
    refine wp_region_held_drew (S := fun W => W.cell? ⟨rb, 0, none⟩ = some (.string s) ∧ W.cell? ⟨rb, 1, none⟩ = some (.int .i64 (z2 : Int))) (by kernel_rfl) ⟨hRd.c0, hRd.c1⟩ (fun hHeld => ?_)
    refine wpAnyH_take (i := 0) (v := .pointer (some ⟨rb, 0, none⟩)) rfl (by kernel_rfl) (by kernel_rfl) (by kernel_rfl) (fun _ _ _ h => h) (Or.inl ⟨by kernel_rfl, fun w hSw => by kernel_rfl⟩) hHeld ?_
    refine wpAnyH_take (i := 1) (v := .pointer (some ⟨rb, 0, none⟩)) rfl (by kernel_rfl) (by kernel_rfl) (by kernel_rfl) (fun _ _ _ h => h) (Or.inl ⟨by kernel_rfl, fun w hSw => by kernel_rfl⟩) hHeld ?_
    refine wpAnyH_take (i := 2) (v := .pointer (some ⟨rb, 1, none⟩)) rfl (by kernel_rfl) (by kernel_rfl) (by kernel_rfl) (fun _ _ _ h => h) (Or.inl ⟨by kernel_rfl, fun w hSw => by kernel_rfl⟩) hHeld ?_
    refine wpAnyH_take (i := 3) (v := .int .i64 (z2 : Int)) rfl (by kernel_rfl) (by kernel_rfl) (by kernel_rfl) (fun _ _ _ h => h) (y_loadOf 3 load_int (.tmp 43) rb 1 _ (by kernel_rfl) rfl (by kernel_rfl) (fun w h => h.2)) hHeld ?_
    refine wpAnyH_take (i := 4) (v := .pointer (some ⟨rb, 0, none⟩)) rfl (by kernel_rfl) (by kernel_rfl) (by kernel_rfl) (fun _ _ _ h => h) (Or.inl ⟨by kernel_rfl, fun w hSw => by kernel_rfl⟩) hHeld ?_
    refine wpAnyH_take (i := 5) (v := .pointer (some ⟨rb, 0, none⟩)) rfl (by kernel_rfl) (by kernel_rfl) (by kernel_rfl) (fun _ _ _ h => h) (Or.inl ⟨by kernel_rfl, fun w hSw => by kernel_rfl⟩) hHeld ?_
    refine wpAnyH_take (i := 6) (v := .pointer (some ⟨rb, 0, none⟩)) rfl (by kernel_rfl) (by kernel_rfl) (by kernel_rfl) (fun _ _ _ h => h) (Or.inl ⟨by kernel_rfl, fun w hSw => by kernel_rfl⟩) hHeld ?_
    refine wpAnyH_take (i := 7) (v := .string s) rfl (by kernel_rfl) (by kernel_rfl) (by kernel_rfl) (fun _ _ _ h => h) (y_loadOf 9 load_str (.tmp 47) rb 0 _ (by kernel_rfl) rfl (by kernel_rfl) (fun w h => h.1)) hHeld ?_
    refine wpAnyH_take (i := 8) (v := .int .i64 (s.size : Int)) rfl (by kernel_rfl) (by kernel_rfl) (by kernel_rfl) (fun _ _ _ h => h) (Or.inl ⟨by kernel_rfl, fun w hSw => by kernel_rfl⟩) hHeld ?_
    refine wpAnyH_take (i := 9) (v := .bool false) rfl (by kernel_rfl) (by kernel_rfl) (by kernel_rfl) (fun _ _ _ h => h) (y_neI (z2 : Int) (s.size : Int) hne (.tmp 44) (.tmp 49) (by kernel_rfl) rfl (by kernel_rfl) (by kernel_rfl)) hHeld ?_
    refine wpAnyH_take (i := 10) (v := .pointer (some ⟨rb, 0, none⟩)) rfl (by kernel_rfl) (by kernel_rfl) (by kernel_rfl) (fun _ _ _ h => h) (Or.inl ⟨by kernel_rfl, fun w hSw => by kernel_rfl⟩) hHeld ?_
    refine wpAnyH_take (i := 11) (v := .pointer (some ⟨rb, 0, none⟩)) rfl (by kernel_rfl) (by kernel_rfl) (by kernel_rfl) (fun _ _ _ h => h) (Or.inl ⟨by kernel_rfl, fun w hSw => by kernel_rfl⟩) hHeld ?_
    refine wpAnyH_take (i := 12) (v := .pointer (some ⟨rb, 1, none⟩)) rfl (by kernel_rfl) (by kernel_rfl) (by kernel_rfl) (fun _ _ _ h => h) (Or.inl ⟨by kernel_rfl, fun w hSw => by kernel_rfl⟩) hHeld ?_
    refine wpAnyH_take (i := 13) (v := .int .i64 (z2 : Int)) rfl (by kernel_rfl) (by kernel_rfl) (by kernel_rfl) (fun _ _ _ h => h) (y_loadOf 3 load_int (.tmp 53) rb 1 _ (by kernel_rfl) rfl (by kernel_rfl) (fun w h => h.2)) hHeld ?_
    refine wpAnyH_ready (rs := [14]) (by kernel_rfl) (by simp) ?_
    refine AllReadyH.cons rfl (fun K hK => ?_) AllReadyH.nil
    (with_reducible refine ite_yes ?_ ?_)
    · kernel_rfl
    (with_reducible refine wp_go 30 #[.bool false, .int .i64 (z2 : Int), .int .i64 110] ?_ ?_)
    · kernel_rfl
    refine (hold_no z2 110 _).mono ?_
    rintro e wz ⟨rfl, rfl⟩
    exact ⟨rfl, rfl, hGb.trans hFd.weak⟩
theorem ref_no (rb : Nat) (s : ByteArray) (w : World) (h : RdAt w rb s 0) (hE : ETab w) (hb1 : ¬ rb = 2) (hb2 : ¬ rb = 3) (hz : s.size ≤ 140737488355328) (a : Nat) (d : Int) (hR : rfA s = .error (a, d)) :
    Calls Tryd.prog 17 #[.pointer (some ⟨rb, 0, none⟩)] w fun e w' => e = thr a d ∧ Fr (oneB rb) w w' := by
  unfold rfA at hR
  split at hR
  · rename_i e hs
    cases hR
    exact ref_n1 rb s w h hE hb1 hb2 hz a d hs
  · rename_i t q hs
    split at hR
    · rename_i hbad
      cases hR
      exact ref_n2 rb s w h hE hb1 hb2 hz t _ hbad.1 hs hbad.2
    · rename_i hbad
      split at hR
      · rename_i e hp
        cases hR
        unfold ptA at hp
        split at hp
        · rename_i hi
          exact ref_n4 rb s w h hE hb1 hb2 hz t q _ rfl hs hbad a d hi hp
        · rename_i hi
          cases hp
          exact ref_n3 rb s w h hE hb1 hb2 hz t _ _ rfl hs hbad (by simpa using hi)
      · rename_i k z hp
        unfold ptA at hp
        split at hp
        · rename_i hi
          obtain ⟨r, c, x, y⟩ := k
          unfold tlA at hR
          split at hR
          · rename_i h58
            split at hR
            · rename_i e hto
              cases hR
              exact ref_n6 rb s w h hE hb1 hb2 hz t q _ rfl hs hbad r c z x y hi hp a d h58 hto
            · rename_i u q2 hto
              split at hR
              · rename_i e hp2
                cases hR
                unfold ptA at hp2
                split at hp2
                · rename_i hi2
                  exact ref_n8 rb s w h hE hb1 hb2 hz t q _ rfl hs hbad r c z x y hi hp u q2 h58 hto a d hi2 hp2
                · rename_i hi2
                  cases hp2
                  exact ref_n7 rb s w h hE hb1 hb2 hz t q _ rfl hs hbad r c z x y hi hp u _ h58 hto (by simpa using hi2)
              · rename_i m z2 hp2
                split at hR
                · cases hR
                · rename_i hend
                  cases hR
                  unfold ptA at hp2
                  split at hp2
                  · rename_i hi2
                    obtain ⟨r2, c2, x2, y2⟩ := m
                    exact ref_n9 rb s w h hE hb1 hb2 hz t q _ rfl hs hbad r c z x y hi hp u q2 h58 hto r2 c2 _ x2 y2 hi2 hp2 hend
                  · cases hp2
          · rename_i h58
            split at hR
            · cases hR
            · rename_i hend
              cases hR
              exact ref_n5 rb s w h hE hb1 hb2 hz t q _ rfl hs hbad r c _ x y hi hp (by simpa using h58) hend
        · cases hp
theorem parse_no (s : ByteArray) (a : Nat) (d : Int) (w : World) (hE : ETab w) (hz : s.size ≤ 140737488355328) (hR : rfA s = .error (a, d)) :
    Calls Tryd.prog 5 #[.string s] w fun e w' => e = .returned (.tuple #[(.agg #[.string ⟨#[]⟩, .string ⟨#[]⟩, .bool false, .bool false, .int .i64 0, .int .i64 0, .bool false, .bool false, .int .i64 0, .int .i64 0, .bool false, .bool false]), .int .i64 (a : Int), .int .i64 d]) ∧ Fr noB w w' := by
  have hg1 : 2 < w.heap.size := by obtain ⟨⟨_, _, e⟩, _⟩ := hE; exact lt_of_cell e
  have hg2 : 3 < w.heap.size := by obtain ⟨_, ⟨_, _, e⟩⟩ := hE; exact lt_of_cell e
  exact parse_no_of s a d w (fun W hW hF => ref_no _ s W hW (hE.fr hF id id) (by omega) (by omega) hz a d hR)
#print axioms parse_no
end Go.Proofs.YtiokbpknaldbaaaDoor
