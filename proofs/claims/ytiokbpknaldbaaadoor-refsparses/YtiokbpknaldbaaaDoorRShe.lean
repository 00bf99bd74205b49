/- Names, sheets, the last sheet that the reader reads. -/
import Derived.Test.YtiokbpknaldbaaaDoorRNee
namespace Go.Proofs.YtiokbpknaldbaaaDoor
open Go.RowKit Go.Shelf

theorem isAt_size {s : ByteArray} {c p : Nat} (h : isAt s c p = true) : p < s.size := by simp [isAt] at h; exact h.1
theorem nqu_stop (s : ByteArray) (p : Nat) (h : endK nquK s p < s.size) : isAt s 39 (endK nquK s p) = true := by
  have := endK_not nquK s p h
  unfold isAt
  rw [decide_eq_true h]
  simpa [nquK] using this
theorem nqu_none (s : ByteArray) (p : Nat) (h : ¬ endK nquK s p < s.size) : isAt s 39 (endK nquK s p) = false := by
  unfold isAt
  rw [decide_eq_false h]
  rfl
set_option maxRecDepth 100000 in
set_option maxHeartbeats 2000000 in
theorem name_plain (rb : Nat) (s : ByteArray) (p : Nat) (w : World) (h : RdAt w rb s p) (hp : p ≤ s.size) (hz : s.size ≤ 140737488355328) (hi : isAt s 39 p = false) :
    Calls Tryd.prog 43 #[.pointer (some ⟨rb, 0, none⟩)] w fun e w' => e = .returned (.string (s.extract p (endK wrdK s p))) ∧ RdAt w' rb s (endK wrdK s p) ∧ Fr (oneB rb) w w' := by
  have H1 := skip_any rb s 39 p (by decide) w h hp hz
  rw [hi, show past s 39 p = p by unfold past; rw [if_neg (by rw [hi]; simp)]] at H1
  have HR : Hid (∀ W, RdAt W rb s p → _) := fun W hW => run_wrd rb s p W hW hp hz
  clear h hi
  generalize s.extract p (endK wrdK s p) = t at *
  generalize endK wrdK s p = q at *
  go_enter Tryd.func43, Tryd.ntmps43
  go_wp2_with (first | (go_at_call 28; refine H1.mono ?_; rintro e w1 ⟨rfl, hR1, hF1⟩) | (go_at_call 49; refine (HR.out _ hR1).mono ?_; rintro e w2 ⟨rfl, hR2, hF2⟩))
  go_ret
  exact ⟨rfl, hR2, hF1.trans hF2⟩
set_option maxRecDepth 100000 in
set_option maxHeartbeats 2000000 in
theorem name_quo (rb : Nat) (s : ByteArray) (p : Nat) (w : World) (h : RdAt w rb s p) (hp : p ≤ s.size) (hz : s.size ≤ 140737488355328) (hi : isAt s 39 p = true) (hq : endK nquK s (p + 1) < s.size) :
    Calls Tryd.prog 43 #[.pointer (some ⟨rb, 0, none⟩)] w fun e w' => e = .returned (.string (s.extract (p + 1) (endK nquK s (p + 1)))) ∧ RdAt w' rb s (endK nquK s (p + 1) + 1) ∧ Fr (oneB rb) w w' := by
  have hlt := isAt_size hi
  have H1 := skip_any rb s 39 p (by decide) w h hp hz
  rw [hi, show past s 39 p = p + 1 by unfold past; rw [if_pos hi]] at H1
  have HR : Hid (∀ W, RdAt W rb s (p + 1) → _) := fun W hW => run_nqu rb s (p + 1) W hW (by omega) hz
  have HN : Hid (∀ W, RdAt W rb s (endK nquK s (p + 1)) → _) := fun W hW => need_ok rb s 39 (endK nquK s (p + 1)) (by decide) W hW (by omega) hz (nqu_stop s (p + 1) hq)
  clear h hi
  generalize s.extract (p + 1) (endK nquK s (p + 1)) = t at *
  generalize endK nquK s (p + 1) = q at *
  go_enter Tryd.func43, Tryd.ntmps43
  go_wp2_with (first | (go_at_call 28; refine H1.mono ?_; rintro e w1 ⟨rfl, hR1, hF1⟩) | (go_at_call 49; refine (HR.out _ hR1).mono ?_; rintro e w2 ⟨rfl, hR2, hF2⟩) | (go_at_call 31; refine (HN.out _ hR2).mono ?_; rintro e w3 ⟨rfl, hR3, hF3⟩))
  go_ret
  exact ⟨rfl, hR3, (hF1.trans hF2).trans hF3⟩
set_option maxRecDepth 100000 in
set_option maxHeartbeats 2000000 in
theorem name_open (rb : Nat) (s : ByteArray) (p : Nat) (w : World) (h : RdAt w rb s p) (hp : p ≤ s.size) (hz : s.size ≤ 140737488355328) (hi : isAt s 39 p = true) (hq : ¬ endK nquK s (p + 1) < s.size) :
    Calls Tryd.prog 43 #[.pointer (some ⟨rb, 0, none⟩)] w fun e w' => e = thr s.size 110 ∧ Fr (oneB rb) w w' := by
  have hlt := isAt_size hi
  have hle := endK_le nquK s (p + 1) (by omega)
  have he : endK nquK s (p + 1) = s.size := by omega
  have H1 := skip_any rb s 39 p (by decide) w h hp hz
  rw [hi, show past s 39 p = p + 1 by unfold past; rw [if_pos hi]] at H1
  have HR : Hid (∀ W, RdAt W rb s (p + 1) → Calls Tryd.prog 49 #[.pointer (some ⟨rb, 0, none⟩), .func (.func 51) #[] #[]] W fun e w' => e = .returned (.string (s.extract (p + 1) (endK nquK s (p + 1)))) ∧ RdAt w' rb s s.size ∧ Fr (oneB rb) W w') := fun W hW => by
    have := run_nqu rb s (p + 1) W hW (by omega) hz
    rw [he] at this ⊢
    exact this
  have hno : isAt s 39 s.size = false := by rw [← he]; exact nqu_none s (p + 1) hq
  have HN : Hid (∀ W, RdAt W rb s s.size → _) := fun W hW => need_no rb s 39 s.size (by decide) W hW (Nat.le_refl _) hz hno
  clear h hi he hno hq hle
  generalize s.extract (p + 1) (endK nquK s (p + 1)) = t at *
  generalize s.size = z at *
  go_enter Tryd.func43, Tryd.ntmps43
  go_wp2_with (first | (go_at_call 28; refine H1.mono ?_; rintro e w1 ⟨rfl, hR1, hF1⟩) | (go_at_call 49; refine (HR.out _ hR1).mono ?_; rintro e w2 ⟨rfl, hR2, hF2⟩) | (go_at_call 31; refine (HN.out _ hR2).mono ?_; rintro e w3 ⟨rfl, hF3⟩; exact ⟨rfl, rfl, (hF1.trans hF2).trans hF3⟩))
#print axioms name_plain
#print axioms name_quo
#print axioms name_open
end Go.Proofs.YtiokbpknaldbaaaDoor
