/- ValueErrors: the law's walk. -/
import Derived.Test.YtjdgpnhinjahjaaGreatDoorVErr
namespace Go.Proofs.YtjdgpnhinjahjaaGreatDoor
open Go.RowKit Ieee Go.Shelf
attribute [local go_sem] run_store_float

theorem back_has (c : Int) (h : 1 ≤ c ∧ c ≤ 9) : peL errL 1 (eT c) = (c, true) := by
  have e : c = 1 ∨ c = 2 ∨ c = 3 ∨ c = 4 ∨ c = 5 ∨ c = 6 ∨ c = 7 ∨ c = 8 ∨ c = 9 := by omega
  rcases e with rfl | rfl | rfl | rfl | rfl | rfl | rfl | rfl | rfl <;> decide +kernel
theorem back_not (c : Int) (h : ¬ (1 ≤ c ∧ c ≤ 9)) : peL errL 1 (eT c) = (0, false) := by
  unfold eT
  rw [if_neg h]
  decide +kernel
set_option maxRecDepth 100000 in
set_option maxHeartbeats 2000000 in
theorem errors_walk (c : Int) (s : ByteArray) (w : World) (hT : VTabs w) :
    Calls Tryz.prog 4 #[.int .i64 c, .string s] w fun e w' => e = .returned (.bool true) ∧ Below w.heap.size w w' := by
  have H1 := parseErr_any s w hT.e
  have H2 := rparseErr_any s w
  have H3 : Hid (∀ W, Fr noB w W → Calls Tryz.prog 23 #[.int .i64 c] W fun e w' => e = .returned (.string (eT c)) ∧ w' = W) := fun W hW => errText_any c W (hT.fr hW).e
  have H4 : Hid (∀ W, Fr noB w W → Calls Tryz.prog 21 #[.string (eT c)] W fun e w' => e = .returned (.tuple #[.int .i64 (peL errL 1 (eT c)).1, .bool (peL errL 1 (eT c)).2]) ∧ w' = W) := fun W hW => parseErr_any (eT c) W (hT.fr hW).e
  have H5 : Hid (∀ W, Fr noB w W → Calls Tryz.prog 8 #[] W fun e w' => e = .returned (.bool true) ∧ Fr noB W w') := fun W hW => begun_true W (hT.fr hW)
  have H6 := rerrText_any c
  have hs : ((eT c).toList == (eT c).toList) = true := by simp
  by_cases h : 1 ≤ c ∧ c ≤ 9
  · rw [back_has c h] at H4
    generalize peL errL 1 s = A at *
    generalize eT c = t at *
    obtain ⟨h1, h2⟩ := h
    have hA : (A.1 == A.1) = true := by simp
    have hA2 : (A.2 == A.2) = true := by simp
    clear hT
    go_enter Tryz.func4, Tryz.ntmps4
    go_wp2_with (first
      | (go_at_call_of 21 (Value.string s); refine H1.mono ?_; rintro e w1 ⟨rfl, rfl⟩)
      | (go_at_call 22; refine H2.mono ?_; rintro e w2 ⟨rfl, hF2⟩)
      | (go_at_call 23; refine (H3.out _ (by first | exact hF2 | exact hF2.trans hF5)).mono ?_; rintro e w3 ⟨rfl, rfl⟩)
      | (go_at_call_of 21 (Value.string t); refine (H4.out _ (by first | exact hF2)).mono ?_; rintro e w4 ⟨rfl, rfl⟩)
      | (go_at_call 8; refine (H5.out _ hF2).mono ?_; rintro e w5 ⟨rfl, hF5⟩)
      | (go_at_call 24; refine (H6 _).mono ?_; rintro e w6 ⟨rfl, hF6⟩))
    go_ret
    exact ⟨rfl, ((hF2.trans hF5).trans hF6).below (Nat.le_refl _) (fun _ h => h.elim)⟩
  · rw [back_not c h] at H4
    generalize peL errL 1 s = A at *
    generalize eT c = t at *
    have hA : (A.1 == A.1) = true := by simp
    have hA2 : (A.2 == A.2) = true := by simp
    by_cases h1 : 1 ≤ c
    · have h2 : 9 < c := by omega
      clear h
      clear hT
      go_enter Tryz.func4, Tryz.ntmps4
      go_wp2_with (first
        | (go_at_call_of 21 (Value.string s); refine H1.mono ?_; rintro e w1 ⟨rfl, rfl⟩)
        | (go_at_call 22; refine H2.mono ?_; rintro e w2 ⟨rfl, hF2⟩)
        | (go_at_call 23; refine (H3.out _ (by first | exact hF2 | exact hF2.trans hF5)).mono ?_; rintro e w3 ⟨rfl, rfl⟩)
        | (go_at_call_of 21 (Value.string t); refine (H4.out _ (by first | exact hF2)).mono ?_; rintro e w4 ⟨rfl, rfl⟩)
        | (go_at_call 8; refine (H5.out _ hF2).mono ?_; rintro e w5 ⟨rfl, hF5⟩)
        | (go_at_call 24; refine (H6 _).mono ?_; rintro e w6 ⟨rfl, hF6⟩))
      go_ret
      exact ⟨rfl, ((hF2.trans hF5).trans hF6).below (Nat.le_refl _) (fun _ h => h.elim)⟩
    · clear h
      clear hT
      go_enter Tryz.func4, Tryz.ntmps4
      go_wp2_with (first
        | (go_at_call_of 21 (Value.string s); refine H1.mono ?_; rintro e w1 ⟨rfl, rfl⟩)
        | (go_at_call 22; refine H2.mono ?_; rintro e w2 ⟨rfl, hF2⟩)
        | (go_at_call 23; refine (H3.out _ (by first | exact hF2 | exact hF2.trans hF5)).mono ?_; rintro e w3 ⟨rfl, rfl⟩)
        | (go_at_call_of 21 (Value.string t); refine (H4.out _ (by first | exact hF2)).mono ?_; rintro e w4 ⟨rfl, rfl⟩)
        | (go_at_call 8; refine (H5.out _ hF2).mono ?_; rintro e w5 ⟨rfl, hF5⟩)
        | (go_at_call 24; refine (H6 _).mono ?_; rintro e w6 ⟨rfl, hF6⟩))
      go_ret
      exact ⟨rfl, ((hF2.trans hF5).trans hF6).below (Nat.le_refl _) (fun _ h => h.elim)⟩
#print axioms errors_walk
end Go.Proofs.YtjdgpnhinjahjaaGreatDoor
