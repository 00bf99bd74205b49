/- The law's first question: live. -/
import Derived.Test.YtiokbpknaldbaaaDoorRPar
namespace Go.Proofs.YtiokbpknaldbaaaDoor
open Go.RowKit Go.Shelf

theorem rf_live : rfA ⟨#[83, 104, 101, 101, 116, 49, 46, 65, 49, 58, 83, 104, 101, 101, 116, 51, 46, 66, 50]⟩ = .ok ⟨⟨#[83, 104, 101, 101, 116, 49]⟩, ⟨#[83, 104, 101, 101, 116, 51]⟩, false, true, 0, 0, false, false, 1, 1, false, false⟩ := by kernel_rfl
theorem ltr_live : baL (ltrL 26) = ⟨#[65, 65]⟩ := by kernel_rfl
set_option maxRecDepth 100000 in
set_option maxHeartbeats 2000000 in
theorem live_true (w : World) : Calls Tryd.prog 7 #[] w fun e w' => e = .returned (.bool true) ∧ Fr noB w w' := by
  have H1 := column_any 26
  rw [if_pos (by decide), show (26 : Int).toNat = 26 from rfl, ltr_live] at H1
  have H2 := fun w => parse_ok ⟨#[83, 104, 101, 101, 116, 49, 46, 65, 49, 58, 83, 104, 101, 101, 116, 51, 46, 66, 50]⟩ _ w (by decide) rf_live
  simp only [refV] at H2
  go_enter Tryd.func7, Tryd.ntmps7
  go_wp2_with (first | (go_at_call 22; refine (H1 _).mono ?_; rintro e w1 ⟨rfl, rfl⟩) | (go_at_call 5; refine (H2 _).mono ?_; rintro e w2 ⟨rfl, hF2⟩))
  go_ret
  exact ⟨rfl, hF2.alloc _⟩
#print axioms live_true
end Go.Proofs.YtiokbpknaldbaaaDoor
