/- The law's first question: live. -/
import Derived.Test.YthdbjgkoofiilaaDoorCUne
namespace Go.Proofs.YthdbjgkoofiilaaDoor
open Go.RowKit Go.Shelf

theorem un_live : unF ⟨#[38, 35, 120, 52, 49, 59, 38, 97, 109, 112, 59]⟩ = ([65, 38], 0, 0) := by decide +kernel
theorem runs_ab : (runs ⟨#[97, 98]⟩ 0).length = 2 := by decide +kernel
theorem name_a1 : nameF ⟨#[97, 45, 49]⟩ = true := by decide +kernel
set_option maxRecDepth 100000 in
set_option maxHeartbeats 1000000 in
theorem live_true (w : World) : Calls Tryd.prog 4 #[] w fun e w' => e = .returned (.bool true) ∧ Fr noB w w' := by
  have HU := fun w => unescape_any ⟨#[38, 35, 120, 52, 49, 59, 38, 97, 109, 112, 59]⟩ w (by decide)
  rw [un_live] at HU
  have HC := fun w => count_any ⟨#[97, 98]⟩ w (by decide)
  rw [runs_ab] at HC
  have HN := name_any ⟨#[97, 45, 49]⟩
  rw [name_a1] at HN
  go_enter Tryd.func4, Tryd.ntmps4
  go_wp2_with (first | (go_at_call 8; refine (HU _).mono ?_; rintro e w1 ⟨rfl, hF1⟩) | (go_at_call 9; refine (HC _).mono ?_; rintro e w2 ⟨rfl, hF2⟩) | (go_at_call 10; refine (HN _).mono ?_; rintro e w3 ⟨rfl, hF3⟩))
  go_ret
  exact ⟨rfl, (hF1.trans hF2).trans hF3⟩
#print axioms live_true
end Go.Proofs.YthdbjgkoofiilaaDoor
