/- The contract of gridironlaw01.live: it answers true. -/
import Derived.Test.YtokgolmioonbfaaRd2
namespace Go.Proofs.Ytokgolmioonbfaa
open Go.RowKit

theorem rev_one_three : revN 1 3 = 4 := by decide
theorem num_five : numAt [5, 1] 0 3 = 5 := by decide

set_option maxHeartbeats 800000 in
theorem live_any (w : World) :
    Calls Try.prog 10 #[] w fun e w' => e = .returned (.bool true) ∧ Fr noB w w' := by
  have hbs : Bs (w.alloc (.cells #[.int .u8 5, .int .u8 1] 5 (0, 0))) (.slice (some ⟨w.heap.size, 0, none⟩) 2 2) [5, 1] := by
    refine ⟨_, 2, rfl, Nat.le_refl _, by unfold maxLen; omega, by simp, Or.inr ⟨w.heap.size, 0, rfl, by simp, fun i hi => ?_⟩⟩
    have hh := heap_alloc_new w (.cells #[.int .u8 5, .int .u8 1] 5 (0, 0))
    match i, hi with
    | 0, _ => exact cellOf hh rfl
    | 1, _ => exact cellOf hh rfl
  have hB : ∀ x ∈ ([5, 1] : List Nat), x < 256 := by simp
  go_enter Try.func10, Try.ntmps10
  go_wp2_with fail
  refine (newReader_any _ _ _ hbs (by simp)).mono ?_
  rintro e w1 ⟨rb, g, rfl, h1, _, _, hR, hr, hF⟩
  go_wp2_with fail
  refine (bits_good rb g 0 3 [5, 1] w1 hR hr hB (by simp) (by omega) (by simp)).mono ?_
  rintro e w2 ⟨rfl, hR2, hF2⟩
  rw [num_five]
  go_wp2_with fail
  refine (left_any rb g 2 3 w2 hR2 (by omega) (by omega)).mono ?_
  rintro e w3 ⟨rfl, m, rfl⟩
  go_wp2_with fail
  refine (reverse_yes 1 3 _ (by omega) (by omega)).mono ?_
  rintro e w4 ⟨rfl, rfl⟩
  rw [rev_one_three]
  go_wp2
  go_ret
  refine ⟨rfl, (Fr.drewN (Fr.then (Fr.then ((Fr.refl noB w).alloc _) hF (fun i hi => hi.elim)) hF2 (fun i hi => Or.inr ?_)) m)⟩
  rw [show i = rb from hi]
  simp at h1
  omega
end Go.Proofs.Ytokgolmioonbfaa
