/- ZipSums: the law's walk. -/
import Derived.Test.YtlhikoomghbnjaaGreatDoorZBeg
namespace Go.Proofs.YtlhikoomghbnjaaGreatDoor
open Go.RowKit
attribute [local go_sem ↓] Go.wp_at_zero Go.wp_at_succ

set_option maxRecDepth 100000 in
set_option maxHeartbeats 1000000 in
theorem sums_walk (v : Value) (B : List Nat) (w : World) (hv : Bs w v B) (hB : ∀ x ∈ B, x < 256) (hT : Tabs w) : Calls Tryz.prog 3 #[v] w fun e w' => e = .returned (.bool true) ∧ Below w.heap.size w w' := by
  have H0 := begun_true w hT
  have H1 : Hid (∀ w', Fr noB w w' → Calls Tryz.prog 6 #[v] w' fun e w'' => e = .returned (.int .u32 ((crc B : Nat) : Int)) ∧ Fr noB w' w'') := fun w' hF => sum_any v B w' (hv.fr hF (fun _ _ _ _ _ _ _ h => h)) hB
  have H2 : Hid (∀ w', Fr noB w w' → Calls Tryz.prog 7 #[v] w' fun e w'' => e = .returned (.int .u32 ((crc B : Nat) : Int)) ∧ ∃ m, w'' = w'.drewN m) := fun w' hF => rsum_any v B w' (hv.fr hF (fun _ _ _ _ _ _ _ h => h)) hB
  obtain ⟨ao, cap, rfl, -⟩ := hv
  clear hT hB
  generalize crc B = c at *
  go_enter Tryz.func3, Tryz.ntmps3
  go_wp2_with (first
    | (go_at_call 5; refine H0.mono ?_; rintro e w1 ⟨rfl, hF1⟩)
    | (go_at_call 6; refine (H1.out _ hF1).mono ?_; rintro e w2 ⟨rfl, hF2⟩; have hG2 := hF1.trans hF2)
    | (go_at_call 7; refine (H2.out _ hG2).mono ?_; rintro e w3 ⟨rfl, m, rfl⟩))
  go_ret
  exact ⟨rfl, (hG2.drewN m).below (Nat.le_refl _) (fun _ h => h.elim)⟩
#print axioms sums_walk
end Go.Proofs.YtlhikoomghbnjaaGreatDoor
