/- What all contracts lean on. -/
import Derived.Test.YthgnhcdodfildaaDoorChecked
import Derived.Test.YthgnhcdodfildaaDoorK04
import Derived.WalkKit
import Derived.WalkSpells
import Derived.WalkLawsBesides
namespace Go.Proofs.YthgnhcdodfildaaDoor
open Go.RowKit

theorem ret_int {k : IntKind} {a b : Int} (h : a = b) : Ending.returned (.int k a) = .returned (.int k b) := by rw [h]
end Go.Proofs.YthgnhcdodfildaaDoor
/- The contracts of the functions that only reckon: bitOf, countable, wholeBytes, the two Reverse. -/
namespace Go.Proofs.YthgnhcdodfildaaDoor
open Go.RowKit

set_option maxHeartbeats 400000 in
theorem bitOf_any (v : Nat) (j : Int) (w : World) (h1 : v < 4294967296) (h0 : 0 ≤ j) (hk : j < 32) :
    Calls Tryd.prog 67 #[.int .u32 (v : Int), .int .i64 j] w fun e w' => e = .returned (.int .u32 (bitN v j.toNat : Int)) ∧ w' = w := by
  obtain ⟨k, rfl⟩ := Int.eq_ofNat_of_zero_le h0
  go_enter Tryd.func67, Tryd.ntmps67
  go_wp2
  go_ret
  exact ⟨ret_int (and_one v k h1), rfl⟩

set_option maxHeartbeats 400000 in
theorem countable_yes (n : Int) (w : World) (h : 0 ≤ n) (h2 : n ≤ 32) :
    Calls Tryd.prog 65 #[.int .i64 n] w fun e w' => e = .returned (.bool true) ∧ w' = w := by
  go_enter Tryd.func65, Tryd.ntmps65
  go_wp2
  go_ret
  simp

set_option maxHeartbeats 400000 in
theorem countable_no (n : Int) (w : World) (h : n < 0 ∨ 32 < n) :
    Calls Tryd.prog 65 #[.int .i64 n] w fun e w' => e = .returned (.bool false) ∧ w' = w := by
  by_cases h0 : 0 ≤ n
  · have h2 : ¬ n ≤ 32 := by omega
    clear h
    go_enter Tryd.func65, Tryd.ntmps65
    go_wp2
    go_ret
    simp
  · clear h
    have h0' : n < 0 := by omega
    go_enter Tryd.func65, Tryd.ntmps65
    go_wp2
    go_ret
    simp

set_option maxHeartbeats 400000 in
theorem reverse_no (v n : Int) (w : World) (h : n < 0 ∨ 32 < n) :
    Calls Tryd.prog 71 #[.int .u32 v, .int .i64 n] w fun e w' => e = .returned (.int .u32 0) ∧ w' = w := by
  go_enter Tryd.func71, Tryd.ntmps71
  go_wp2_with (go_at_call 65; refine (countable_no _ _ h).mono ?_; rintro e w' ⟨rfl, rfl⟩)
  go_ret
  exact ⟨rfl, rfl⟩

set_option maxHeartbeats 400000 in
theorem reverse_yes (v n : Nat) (w : World) (h1 : v < 4294967296) (h2 : n ≤ 32) :
    Calls Tryd.prog 71 #[.int .u32 (v : Int), .int .i64 (n : Int)] w fun e w' => e = .returned (.int .u32 (revN v n : Int)) ∧ w' = w := by
  go_enter Tryd.func71, Tryd.ntmps71
  go_wp2_with (go_at_call 65; refine (countable_yes _ _ (by omega) (by omega)).mono ?_; rintro e w' ⟨rfl, rfl⟩)
  go_loop [5, 11] (fun t i => ∃ k : Nat, k ≤ n ∧ i = .int .i64 (k : Int) ∧ t = .int .u32 ((ofB (fun j => v.testBit (n - 1 - j)) k : Nat) : Int)) (fun _ i => n - (intOf i).toNat)
  case atStart => exact ⟨0, Nat.zero_le _, rfl, rfl⟩
  case round =>
    obtain ⟨k, hk, rfl, rfl⟩ := hrel
    by_cases hlt : k < n
    · go_wp2_with (go_at_call 67; refine (bitOf_any _ _ _ h1 (by omega) (by omega)).mono ?_; rintro e w' ⟨rfl, rfl⟩)
      go_round
      case rel => exact ⟨k + 1, by omega, by go_num, congrArg (Value.int .u32) ((or_step' _ _ k (ofB_lt _ _) (bitN_le _ _) (by omega)).trans rfl)⟩
      case measure => simp [intOf]; omega
    · go_wp2_with fail
      go_ret
      have : k = n := by omega
      subst this
      exact ⟨rfl, rfl⟩

end Go.Proofs.YthgnhcdodfildaaDoor
