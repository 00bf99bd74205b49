/- ValueMakes: the law's walk. -/
import Derived.Test.YtaobnfjkggpdlaaGreatDoorVRec
namespace Go.Proofs.YtaobnfjkggpdlaaGreatDoor
open Go.RowKit Ieee Go.Shelf
attribute [local go_sem] run_store_float

theorem psame_self (k : Int) (n : Nat) (s : ByteArray) (y : Bool) (c : Int) (w : World) : Calls Tryz.prog 70 #[(.agg #[.int .i64 k, .float .f64 n, .string s, .bool y, .int .i64 c]), (.agg #[.int .i64 k, .float .f64 n, .string s, .bool y, .int .i64 c])] w fun e w' => e = .returned (.bool true) ∧ Fr noB w w' := by
  have h := psame_any k n s y c k n s y c w
  rw [smB_self] at h
  exact h
theorem rsame_self (k : Int) (n : Nat) (s : ByteArray) (y : Bool) (c : Int) (w : World) : Calls Tryz.prog 21 #[(.agg #[.int .i64 k, .float .f64 n, .string s, .bool y, .int .i64 c]), (.agg #[.int .i64 k, .float .f64 n, .string s, .bool y, .int .i64 c])] w fun e w' => e = .returned (.bool true) ∧ Fr noB w w' := by
  have h := rsame_any k n s y c k n s y c w
  rw [smB_self] at h
  exact h
end Go.Proofs.YtaobnfjkggpdlaaGreatDoor
