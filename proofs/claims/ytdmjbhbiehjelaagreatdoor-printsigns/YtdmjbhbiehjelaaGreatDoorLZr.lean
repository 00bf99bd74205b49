/- The document's zero: has a token nothing but what its kind has? -/
import Derived.Test.YtdmjbhbiehjelaaGreatDoorK17
import Derived.Deep.Cut
namespace Go.Proofs.YtdmjbhbiehjelaaGreatDoor
open Go.RowKit

theorem eqf0 (x : Nat) (W : World) : (binOp .eql 22 (.float .f64 x) (.float .f64 0)).run Tryz.prog W = .ok (.bool (Op.floatEq .f64 x 0)) W := by kernel_rfl
end Go.Proofs.YtdmjbhbiehjelaaGreatDoor
