/- ArrayMakes: the row's closed facts, asked by themselves (together with the card's they pass the kernel's memory). -/
import Derived.Test.YtaobnfjkggpdlaaGreatDoorRows
import Derived.Test.YtaobnfjkggpdlaaGreatDoorChecked
import Derived.JoinedCond
import Derived.ProofKit
namespace Go.Proofs.YtaobnfjkggpdlaaGreatDoor.arrayMakes

theorem closed : joinedFacts Tryz.pinned.checked.prog 3 Tryz.f3 (OpenSpec.ofChange Rows.arrayMakesSpec).bare Rows.arrayMakesRow = true := by kernel_rfl
#print axioms closed
end Go.Proofs.YtaobnfjkggpdlaaGreatDoor.arrayMakes
