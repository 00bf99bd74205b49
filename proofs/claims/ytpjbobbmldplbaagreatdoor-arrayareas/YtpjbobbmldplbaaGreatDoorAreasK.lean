/- ArrayAreas: the row's closed facts, asked by themselves (together with the card's they pass the kernel's memory). -/
import Derived.Test.YtpjbobbmldplbaaGreatDoorRows
import Derived.Test.YtpjbobbmldplbaaGreatDoorChecked
import Derived.JoinedCond
import Derived.ProofKit
namespace Go.Proofs.YtpjbobbmldplbaaGreatDoor.arrayAreas

theorem closed : joinedFacts Tryz.pinned.checked.prog 3 Tryz.f3 (OpenSpec.ofChange Rows.arrayAreasSpec).bare Rows.arrayAreasRow = true := by kernel_rfl
#print axioms closed
end Go.Proofs.YtpjbobbmldplbaaGreatDoor.arrayAreas
