/- ArrayCuts: the row's closed facts, asked by themselves (together with the card's they pass the kernel's memory). -/
import Derived.Test.YtpjbobbmldplbaaGreatDoorRows
import Derived.Test.YtpjbobbmldplbaaGreatDoorChecked
import Derived.JoinedCond
import Derived.ProofKit
namespace Go.Proofs.YtpjbobbmldplbaaGreatDoor.arrayCuts

theorem closed : joinedFacts Tryz.pinned.checked.prog 4 Tryz.f4 (OpenSpec.ofChange Rows.arrayCutsSpec).bare Rows.arrayCutsRow = true := by kernel_rfl
#print axioms closed
end Go.Proofs.YtpjbobbmldplbaaGreatDoor.arrayCuts
