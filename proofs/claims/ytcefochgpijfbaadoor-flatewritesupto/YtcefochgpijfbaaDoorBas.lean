/- What all contracts lean on. -/
import Derived.Test.YtcefochgpijfbaaDoorChecked
import Derived.Test.YtcefochgpijfbaaDoorMath
import Derived.WalkKit
import Derived.WalkSpells
import Derived.WalkLawsBesides
namespace Go.Proofs.YtcefochgpijfbaaDoor
open Go.RowKit

theorem ret_int {k : IntKind} {a b : Int} (h : a = b) : Ending.returned (.int k a) = .returned (.int k b) := by rw [h]
end Go.Proofs.YtcefochgpijfbaaDoor
