/- The calendar: the program's contracts. -/
import Derived.Test.YtpjbobbmldplbaaGreatDoorProg
import Derived.Test.YtpjbobbmldplbaaGreatDoorK01
import Derived.Test.YtpjbobbmldplbaaGreatDoorK02
import Derived.WalkKit
import Derived.WalkSpells
import Derived.WalkLawsBesides
import Derived.Laws.BitsAllLaws
import Derived.Laws.Rows
import Derived.Deep.LoopGhost
import Derived.Deep.RegionHeld3
import Derived.Deep.DeepCutAuto
namespace Go.Proofs.YtpjbobbmldplbaaGreatDoor
open Go.RowKit

theorem ret_int {k : IntKind} {a b : Int} (h : a = b) : Ending.returned (.int k a) = .returned (.int k b) := by rw [h]
theorem ret_bool {a b : Bool} (h : a = b) : Ending.returned (.bool a) = .returned (.bool b) := by rw [h]
/-- An integer value's number. -/
def intOf : Value → Int
  | .int _ n => n
  | _ => 0
end Go.Proofs.YtpjbobbmldplbaaGreatDoor
