/- Fixed: the document's, out of what FormatFloat says with all places. -/
import Derived.Test.YtdplcmcbnkiifaaGreatDoorXFxP
namespace Go.Proofs.YtdplcmcbnkiifaaGreatDoor
open Go.RowKit Ieee Go.Shelf

theorem any_step (L : List UInt8) (k : Nat) (h : k < L.length) : (L.take (k + 1)).any (fun z => z != 48) = ((L.take k).any (fun z => z != 48) || (L[k] != 48)) := by
  rw [List.take_succ_eq_append_getElem h, List.any_append]
  simp
end Go.Proofs.YtdplcmcbnkiifaaGreatDoor
