/- Clone: the program's contract. -/
import Derived.Test.YtpjbobbmldplbaaGreatDoorK01
import Derived.Test.YtpjbobbmldplbaaGreatDoorShelf2
namespace Go.Proofs.YtpjbobbmldplbaaGreatDoor
open Go.RowKit Go.Shelf

theorem clone_any (s : ByteArray) (w : World) (hs : s.size ≤ 140737488355328) : Calls Tryz.prog 43 #[.string s] w fun e w' => e = .returned (.string s) ∧ Fr noB w w' := by
  have HI : Calls Tryz.prog 48 #[.string s] w fun e w' => e = .returned (.string s) ∧ Below w.heap.size w w' := Any.stringslite_Clone Tryz.laysLaysMn316 s w (by omega)
  go_enter Tryz.func43, Tryz.ntmps43
  go_wp2_with (go_at_call 48; refine HI.mono ?_; rintro e w1 ⟨rfl, hF⟩)
  go_ret
  exact ⟨rfl, Fr.ofBelow hF⟩
#print axioms clone_any
end Go.Proofs.YtpjbobbmldplbaaGreatDoor
