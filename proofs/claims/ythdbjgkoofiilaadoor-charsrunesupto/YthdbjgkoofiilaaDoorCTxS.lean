/- Clone: the program's contract. -/
import Derived.Test.YthdbjgkoofiilaaDoorCTxM
import Derived.Test.YthdbjgkoofiilaaDoorCBld
namespace Go.Proofs.YthdbjgkoofiilaaDoor
open Go.RowKit Go.Shelf

theorem clone_any (s : ByteArray) (w : World) (hs : s.size ≤ 140737488355328) : Calls Tryd.prog 12 #[.string s] w fun e w' => e = .returned (.string s) ∧ Fr noB w w' := by
  have HI : Calls Tryd.prog 23 #[.string s] w fun e w' => e = .returned (.string s) ∧ Below w.heap.size w w' := Any.stringslite_Clone Tryd.lays316 s w (by omega)
  go_enter Tryd.func12, Tryd.ntmps12
  go_wp2_with (go_at_call 23; refine HI.mono ?_; rintro e w1 ⟨rfl, hF⟩)
  go_ret
  exact ⟨rfl, Fr.ofBelow hF⟩
end Go.Proofs.YthdbjgkoofiilaaDoor
