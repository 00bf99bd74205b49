/- The tables of utf8 and strconv; the document's Valid; Itoa. -/
import Derived.Test.YtklinhfcecfnfabDoorRLiv
namespace Go.Proofs.YtklinhfcecfnfabDoor
open Go.RowKit Go.Shelf

/-- The table of powers of ten. -/
structure UTab (w : World) : Prop where
  lt : 3 < w.heap.size
  t : Lib.TabIs Tryd.prog w "internal/strconv.uint64pow10" .u64 Lib.pow10Tab
theorem UTab.fr {w w' : World} (h : UTab w) (hF : Fr noB w w') : UTab w' := by
  refine ⟨Nat.lt_of_lt_of_le h.lt hF.size, ?_⟩
  have e := h.t
  unfold Lib.TabIs at e ⊢
  rw [← e]
  have hg : Tryd.prog.globalNamed "internal/strconv.uint64pow10" = some 3 := by kernel_rfl
  unfold World.var?
  rw [hg]
  simp only [Option.bind_some]
  rw [hF.block _ h.lt id]
#print axioms UTab.fr
end Go.Proofs.YtklinhfcecfnfabDoor
