/- The tables of utf8 and strconv; the document's Valid; Itoa. -/
import Derived.Test.YtiokbpknaldbaaaDoorRLiv
namespace Go.Proofs.YtiokbpknaldbaaaDoor
open Go.RowKit Go.Shelf

/-- The tables of utf8, as they are laid. -/
def Tabs (w : World) : Prop := Lib.Utf8Tabs (Tryd.laysLaysn197_ren.g 3) (Tryd.laysLaysn197_ren.g 4) w
theorem Tabs.keep {w w' : World} (h : Tabs w) (hF : Fr noB w w') : Tabs w' := by
  refine ⟨fun c hc => ?_, fun i hi => ⟨?_, ?_⟩⟩
  · have := h.1 c hc
    rw [← this]
    exact hF.cell (lt_of_cell this) id
  · have := (h.2 i hi).1
    rw [← this]
    exact hF.cell (lt_of_cell this) id
  · have := (h.2 i hi).2
    rw [← this]
    exact hF.cell (lt_of_cell this) id
/-- The table of powers of ten. -/
structure UTab (w : World) : Prop where
  lt : 5 < w.heap.size
  t : Lib.TabIs Tryd.prog w "internal/strconv.uint64pow10" .u64 Lib.pow10Tab
theorem UTab.fr {w w' : World} (h : UTab w) (hF : Fr noB w w') : UTab w' := by
  refine ⟨Nat.lt_of_lt_of_le h.lt hF.size, ?_⟩
  have e := h.t
  unfold Lib.TabIs at e ⊢
  rw [← e]
  have hg : Tryd.prog.globalNamed "internal/strconv.uint64pow10" = some 5 := by kernel_rfl
  unfold World.var?
  rw [hg]
  simp only [Option.bind_some]
  rw [hF.block _ h.lt id]
#print axioms UTab.fr
end Go.Proofs.YtiokbpknaldbaaaDoor
