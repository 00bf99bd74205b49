/- Parse, where all is well. -/
import Derived.Test.YtdmjbhbiehjelaaGreatDoorK30
import Derived.Defers
import Derived.Recover
namespace Go.Proofs.YtdmjbhbiehjelaaGreatDoor
open Go.RowKit Go.Shelf

/-- A reference as a value. -/
def refV (R : RefW) : Value := (.agg #[.string R.sheet, .string R.to, .bool R.fixed, .bool R.area, .int .i64 (R.ar : Int), .int .i64 (R.ac : Int), .bool R.aR, .bool R.aC, .int .i64 (R.br : Int), .int .i64 (R.bc : Int), .bool R.bR, .bool R.bC])
end Go.Proofs.YtdmjbhbiehjelaaGreatDoor
/- In the seat of lexis there is no law of refs: what stands here elsewhere is left out. -/
namespace Go.Proofs.YtdmjbhbiehjelaaGreatDoor
end Go.Proofs.YtdmjbhbiehjelaaGreatDoor
/- The tables of utf8 and strconv; the document's Valid; Itoa. -/
namespace Go.Proofs.YtdmjbhbiehjelaaGreatDoor
open Go.RowKit Go.Shelf

/-- The tables of utf8, as they are laid. -/
def Tabs (w : World) : Prop := Lib.Utf8Tabs (Tryz.laysLaysn197_ren.g 3) (Tryz.laysLaysn197_ren.g 4) w
theorem Tabs.keep {w w' : World} (h : Tabs w) (hF : Fr noB w w') : Tabs w' := by
  refine ⟨fun c hc => ?_, fun i hi => ⟨?_, ?_⟩⟩
  · have := h.1 c hc
    rw [← this]
    exact hF.cell (lt_of_cell this) id
  · have := (h.2 i hi).1
    rw [← this]
    exact hF.cell (lt_of_cell this) id
  · have := (h.2 i hi).2
    rw [← this]
    exact hF.cell (lt_of_cell this) id
/-- The table of powers of ten. -/
structure UTab_r (w : World) : Prop where
  lt : 9 < w.heap.size
  t : Lib.TabIs Tryz.prog w "internal/strconv.uint64pow10" .u64 Lib.pow10Tab
theorem UTab_r.fr {w w' : World} (h : UTab_r w) (hF : Fr noB w w') : UTab_r w' := by
  refine ⟨Nat.lt_of_lt_of_le h.lt hF.size, ?_⟩
  have e := h.t
  unfold Lib.TabIs at e ⊢
  rw [← e]
  have hg : Tryz.prog.globalNamed "internal/strconv.uint64pow10" = some 9 := by kernel_rfl
  unfold World.var?
  rw [hg]
  simp only [Option.bind_some]
  rw [hF.block _ h.lt id]
#print axioms UTab_r.fr
end Go.Proofs.YtdmjbhbiehjelaaGreatDoor
