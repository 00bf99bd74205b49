/- The tables, as the card lays them. -/
import Derived.Test.YtlhikoomghbnjaaGreatDoorCards
import Derived.Test.YtlhikoomghbnjaaGreatDoorTie
import Derived.Test.YtlhikoomghbnjaaGreatDoorZName
import Derived.Test.YtlhikoomghbnjaaGreatDoorZOpn
import Derived.Deep.DeepHandedRow
import Derived.Lib.LaidTab
import Derived.Lib.LaidU8T
import Derived.SevenTiedAt
import Derived.JoinedCond
import Derived.ChangeMaps5
namespace Go.Proofs.YtlhikoomghbnjaaGreatDoor
open Go.ChangeShapes Go.WideShapes Go.ChangeAt Go.RowKit Go.Shelf

theorem u8T : U8Types Tryz.prog Tryz.laysValid_ren := { Tryz.laysValid with }
theorem u8X : U8Extra Tryz.prog Tryz.laysValid_ren where
  n3 := by kernel_rfl
  y3 := by kernel_rfl
  n4 := by kernel_rfl
  y4 := by kernel_rfl
  c5 := by kernel_rfl
  c119 := by kernel_rfl
  c138 := by kernel_rfl
theorem tabs_of {w : World} (h : laidMet Tryz.prog [("unicode/utf8.acceptRanges", Rows.laid_unicode_utf8_acceptRanges), ("gridiron/flate.toldOrder", Rows.laid_gridiron_flate_toldOrder), ("unicode/utf8.first", Rows.laid_unicode_utf8_first)] w) (hO : w.ShapedOpen Tryz.prog) : Tabs w :=
  ⟨utf8Tabs_of_readsT u8T u8X (Go.Lib.laidMet.reads h (n := "unicode/utf8.first") (d := Go.Lib.firstData) (by
      rw [show Go.Lib.firstData = Rows.laid_unicode_utf8_first by kernel_rfl]
      exact List.mem_cons_of_mem _ (List.mem_cons_of_mem _ List.mem_cons_self)))
    (Go.Lib.laidMet.reads h (n := "unicode/utf8.acceptRanges") (d := Go.Lib.acceptData) (by
      rw [show Go.Lib.acceptData = Rows.laid_unicode_utf8_acceptRanges by kernel_rfl]
      exact List.mem_cons_self)), Tryz.lays146.s1_3 w hO⟩
/-- A block with other cells. -/
def putCells (cs : Array Value) : Obj → Obj
  | .cells _ t frozen => .cells cs t frozen
  | o => o
/-- A world in which the tables read as they are laid. -/
noncomputable def laidWorld (os : Os) : World :=
  { World.holding Tryz.prog os ⟨#[], #[], []⟩ with
    heap := (((World.holding Tryz.prog os ⟨#[], #[], []⟩).heap.modify 0 (putCells ((List.range 256).map fun c => Value.int .u8 ((Lib.firstT c : Nat) : Int)).toArray)).modify 1 (putCells ((List.range 32).map fun c => Value.int .u8 (((if c % 2 = 0 then Lib.accLo (c / 2) else Lib.accHi (c / 2)) : Nat) : Int)).toArray)).modify 3 (putCells #[.int .i64 16, .int .i64 17, .int .i64 18, .int .i64 0, .int .i64 8, .int .i64 7, .int .i64 9, .int .i64 6, .int .i64 10, .int .i64 5, .int .i64 11, .int .i64 4, .int .i64 12, .int .i64 3, .int .i64 13, .int .i64 2, .int .i64 14, .int .i64 1, .int .i64 15]) }
#print axioms tabs_of
end Go.Proofs.YtlhikoomghbnjaaGreatDoor
