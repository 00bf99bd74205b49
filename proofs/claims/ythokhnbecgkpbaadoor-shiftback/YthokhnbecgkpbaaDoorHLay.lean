/- The tables of utf8, as the card lays them. -/
import Derived.Test.YthokhnbecgkpbaaDoorCards
import Derived.Test.YthokhnbecgkpbaaDoorTie
import Derived.Test.YthokhnbecgkpbaaDoorRTab
import Derived.Deep.DeepHandedRow
import Derived.Lib.LaidTab
import Derived.Lib.LaidU8T
import Derived.SevenTiedAt
import Derived.JoinedCond
import Derived.ProofKit
import Derived.OpenShut
import Derived.SizedLaws
import Derived.ChangeOld
import Derived.ChangeMaps5
namespace Go.Proofs.YthokhnbecgkpbaaDoor
open Go.ChangeShapes Go.WideShapes Go.ChangeAt Go.RowKit Go.Shelf

theorem own : ownKnob Tryd.prog.godebug = none := by kernel_rfl
theorem laidOut : laidOutB Tryd.prog = true := by kernel_rfl
theorem u8T : U8Types Tryd.prog Tryd.laysLaysn197_ren := { Tryd.laysLaysn197 with }
theorem u8X : U8Extra Tryd.prog Tryd.laysLaysn197_ren where
  n3 := by kernel_rfl
  y3 := by kernel_rfl
  n4 := by kernel_rfl
  y4 := by kernel_rfl
  c5 := by kernel_rfl
  c119 := by kernel_rfl
  c138 := by kernel_rfl
theorem tabs_of {w : World} (h : laidMet Tryd.prog [("unicode/utf8.acceptRanges", Rows.laid_unicode_utf8_acceptRanges), ("unicode/utf8.first", Rows.laid_unicode_utf8_first)] w) : Tabs w :=
  utf8Tabs_of_readsT u8T u8X (Go.Lib.laidMet.reads h (n := "unicode/utf8.first") (d := Go.Lib.firstData) (by
      rw [show Go.Lib.firstData = Rows.laid_unicode_utf8_first by kernel_rfl]
      exact List.mem_cons_of_mem _ List.mem_cons_self))
    (Go.Lib.laidMet.reads h (n := "unicode/utf8.acceptRanges") (d := Go.Lib.acceptData) (by
      rw [show Go.Lib.acceptData = Rows.laid_unicode_utf8_acceptRanges by kernel_rfl]
      exact List.mem_cons_self))
/-- A block with other cells. -/
def putCells (cs : Array Value) : Obj → Obj
  | .cells _ t frozen => .cells cs t frozen
  | o => o
/-- A world in which the two tables read as they are laid. -/
noncomputable def laidWorld (os : Os) : World :=
  { World.holding Tryd.prog os ⟨#[], #[], []⟩ with
    heap := ((World.holding Tryd.prog os ⟨#[], #[], []⟩).heap.modify 0 (putCells ((List.range 256).map fun c => Value.int .u8 ((Lib.firstT c : Nat) : Int)).toArray)).modify 1 (putCells ((List.range 32).map fun c => Value.int .u8 (((if c % 2 = 0 then Lib.accLo (c / 2) else Lib.accHi (c / 2)) : Nat) : Int)).toArray) }
#print axioms tabs_of
end Go.Proofs.YthokhnbecgkpbaaDoor
