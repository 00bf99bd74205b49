/- The ends of a reference, ahead, Has, bare: the program's contracts. -/
import Derived.Test.YthokhnbecgkpbaaDoorRLiv
namespace Go.Proofs.YthokhnbecgkpbaaDoor
open Go.RowKit Go.Shelf

/-- A reference's other corner, of whatever kind it is. -/
def othr (ar : Bool) (a b : Int) : Int := if ar = true then b else a
def loI (ar : Bool) (a b : Int) : Int := min a (othr ar a b)
def hiI (ar : Bool) (a b : Int) : Int := max a (othr ar a b)
theorem alloc_last (w : World) (o : Obj) (k : Nat) (h : k = w.heap.size) : (w.alloc o).heap[k]? = some o := by subst h; exact heap_alloc_new w o
theorem alloc_old {w : World} {o x : Obj} {k : Nat} (h : w.heap[k]? = some x) : (w.alloc o).heap[k]? = some x := (Below.heap_alloc _ _ _ (lt_of_block h)).trans h
end Go.Proofs.YthokhnbecgkpbaaDoor
