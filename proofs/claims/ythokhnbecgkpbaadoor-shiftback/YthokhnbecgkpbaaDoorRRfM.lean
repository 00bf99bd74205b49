/- A reference in memory; the reader reads a whole reference. -/
import Derived.Test.YthokhnbecgkpbaaDoorRCor
namespace Go.Proofs.YthokhnbecgkpbaaDoor
open Go.RowKit Go.Shelf

/-- A reference's cells in a block. -/
structure RAt (w : World) (B : Nat) (t u : ByteArray) (fx ar : Bool) (r1 c1 : Int) (x1 y1 : Bool) (r2 c2 : Int) (x2 y2 : Bool) : Prop where
  o : w.heap[B]? = some (.cells #[.string t, .string u, .bool fx, .bool ar, .int .i64 r1, .int .i64 c1, .bool x1, .bool y1, .int .i64 r2, .int .i64 c2, .bool x2, .bool y2] 46 (0, 0))
theorem RAt.fr {S : Nat → Prop} {w w' : World} {B : Nat} {t u : ByteArray} {fx ar : Bool} {r1 c1 : Int} {x1 y1 : Bool} {r2 c2 : Int} {x2 y2 : Bool} (h : RAt w B t u fx ar r1 c1 x1 y1 r2 c2 x2 y2) (hF : Fr S w w') (hB : ¬ S B) : RAt w' B t u fx ar r1 c1 x1 y1 r2 c2 x2 y2 := ⟨hF.obj h.o hB⟩
theorem RAt.setO {w : World} {B : Nat} {t u : ByteArray} {fx ar : Bool} {r1 c1 : Int} {x1 y1 : Bool} {r2 c2 : Int} {x2 y2 : Bool} (h : RAt w B t u fx ar r1 c1 x1 y1 r2 c2 x2 y2) (b o : Nat) (v : Value) (hb : B ≠ b) : RAt (w.setCell ⟨b, o, none⟩ v) B t u fx ar r1 c1 x1 y1 r2 c2 x2 y2 := ⟨(Below.heap_setCell _ _ _ _ hb).trans h.o⟩
section
variable {w : World} {B : Nat} {t u : ByteArray} {fx ar : Bool} {r1 c1 : Int} {x1 y1 : Bool} {r2 c2 : Int} {x2 y2 : Bool} (h : RAt w B t u fx ar r1 c1 x1 y1 r2 c2 x2 y2)
include h
theorem RAt.g0 : w.cell? ⟨B, 0, none⟩ = some (.string t) := cellOf (o := 0) h.o rfl
theorem RAt.g1 : w.cell? ⟨B, 1, none⟩ = some (.string u) := cellOf (o := 1) h.o rfl
theorem RAt.g2 : w.cell? ⟨B, 2, none⟩ = some (.bool fx) := cellOf (o := 2) h.o rfl
theorem RAt.g3 : w.cell? ⟨B, 3, none⟩ = some (.bool ar) := cellOf (o := 3) h.o rfl
theorem RAt.g4 : w.cell? ⟨B, 4, none⟩ = some (.int .i64 r1) := cellOf (o := 4) h.o rfl
theorem RAt.g5 : w.cell? ⟨B, 5, none⟩ = some (.int .i64 c1) := cellOf (o := 5) h.o rfl
theorem RAt.g6 : w.cell? ⟨B, 6, none⟩ = some (.bool x1) := cellOf (o := 6) h.o rfl
theorem RAt.g7 : w.cell? ⟨B, 7, none⟩ = some (.bool y1) := cellOf (o := 7) h.o rfl
theorem RAt.g8 : w.cell? ⟨B, 8, none⟩ = some (.int .i64 r2) := cellOf (o := 8) h.o rfl
theorem RAt.g9 : w.cell? ⟨B, 9, none⟩ = some (.int .i64 c2) := cellOf (o := 9) h.o rfl
theorem RAt.g10 : w.cell? ⟨B, 10, none⟩ = some (.bool x2) := cellOf (o := 10) h.o rfl
theorem RAt.g11 : w.cell? ⟨B, 11, none⟩ = some (.bool y2) := cellOf (o := 11) h.o rfl
theorem RAt.f : ∀ o, w.frozen? ⟨B, o, none⟩ = false := fun o => freeOf o h.o
theorem RAt.s0 (v : ByteArray) : RAt (w.setCell ⟨B, 0, none⟩ (.string v)) B v u fx ar r1 c1 x1 y1 r2 c2 x2 y2 := ⟨setOf 0 _ h.o⟩
theorem RAt.s1 (v : ByteArray) : RAt (w.setCell ⟨B, 1, none⟩ (.string v)) B t v fx ar r1 c1 x1 y1 r2 c2 x2 y2 := ⟨setOf 1 _ h.o⟩
theorem RAt.s2 (v : Bool) : RAt (w.setCell ⟨B, 2, none⟩ (.bool v)) B t u v ar r1 c1 x1 y1 r2 c2 x2 y2 := ⟨setOf 2 _ h.o⟩
theorem RAt.s3 (v : Bool) : RAt (w.setCell ⟨B, 3, none⟩ (.bool v)) B t u fx v r1 c1 x1 y1 r2 c2 x2 y2 := ⟨setOf 3 _ h.o⟩
theorem RAt.s4 (v : Int) : RAt (w.setCell ⟨B, 4, none⟩ (.int .i64 v)) B t u fx ar v c1 x1 y1 r2 c2 x2 y2 := ⟨setOf 4 _ h.o⟩
theorem RAt.s5 (v : Int) : RAt (w.setCell ⟨B, 5, none⟩ (.int .i64 v)) B t u fx ar r1 v x1 y1 r2 c2 x2 y2 := ⟨setOf 5 _ h.o⟩
theorem RAt.s6 (v : Bool) : RAt (w.setCell ⟨B, 6, none⟩ (.bool v)) B t u fx ar r1 c1 v y1 r2 c2 x2 y2 := ⟨setOf 6 _ h.o⟩
theorem RAt.s7 (v : Bool) : RAt (w.setCell ⟨B, 7, none⟩ (.bool v)) B t u fx ar r1 c1 x1 v r2 c2 x2 y2 := ⟨setOf 7 _ h.o⟩
theorem RAt.s8 (v : Int) : RAt (w.setCell ⟨B, 8, none⟩ (.int .i64 v)) B t u fx ar r1 c1 x1 y1 v c2 x2 y2 := ⟨setOf 8 _ h.o⟩
theorem RAt.s9 (v : Int) : RAt (w.setCell ⟨B, 9, none⟩ (.int .i64 v)) B t u fx ar r1 c1 x1 y1 r2 v x2 y2 := ⟨setOf 9 _ h.o⟩
theorem RAt.s10 (v : Bool) : RAt (w.setCell ⟨B, 10, none⟩ (.bool v)) B t u fx ar r1 c1 x1 y1 r2 c2 v y2 := ⟨setOf 10 _ h.o⟩
theorem RAt.s11 (v : Bool) : RAt (w.setCell ⟨B, 11, none⟩ (.bool v)) B t u fx ar r1 c1 x1 y1 r2 c2 x2 v := ⟨setOf 11 _ h.o⟩
end
theorem info_ref : (Tryd.prog.info? 46).map (·.size) = some 12 := by kernel_rfl
theorem rret {fn : Func} {p : Tmp} (h : fn.results = #[.cell p 46]) (tmps : Array Value) (w : World) (g : Nat) {t u : ByteArray} {fx ar : Bool} {r1 c1 : Int} {x1 y1 : Bool} {r2 c2 : Int} {x2 y2 : Bool} (hp : tmps.getD p undef = .pointer (some ⟨g, 0, none⟩)) (hv : RAt w g t u fx ar r1 c1 x1 y1 r2 c2 x2 y2) :
    (results fn tmps).run Tryd.prog w = .ok (.agg #[.string t, .string u, .bool fx, .bool ar, .int .i64 r1, .int .i64 c1, .bool x1, .bool y1, .int .i64 r2, .int .i64 c2, .bool x2, .bool y2]) w :=
  results_cell_row h tmps w g 46 _ (0, 0) _ hp hv.o Tryd.underlying46 rfl info_ref
theorem two_refs (w : World) : RAt ((w.alloc (.cells #[.string ⟨#[]⟩, .string ⟨#[]⟩, .bool false, .bool false, .int .i64 0, .int .i64 0, .bool false, .bool false, .int .i64 0, .int .i64 0, .bool false, .bool false] 46 (0, 0))).alloc (.cells #[.string ⟨#[]⟩, .string ⟨#[]⟩, .bool false, .bool false, .int .i64 0, .int .i64 0, .bool false, .bool false, .int .i64 0, .int .i64 0, .bool false, .bool false] 46 (0, 0))) w.heap.size ⟨#[]⟩ ⟨#[]⟩ false false 0 0 false false 0 0 false false ∧ RAt ((w.alloc (.cells #[.string ⟨#[]⟩, .string ⟨#[]⟩, .bool false, .bool false, .int .i64 0, .int .i64 0, .bool false, .bool false, .int .i64 0, .int .i64 0, .bool false, .bool false] 46 (0, 0))).alloc (.cells #[.string ⟨#[]⟩, .string ⟨#[]⟩, .bool false, .bool false, .int .i64 0, .int .i64 0, .bool false, .bool false, .int .i64 0, .int .i64 0, .bool false, .bool false] 46 (0, 0))) (w.heap.size + 1) ⟨#[]⟩ ⟨#[]⟩ false false 0 0 false false 0 0 false false :=
  ⟨⟨(Below.heap_alloc _ _ _ (by simp)).trans (heap_alloc_new w _)⟩, ⟨by
    have e := heap_alloc_new (w.alloc (.cells #[.string ⟨#[]⟩, .string ⟨#[]⟩, .bool false, .bool false, .int .i64 0, .int .i64 0, .bool false, .bool false, .int .i64 0, .int .i64 0, .bool false, .bool false] 46 (0, 0))) (.cells #[.string ⟨#[]⟩, .string ⟨#[]⟩, .bool false, .bool false, .int .i64 0, .int .i64 0, .bool false, .bool false, .int .i64 0, .int .i64 0, .bool false, .bool false] 46 (0, 0))
    rwa [World.size_alloc] at e⟩⟩
theorem RAt.all {w : World} {B : Nat} {t0 u0 : ByteArray} {f0 a0 : Bool} {r0 c0 : Int} {x0 y0 : Bool} {r9 c9 : Int} {x9 y9 : Bool} (h : RAt w B t0 u0 f0 a0 r0 c0 x0 y0 r9 c9 x9 y9) (t u : ByteArray) (fx ar : Bool) (r1 c1 : Int) (x1 y1 : Bool) (r2 c2 : Int) (x2 y2 : Bool) : RAt ((((((((((((w.setCell ⟨B, 0, none⟩ (.string t)).setCell ⟨B, 1, none⟩ (.string u)).setCell ⟨B, 2, none⟩ (.bool fx)).setCell ⟨B, 3, none⟩ (.bool ar)).setCell ⟨B, 4, none⟩ (.int .i64 r1)).setCell ⟨B, 5, none⟩ (.int .i64 c1)).setCell ⟨B, 6, none⟩ (.bool x1)).setCell ⟨B, 7, none⟩ (.bool y1)).setCell ⟨B, 8, none⟩ (.int .i64 r2)).setCell ⟨B, 9, none⟩ (.int .i64 c2)).setCell ⟨B, 10, none⟩ (.bool x2)).setCell ⟨B, 11, none⟩ (.bool y2)) B t u fx ar r1 c1 x1 y1 r2 c2 x2 y2 :=
  ((((((((((((h.s0 t).s1 u).s2 fx).s3 ar).s4 r1).s5 c1).s6 x1).s7 y1).s8 r2).s9 c2).s10 x2).s11 y2)
theorem Fr.all {S : Nat → Prop} {a w : World} {B : Nat} (h : Fr S a w) (hB : S B ∨ a.heap.size ≤ B) (t u : ByteArray) (fx ar : Bool) (r1 c1 : Int) (x1 y1 : Bool) (r2 c2 : Int) (x2 y2 : Bool) : Fr S a ((((((((((((w.setCell ⟨B, 0, none⟩ (.string t)).setCell ⟨B, 1, none⟩ (.string u)).setCell ⟨B, 2, none⟩ (.bool fx)).setCell ⟨B, 3, none⟩ (.bool ar)).setCell ⟨B, 4, none⟩ (.int .i64 r1)).setCell ⟨B, 5, none⟩ (.int .i64 c1)).setCell ⟨B, 6, none⟩ (.bool x1)).setCell ⟨B, 7, none⟩ (.bool y1)).setCell ⟨B, 8, none⟩ (.int .i64 r2)).setCell ⟨B, 9, none⟩ (.int .i64 c2)).setCell ⟨B, 10, none⟩ (.bool x2)).setCell ⟨B, 11, none⟩ (.bool y2)) :=
  ((((((((((((h.setCell ⟨B, 0, none⟩ hB _).setCell ⟨B, 1, none⟩ hB _).setCell ⟨B, 2, none⟩ hB _).setCell ⟨B, 3, none⟩ hB _).setCell ⟨B, 4, none⟩ hB _).setCell ⟨B, 5, none⟩ hB _).setCell ⟨B, 6, none⟩ hB _).setCell ⟨B, 7, none⟩ hB _).setCell ⟨B, 8, none⟩ hB _).setCell ⟨B, 9, none⟩ hB _).setCell ⟨B, 10, none⟩ hB _).setCell ⟨B, 11, none⟩ hB _)
theorem heap_all (w : World) (B k : Nat) (h : k ≠ B) (t u : ByteArray) (fx ar : Bool) (r1 c1 : Int) (x1 y1 : Bool) (r2 c2 : Int) (x2 y2 : Bool) : ((((((((((((w.setCell ⟨B, 0, none⟩ (.string t)).setCell ⟨B, 1, none⟩ (.string u)).setCell ⟨B, 2, none⟩ (.bool fx)).setCell ⟨B, 3, none⟩ (.bool ar)).setCell ⟨B, 4, none⟩ (.int .i64 r1)).setCell ⟨B, 5, none⟩ (.int .i64 c1)).setCell ⟨B, 6, none⟩ (.bool x1)).setCell ⟨B, 7, none⟩ (.bool y1)).setCell ⟨B, 8, none⟩ (.int .i64 r2)).setCell ⟨B, 9, none⟩ (.int .i64 c2)).setCell ⟨B, 10, none⟩ (.bool x2)).setCell ⟨B, 11, none⟩ (.bool y2)).heap[k]? = w.heap[k]? := by
  rw [Below.heap_setCell _ _ _ _ h, Below.heap_setCell _ _ _ _ h, Below.heap_setCell _ _ _ _ h, Below.heap_setCell _ _ _ _ h, Below.heap_setCell _ _ _ _ h, Below.heap_setCell _ _ _ _ h, Below.heap_setCell _ _ _ _ h, Below.heap_setCell _ _ _ _ h, Below.heap_setCell _ _ _ _ h, Below.heap_setCell _ _ _ _ h, Below.heap_setCell _ _ _ _ h, Below.heap_setCell _ _ _ _ h]
#print axioms two_refs
end Go.Proofs.YthokhnbecgkpbaaDoor
