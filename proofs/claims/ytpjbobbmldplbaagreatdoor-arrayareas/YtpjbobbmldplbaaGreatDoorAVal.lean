/- Values in boxes: stored whole, loaded whole. -/
import Derived.Test.YtpjbobbmldplbaaGreatDoorK09
import Derived.Laws.Tables
import Derived.Laws.Rows
namespace Go.Proofs.YtpjbobbmldplbaaGreatDoor
open Go.RowKit Ieee Go.Shelf

theorem old1 {w : World} {o x : Obj} {k : Nat} (h : w.heap[k]? = some x) : (w.alloc o).heap[k]? = some x := (Below.heap_alloc _ _ _ (lt_of_block h)).trans h
theorem new1 (w : World) (o : Obj) (k : Nat) (h : k = w.heap.size) : (w.alloc o).heap[k]? = some o := by subst h; exact heap_alloc_new w o
theorem val_one (k : Int) (n : Nat) (s : ByteArray) (y : Bool) (e : Int) : (#[.int .i64 k, .float .f64 n, .string s, .bool y, .int .i64 e] : Array Value).all (·.oneCell') = true := by kernel_rfl
/-- A value stored into a box that holds a value: the world behind it is any one in which it lies there. -/
theorem wpList_store_val {ops : Array Oper} {rest : List Oper} {o : Oper} {a : Act} {w : World} {Q : Exit → Act → World → Prop} (hgd : o.guard = none) (x y : Operand) (ho : o.op = .store 37 x y)
    (g : Nat) (k : Int) (n : Nat) (s : ByteArray) (y' : Bool) (e : Int) (hx : a.eval x = .pointer (some ⟨g, 0, none⟩)) (hy : a.eval y = (.agg #[.int .i64 k, .float .f64 n, .string s, .bool y', .int .i64 e]))
    {k0 : Int} {n0 : Nat} {s0 : ByteArray} {y0 : Bool} {e0 : Int} (hO : VAt w g k0 n0 s0 y0 e0)
    (h : ∀ W, VAt W g k n s y' e → Fr (oneB g) w W → wpList Tryz.prog ops Q rest (a.put o.dst undef) W) : wpList Tryz.prog ops Q (o :: rest) a w :=
  wpList_store_row hgd 37 x y ho g #[.int .i64 k, .float .f64 n, .string s, .bool y', .int .i64 e] hx hy 37 _ hO.o info_val rfl (val_one _ _ _ _ _)
    (h _ ⟨setRow_heap _ _ _ _ _ _ hO.o⟩ ⟨rfl, rfl, rfl, by simp [World.setRow], fun k hk hs => setRow_other _ _ _ _ hs⟩)
/-- What is done to a block that came after w leaves w's blocks. -/
theorem Fr.new {w W W' : World} {g : Nat} (h : Fr noB w W) (h2 : Fr (oneB g) W W') (hg : w.heap.size ≤ g) : Fr noB w W' :=
  h.then h2 fun i hi => Or.inr (by rw [show i = g from hi]; exact hg)
theorem VAt.new {w : World} {k : Int} {n : Nat} {s : ByteArray} {y : Bool} {e : Int} : VAt (w.alloc (.cells #[.int .i64 k, .float .f64 n, .string s, .bool y, .int .i64 e] 37 (0, 0))) w.heap.size k n s y e ∧ Fr noB w (w.alloc (.cells #[.int .i64 k, .float .f64 n, .string s, .bool y, .int .i64 e] 37 (0, 0))) := ⟨⟨heap_alloc_new w _⟩, (Fr.refl noB w).alloc _⟩
theorem VAt.lt {w : World} {B : Nat} {k : Int} {n : Nat} {s : ByteArray} {y : Bool} {e : Int} (h : VAt w B k n s y e) : B < w.heap.size := lt_of_block h.o
theorem VAt.keep {w w' : World} {B : Nat} {k : Int} {n : Nat} {s : ByteArray} {y : Bool} {e : Int} (h : VAt w B k n s y e) {g : Nat} (hF : Fr (oneB g) w w') (hB : B ≠ g) : VAt w' B k n s y e := h.fr hF hB
theorem vret2 {fn : Func} {p q : Tmp} (h : fn.results = #[.cell p 37, .tmp q]) (tmps : Array Value) (w : World) (g : Nat) {k : Int} {n : Nat} {s : ByteArray} {y : Bool} {e : Int} {b : Value} (hp : tmps.getD p undef = .pointer (some ⟨g, 0, none⟩)) (hq : tmps.getD q undef = b) (hv : VAt w g k n s y e) :
    (results fn tmps).run Tryz.prog w = .ok (.tuple #[(.agg #[.int .i64 k, .float .f64 n, .string s, .bool y, .int .i64 e]), b]) w := by
  have hp' : tmps[p]?.getD undef = .pointer (some ⟨g, 0, none⟩) := by simpa using hp
  have hq' : tmps[q]?.getD undef = b := by simpa using hq
  simp [results, h, hp', hq', asAddr, run_loadVar_row w g 37 37 _ (0, 0) _ hv.o Tryz.underlying37 rfl info_val]
#print axioms vret2
#print axioms wpList_store_val
end Go.Proofs.YtpjbobbmldplbaaGreatDoor
