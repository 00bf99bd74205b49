/- Values: what makes them; Num, Text, Bool, Err of the program and of the document. -/
import Derived.Test.YtaobnfjkggpdlaaGreatDoorAZer
import Derived.Test.YtaobnfjkggpdlaaGreatDoorShelf2
namespace Go.Proofs.YtaobnfjkggpdlaaGreatDoor
open Go.RowKit Ieee Go.Shelf

theorem run_store_float (P : Program) (w : World) (a : Addr) (m : Mode) (k : FloatKind) (x : Nat) : (store a (.float k x) m).run P w = stored P w a (.float k x) m := run_store P w a _ m rfl
attribute [local go_sem] run_store_float
theorem info_val : (Tryz.prog.info? 43).map (·.size) = some 5 := by kernel_rfl
theorem set5 {W : World} {B : Nat} {a b c d e : Value} {t : TypeId} (h : W.heap[B]? = some (.cells #[a, b, c, d, e] t (0, 0))) (a' b' c' d' e' : Value) :
    (((((W.setCell ⟨B, 0, none⟩ a').setCell ⟨B, 1, none⟩ b').setCell ⟨B, 2, none⟩ c').setCell ⟨B, 3, none⟩ d').setCell ⟨B, 4, none⟩ e').heap[B]? = some (.cells #[a', b', c', d', e'] t (0, 0)) :=
  setOf 4 e' (setOf 3 d' (setOf 2 c' (setOf 1 b' (setOf 0 a' h))))
theorem fr5 {S : Nat → Prop} {w W : World} (h : Fr S w W) (B : Nat) (hB : S B ∨ w.heap.size ≤ B) (a' b' c' d' e' : Value) :
    Fr S w (((((W.setCell ⟨B, 0, none⟩ a').setCell ⟨B, 1, none⟩ b').setCell ⟨B, 2, none⟩ c').setCell ⟨B, 3, none⟩ d').setCell ⟨B, 4, none⟩ e') :=
  ((((h.setCell ⟨B, 0, none⟩ hB a').setCell ⟨B, 1, none⟩ hB b').setCell ⟨B, 2, none⟩ hB c').setCell ⟨B, 3, none⟩ hB d').setCell ⟨B, 4, none⟩ hB e'
/-- A value's cells in a block. -/
structure VAt (w : World) (B : Nat) (k : Int) (n : Nat) (s : ByteArray) (y : Bool) (e : Int) : Prop where
  o : w.heap[B]? = some (.cells #[.int .i64 k, .float .f64 n, .string s, .bool y, .int .i64 e] 43 (0, 0))
theorem VAt.fr {S : Nat → Prop} {w w' : World} {B : Nat} {k : Int} {n : Nat} {s : ByteArray} {y : Bool} {e : Int} (h : VAt w B k n s y e) (hF : Fr S w w') (hB : ¬ S B) : VAt w' B k n s y e := ⟨hF.obj h.o hB⟩
section
variable {w : World} {B : Nat} {k : Int} {n : Nat} {s : ByteArray} {y : Bool} {e : Int} (h : VAt w B k n s y e)
include h
theorem VAt.c0 : w.cell? ⟨B, 0, none⟩ = some (.int .i64 k) := cellOf (o := 0) h.o rfl
theorem VAt.c1 : w.cell? ⟨B, 1, none⟩ = some (.float .f64 n) := cellOf (o := 1) h.o rfl
theorem VAt.c2 : w.cell? ⟨B, 2, none⟩ = some (.string s) := cellOf (o := 2) h.o rfl
theorem VAt.c3 : w.cell? ⟨B, 3, none⟩ = some (.bool y) := cellOf (o := 3) h.o rfl
theorem VAt.c4 : w.cell? ⟨B, 4, none⟩ = some (.int .i64 e) := cellOf (o := 4) h.o rfl
theorem VAt.set (k' : Int) (n' : Nat) (s' : ByteArray) (y' : Bool) (e' : Int) : VAt (((((w.setCell ⟨B, 0, none⟩ (.int .i64 k')).setCell ⟨B, 1, none⟩ (.float .f64 n')).setCell ⟨B, 2, none⟩ (.string s')).setCell ⟨B, 3, none⟩ (.bool y')).setCell ⟨B, 4, none⟩ (.int .i64 e')) B k' n' s' y' e' := ⟨set5 h.o _ _ _ _ _⟩
end
theorem vret {fn : Func} {p : Tmp} (h : fn.results = #[.cell p 43]) (tmps : Array Value) (w : World) (g : Nat) {k : Int} {n : Nat} {s : ByteArray} {y : Bool} {e : Int} (hp : tmps.getD p undef = .pointer (some ⟨g, 0, none⟩)) (hv : VAt w g k n s y e) :
    (results fn tmps).run Tryz.prog w = .ok (.agg #[.int .i64 k, .float .f64 n, .string s, .bool y, .int .i64 e]) w :=
  results_cell_row h tmps w g 43 _ (0, 0) _ hp hv.o Tryz.underlying43 rfl info_val
set_option maxRecDepth 100000 in
theorem pnum_any (x : Nat) (w : World) : Calls Tryz.prog 90 #[.float .f64 x] w fun e w' => e = .returned (.agg #[.int .i64 1, .float .f64 x, .string ⟨#[]⟩, .bool false, .int .i64 0]) ∧ Fr noB w w' := by
  have hO : VAt (w.alloc (.cells #[.int .i64 1, .float .f64 x, .string ⟨#[]⟩, .bool false, .int .i64 0] 43 (0, 0))) w.heap.size 1 x ⟨#[]⟩ false 0 := ⟨heap_alloc_new w _⟩
  have hF : Fr noB w (w.alloc (.cells #[.int .i64 1, .float .f64 x, .string ⟨#[]⟩, .bool false, .int .i64 0] 43 (0, 0))) := (Fr.refl noB w).alloc _
  have HH : Hid _ := And.intro hO hF
  clear hO hF
  go_enter Tryz.func90, Tryz.ntmps90
  go_wp2_with fail
  exact bodyPost_ret (vret Tryz.results90 _ _ w.heap.size rfl HH.out.1) rfl ⟨rfl, HH.out.2⟩
set_option maxRecDepth 100000 in
theorem rnum_any (x : Nat) (w : World) : Calls Tryz.prog 32 #[.float .f64 x] w fun e w' => e = .returned (.agg #[.int .i64 1, .float .f64 x, .string ⟨#[]⟩, .bool false, .int .i64 0]) ∧ Fr noB w w' := by
  have hO : VAt (w.alloc (.cells #[.int .i64 1, .float .f64 x, .string ⟨#[]⟩, .bool false, .int .i64 0] 43 (0, 0))) w.heap.size 1 x ⟨#[]⟩ false 0 := ⟨heap_alloc_new w _⟩
  have hF : Fr noB w (w.alloc (.cells #[.int .i64 1, .float .f64 x, .string ⟨#[]⟩, .bool false, .int .i64 0] 43 (0, 0))) := (Fr.refl noB w).alloc _
  have HH : Hid _ := And.intro hO hF
  clear hO hF
  go_enter Tryz.func32, Tryz.ntmps32
  go_wp2_with fail
  exact bodyPost_ret (vret Tryz.results32 _ _ w.heap.size rfl HH.out.1) rfl ⟨rfl, HH.out.2⟩
set_option maxRecDepth 100000 in
theorem ptext_any (s : ByteArray) (w : World) : Calls Tryz.prog 72 #[.string s] w fun e w' => e = .returned (.agg #[.int .i64 2, .float .f64 0, .string s, .bool false, .int .i64 0]) ∧ Fr noB w w' := by
  have hO : VAt (w.alloc (.cells #[.int .i64 2, .float .f64 0, .string s, .bool false, .int .i64 0] 43 (0, 0))) w.heap.size 2 0 s false 0 := ⟨heap_alloc_new w _⟩
  have hF : Fr noB w (w.alloc (.cells #[.int .i64 2, .float .f64 0, .string s, .bool false, .int .i64 0] 43 (0, 0))) := (Fr.refl noB w).alloc _
  have HH : Hid _ := And.intro hO hF
  clear hO hF
  go_enter Tryz.func72, Tryz.ntmps72
  go_wp2_with fail
  exact bodyPost_ret (vret Tryz.results72 _ _ w.heap.size rfl HH.out.1) rfl ⟨rfl, HH.out.2⟩
set_option maxRecDepth 100000 in
theorem rtext_any (s : ByteArray) (w : World) : Calls Tryz.prog 29 #[.string s] w fun e w' => e = .returned (.agg #[.int .i64 2, .float .f64 0, .string s, .bool false, .int .i64 0]) ∧ Fr noB w w' := by
  have hO : VAt (w.alloc (.cells #[.int .i64 2, .float .f64 0, .string s, .bool false, .int .i64 0] 43 (0, 0))) w.heap.size 2 0 s false 0 := ⟨heap_alloc_new w _⟩
  have hF : Fr noB w (w.alloc (.cells #[.int .i64 2, .float .f64 0, .string s, .bool false, .int .i64 0] 43 (0, 0))) := (Fr.refl noB w).alloc _
  have HH : Hid _ := And.intro hO hF
  clear hO hF
  go_enter Tryz.func29, Tryz.ntmps29
  go_wp2_with fail
  exact bodyPost_ret (vret Tryz.results29 _ _ w.heap.size rfl HH.out.1) rfl ⟨rfl, HH.out.2⟩
set_option maxRecDepth 100000 in
theorem pbool_any (b : Bool) (w : World) : Calls Tryz.prog 73 #[.bool b] w fun e w' => e = .returned (.agg #[.int .i64 3, .float .f64 0, .string ⟨#[]⟩, .bool b, .int .i64 0]) ∧ Fr noB w w' := by
  have hO : VAt (w.alloc (.cells #[.int .i64 3, .float .f64 0, .string ⟨#[]⟩, .bool b, .int .i64 0] 43 (0, 0))) w.heap.size 3 0 ⟨#[]⟩ b 0 := ⟨heap_alloc_new w _⟩
  have hF : Fr noB w (w.alloc (.cells #[.int .i64 3, .float .f64 0, .string ⟨#[]⟩, .bool b, .int .i64 0] 43 (0, 0))) := (Fr.refl noB w).alloc _
  have HH : Hid _ := And.intro hO hF
  clear hO hF
  go_enter Tryz.func73, Tryz.ntmps73
  go_wp2_with fail
  exact bodyPost_ret (vret Tryz.results73 _ _ w.heap.size rfl HH.out.1) rfl ⟨rfl, HH.out.2⟩
set_option maxRecDepth 100000 in
theorem perr_any (c : Int) (w : World) : Calls Tryz.prog 46 #[.int .i64 c] w fun e w' => e = .returned (.agg #[.int .i64 4, .float .f64 0, .string ⟨#[]⟩, .bool false, .int .i64 c]) ∧ Fr noB w w' := by
  have hO : VAt (w.alloc (.cells #[.int .i64 4, .float .f64 0, .string ⟨#[]⟩, .bool false, .int .i64 c] 43 (0, 0))) w.heap.size 4 0 ⟨#[]⟩ false c := ⟨heap_alloc_new w _⟩
  have hF : Fr noB w (w.alloc (.cells #[.int .i64 4, .float .f64 0, .string ⟨#[]⟩, .bool false, .int .i64 c] 43 (0, 0))) := (Fr.refl noB w).alloc _
  have HH : Hid _ := And.intro hO hF
  clear hO hF
  go_enter Tryz.func46, Tryz.ntmps46
  go_wp2_with fail
  exact bodyPost_ret (vret Tryz.results46 _ _ w.heap.size rfl HH.out.1) rfl ⟨rfl, HH.out.2⟩
set_option maxRecDepth 100000 in
theorem rerr_any (c : Int) (w : World) : Calls Tryz.prog 48 #[.int .i64 c] w fun e w' => e = .returned (.agg #[.int .i64 4, .float .f64 0, .string ⟨#[]⟩, .bool false, .int .i64 c]) ∧ Fr noB w w' := by
  have hO : VAt (w.alloc (.cells #[.int .i64 4, .float .f64 0, .string ⟨#[]⟩, .bool false, .int .i64 c] 43 (0, 0))) w.heap.size 4 0 ⟨#[]⟩ false c := ⟨heap_alloc_new w _⟩
  have hF : Fr noB w (w.alloc (.cells #[.int .i64 4, .float .f64 0, .string ⟨#[]⟩, .bool false, .int .i64 c] 43 (0, 0))) := (Fr.refl noB w).alloc _
  have HH : Hid _ := And.intro hO hF
  clear hO hF
  go_enter Tryz.func48, Tryz.ntmps48
  go_wp2_with fail
  exact bodyPost_ret (vret Tryz.results48 _ _ w.heap.size rfl HH.out.1) rfl ⟨rfl, HH.out.2⟩
#print axioms perr_any
end Go.Proofs.YtaobnfjkggpdlaaGreatDoor
