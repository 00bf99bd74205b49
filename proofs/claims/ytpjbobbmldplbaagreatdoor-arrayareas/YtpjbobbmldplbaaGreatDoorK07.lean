/- Values: what makes them; Num, Text, Bool, Err of the program and of the document. -/
import Derived.Test.YtpjbobbmldplbaaGreatDoorK05
import Derived.Test.YtpjbobbmldplbaaGreatDoorShelf2
namespace Go.Proofs.YtpjbobbmldplbaaGreatDoor
open Go.RowKit Ieee Go.Shelf

theorem run_store_float (P : Program) (w : World) (a : Addr) (m : Mode) (k : FloatKind) (x : Nat) : (store a (.float k x) m).run P w = stored P w a (.float k x) m := run_store P w a _ m rfl
attribute [local go_sem] run_store_float
theorem info_val : (Tryz.prog.info? 37).map (·.size) = some 5 := by kernel_rfl
theorem set5 {W : World} {B : Nat} {a b c d e : Value} {t : TypeId} (h : W.heap[B]? = some (.cells #[a, b, c, d, e] t (0, 0))) (a' b' c' d' e' : Value) :
    (((((W.setCell ⟨B, 0, none⟩ a').setCell ⟨B, 1, none⟩ b').setCell ⟨B, 2, none⟩ c').setCell ⟨B, 3, none⟩ d').setCell ⟨B, 4, none⟩ e').heap[B]? = some (.cells #[a', b', c', d', e'] t (0, 0)) :=
  setOf 4 e' (setOf 3 d' (setOf 2 c' (setOf 1 b' (setOf 0 a' h))))
theorem fr5 {S : Nat → Prop} {w W : World} (h : Fr S w W) (B : Nat) (hB : S B ∨ w.heap.size ≤ B) (a' b' c' d' e' : Value) :
    Fr S w (((((W.setCell ⟨B, 0, none⟩ a').setCell ⟨B, 1, none⟩ b').setCell ⟨B, 2, none⟩ c').setCell ⟨B, 3, none⟩ d').setCell ⟨B, 4, none⟩ e') :=
  ((((h.setCell ⟨B, 0, none⟩ hB a').setCell ⟨B, 1, none⟩ hB b').setCell ⟨B, 2, none⟩ hB c').setCell ⟨B, 3, none⟩ hB d').setCell ⟨B, 4, none⟩ hB e'
/-- A value's cells in a block. -/
structure VAt (w : World) (B : Nat) (k : Int) (n : Nat) (s : ByteArray) (y : Bool) (e : Int) : Prop where
  o : w.heap[B]? = some (.cells #[.int .i64 k, .float .f64 n, .string s, .bool y, .int .i64 e] 37 (0, 0))
theorem VAt.fr {S : Nat → Prop} {w w' : World} {B : Nat} {k : Int} {n : Nat} {s : ByteArray} {y : Bool} {e : Int} (h : VAt w B k n s y e) (hF : Fr S w w') (hB : ¬ S B) : VAt w' B k n s y e := ⟨hF.obj h.o hB⟩
section
variable {w : World} {B : Nat} {k : Int} {n : Nat} {s : ByteArray} {y : Bool} {e : Int} (h : VAt w B k n s y e)
include h
theorem VAt.c0 : w.cell? ⟨B, 0, none⟩ = some (.int .i64 k) := cellOf (o := 0) h.o rfl
theorem VAt.c1 : w.cell? ⟨B, 1, none⟩ = some (.float .f64 n) := cellOf (o := 1) h.o rfl
theorem VAt.c2 : w.cell? ⟨B, 2, none⟩ = some (.string s) := cellOf (o := 2) h.o rfl
theorem VAt.c3 : w.cell? ⟨B, 3, none⟩ = some (.bool y) := cellOf (o := 3) h.o rfl
theorem VAt.c4 : w.cell? ⟨B, 4, none⟩ = some (.int .i64 e) := cellOf (o := 4) h.o rfl
theorem VAt.set (k' : Int) (n' : Nat) (s' : ByteArray) (y' : Bool) (e' : Int) : VAt (((((w.setCell ⟨B, 0, none⟩ (.int .i64 k')).setCell ⟨B, 1, none⟩ (.float .f64 n')).setCell ⟨B, 2, none⟩ (.string s')).setCell ⟨B, 3, none⟩ (.bool y')).setCell ⟨B, 4, none⟩ (.int .i64 e')) B k' n' s' y' e' := ⟨set5 h.o _ _ _ _ _⟩
end
theorem vret {fn : Func} {p : Tmp} (h : fn.results = #[.cell p 37]) (tmps : Array Value) (w : World) (g : Nat) {k : Int} {n : Nat} {s : ByteArray} {y : Bool} {e : Int} (hp : tmps.getD p undef = .pointer (some ⟨g, 0, none⟩)) (hv : VAt w g k n s y e) :
    (results fn tmps).run Tryz.prog w = .ok (.agg #[.int .i64 k, .float .f64 n, .string s, .bool y, .int .i64 e]) w :=
  results_cell_row h tmps w g 37 _ (0, 0) _ hp hv.o Tryz.underlying37 rfl info_val
set_option maxRecDepth 100000 in
theorem pnum_any (x : Nat) (w : World) : Calls Tryz.prog 72 #[.float .f64 x] w fun e w' => e = .returned (.agg #[.int .i64 1, .float .f64 x, .string ⟨#[]⟩, .bool false, .int .i64 0]) ∧ Fr noB w w' := by
  have hO : VAt (w.alloc (.cells #[.int .i64 1, .float .f64 x, .string ⟨#[]⟩, .bool false, .int .i64 0] 37 (0, 0))) w.heap.size 1 x ⟨#[]⟩ false 0 := ⟨heap_alloc_new w _⟩
  have hF : Fr noB w (w.alloc (.cells #[.int .i64 1, .float .f64 x, .string ⟨#[]⟩, .bool false, .int .i64 0] 37 (0, 0))) := (Fr.refl noB w).alloc _
  have HH : Hid _ := And.intro hO hF
  clear hO hF
  go_enter Tryz.func72, Tryz.ntmps72
  go_wp2_with fail
  exact bodyPost_ret (vret Tryz.results72 _ _ w.heap.size rfl HH.out.1) rfl ⟨rfl, HH.out.2⟩
set_option maxRecDepth 100000 in
theorem rnum_any (x : Nat) (w : World) : Calls Tryz.prog 22 #[.float .f64 x] w fun e w' => e = .returned (.agg #[.int .i64 1, .float .f64 x, .string ⟨#[]⟩, .bool false, .int .i64 0]) ∧ Fr noB w w' := by
  have hO : VAt (w.alloc (.cells #[.int .i64 1, .float .f64 x, .string ⟨#[]⟩, .bool false, .int .i64 0] 37 (0, 0))) w.heap.size 1 x ⟨#[]⟩ false 0 := ⟨heap_alloc_new w _⟩
  have hF : Fr noB w (w.alloc (.cells #[.int .i64 1, .float .f64 x, .string ⟨#[]⟩, .bool false, .int .i64 0] 37 (0, 0))) := (Fr.refl noB w).alloc _
  have HH : Hid _ := And.intro hO hF
  clear hO hF
  go_enter Tryz.func22, Tryz.ntmps22
  go_wp2_with fail
  exact bodyPost_ret (vret Tryz.results22 _ _ w.heap.size rfl HH.out.1) rfl ⟨rfl, HH.out.2⟩
set_option maxRecDepth 100000 in
theorem ptext_any (s : ByteArray) (w : World) : Calls Tryz.prog 57 #[.string s] w fun e w' => e = .returned (.agg #[.int .i64 2, .float .f64 0, .string s, .bool false, .int .i64 0]) ∧ Fr noB w w' := by
  have hO : VAt (w.alloc (.cells #[.int .i64 2, .float .f64 0, .string s, .bool false, .int .i64 0] 37 (0, 0))) w.heap.size 2 0 s false 0 := ⟨heap_alloc_new w _⟩
  have hF : Fr noB w (w.alloc (.cells #[.int .i64 2, .float .f64 0, .string s, .bool false, .int .i64 0] 37 (0, 0))) := (Fr.refl noB w).alloc _
  have HH : Hid _ := And.intro hO hF
  clear hO hF
  go_enter Tryz.func57, Tryz.ntmps57
  go_wp2_with fail
  exact bodyPost_ret (vret Tryz.results57 _ _ w.heap.size rfl HH.out.1) rfl ⟨rfl, HH.out.2⟩
set_option maxRecDepth 100000 in
theorem pbool_any (b : Bool) (w : World) : Calls Tryz.prog 58 #[.bool b] w fun e w' => e = .returned (.agg #[.int .i64 3, .float .f64 0, .string ⟨#[]⟩, .bool b, .int .i64 0]) ∧ Fr noB w w' := by
  have hO : VAt (w.alloc (.cells #[.int .i64 3, .float .f64 0, .string ⟨#[]⟩, .bool b, .int .i64 0] 37 (0, 0))) w.heap.size 3 0 ⟨#[]⟩ b 0 := ⟨heap_alloc_new w _⟩
  have hF : Fr noB w (w.alloc (.cells #[.int .i64 3, .float .f64 0, .string ⟨#[]⟩, .bool b, .int .i64 0] 37 (0, 0))) := (Fr.refl noB w).alloc _
  have HH : Hid _ := And.intro hO hF
  clear hO hF
  go_enter Tryz.func58, Tryz.ntmps58
  go_wp2_with fail
  exact bodyPost_ret (vret Tryz.results58 _ _ w.heap.size rfl HH.out.1) rfl ⟨rfl, HH.out.2⟩
set_option maxRecDepth 100000 in
theorem perr_any (c : Int) (w : World) : Calls Tryz.prog 32 #[.int .i64 c] w fun e w' => e = .returned (.agg #[.int .i64 4, .float .f64 0, .string ⟨#[]⟩, .bool false, .int .i64 c]) ∧ Fr noB w w' := by
  have hO : VAt (w.alloc (.cells #[.int .i64 4, .float .f64 0, .string ⟨#[]⟩, .bool false, .int .i64 c] 37 (0, 0))) w.heap.size 4 0 ⟨#[]⟩ false c := ⟨heap_alloc_new w _⟩
  have hF : Fr noB w (w.alloc (.cells #[.int .i64 4, .float .f64 0, .string ⟨#[]⟩, .bool false, .int .i64 c] 37 (0, 0))) := (Fr.refl noB w).alloc _
  have HH : Hid _ := And.intro hO hF
  clear hO hF
  go_enter Tryz.func32, Tryz.ntmps32
  go_wp2_with fail
  exact bodyPost_ret (vret Tryz.results32 _ _ w.heap.size rfl HH.out.1) rfl ⟨rfl, HH.out.2⟩
set_option maxRecDepth 100000 in
theorem rerr_any (c : Int) (w : World) : Calls Tryz.prog 34 #[.int .i64 c] w fun e w' => e = .returned (.agg #[.int .i64 4, .float .f64 0, .string ⟨#[]⟩, .bool false, .int .i64 c]) ∧ Fr noB w w' := by
  have hO : VAt (w.alloc (.cells #[.int .i64 4, .float .f64 0, .string ⟨#[]⟩, .bool false, .int .i64 c] 37 (0, 0))) w.heap.size 4 0 ⟨#[]⟩ false c := ⟨heap_alloc_new w _⟩
  have hF : Fr noB w (w.alloc (.cells #[.int .i64 4, .float .f64 0, .string ⟨#[]⟩, .bool false, .int .i64 c] 37 (0, 0))) := (Fr.refl noB w).alloc _
  have HH : Hid _ := And.intro hO hF
  clear hO hF
  go_enter Tryz.func34, Tryz.ntmps34
  go_wp2_with fail
  exact bodyPost_ret (vret Tryz.results34 _ _ w.heap.size rfl HH.out.1) rfl ⟨rfl, HH.out.2⟩
#print axioms perr_any
end Go.Proofs.YtpjbobbmldplbaaGreatDoor
/- Same of two values: the program's and the document's. -/
namespace Go.Proofs.YtpjbobbmldplbaaGreatDoor
open Go.RowKit Ieee Go.Shelf
attribute [local go_sem] run_store_float

theorem toList_inj {s t : ByteArray} (h : s.toList = t.toList) : s = t := by
  rw [ByteArray.toList_eq, ByteArray.toList_eq] at h
  cases s
  cases t
  congr 1
  exact Array.toList_inj.1 h
/-- Are two values the same? -/
def smB (k1 : Int) (n1 : Nat) (s1 : ByteArray) (y1 : Bool) (e1 : Int) (k2 : Int) (n2 : Nat) (s2 : ByteArray) (y2 : Bool) (e2 : Int) : Bool := decide (k1 = k2 ∧ n1 = n2 ∧ s1 = s2 ∧ y1 = y2 ∧ e1 = e2)
theorem smB_self (k : Int) (n : Nat) (s : ByteArray) (y : Bool) (e : Int) : smB k n s y e k n s y e = true := by simp [smB]
set_option maxRecDepth 100000 in
set_option maxHeartbeats 2000000 in
theorem psame_any (k1 : Int) (n1 : Nat) (s1 : ByteArray) (y1 : Bool) (e1 : Int) (k2 : Int) (n2 : Nat) (s2 : ByteArray) (y2 : Bool) (e2 : Int) (w : World) :
    Calls Tryz.prog 55 #[(.agg #[.int .i64 k1, .float .f64 n1, .string s1, .bool y1, .int .i64 e1]), (.agg #[.int .i64 k2, .float .f64 n2, .string s2, .bool y2, .int .i64 e2])] w fun e w' => e = .returned (.bool (smB k1 n1 s1 y1 e1 k2 n2 s2 y2 e2)) ∧ Fr noB w w' := by
  have r1 : ∀ W, _ := run_bits n1
  have r2 : ∀ W, _ := run_bits n2
  by_cases c : k1 = k2
  rotate_left
  · have hR : smB k1 n1 s1 y1 e1 k2 n2 s2 y2 e2 = false := by unfold smB; exact decide_eq_false (fun h => c (by simp [h]))
    rw [hR]
    have hk : (k1 == k2) = false := by simpa using c
    clear hR c
    go_enter Tryz.func55, Tryz.ntmps55
    go_wp2_with fail
    obtain ⟨W1, hW1⟩ : ∃ W1, w.alloc (.cells #[.int .i64 k1, .float .f64 n1, .string s1, .bool y1, .int .i64 e1] 37 (0, 0)) = W1 := ⟨_, rfl⟩
    have hz1 : W1.heap.size = w.heap.size + 1 := by rw [← hW1]; simp
    have hA1 : VAt W1 w.heap.size k1 n1 s1 y1 e1 := ⟨by rw [← hW1]; exact heap_alloc_new w _⟩
    have hF1 : Fr noB w W1 := by rw [← hW1]; exact (Fr.refl noB w).alloc _
    obtain ⟨W0, hW0⟩ : ∃ W0, W1.alloc (.cells #[.int .i64 k2, .float .f64 n2, .string s2, .bool y2, .int .i64 e2] 37 (0, 0)) = W0 := ⟨_, rfl⟩
    have hB : VAt W0 (w.heap.size + 1) k2 n2 s2 y2 e2 := ⟨by rw [← hW0, ← hz1]; exact heap_alloc_new W1 _⟩
    have hF2 : Fr noB W1 W0 := by rw [← hW0]; exact (Fr.refl noB W1).alloc _
    have hA : VAt W0 w.heap.size k1 n1 s1 y1 e1 := hA1.fr hF2 id
    have HF0 : Hid (Fr noB w W0) := hF1.trans hF2
    rw [hW1, hW0]
    clear hW0 hW1 hF1 hF2 hA1 hz1
    have a0 := hA.c0
    have b0 := hB.c0
    have a1 := hA.c1
    have b1 := hB.c1
    have a2 := hA.c2
    have b2 := hB.c2
    have a3 := hA.c3
    have b3 := hB.c3
    have a4 := hA.c4
    have b4 := hB.c4
    clear hA hB
    go_quiet (fail)
    go_wp2_with fail
    go_ret
    exact ⟨rfl, HF0.out.drewN _⟩
  subst c
  by_cases c : n1 = n2
  rotate_left
  · have hR : smB k1 n1 s1 y1 e1 k1 n2 s2 y2 e2 = false := by unfold smB; exact decide_eq_false (fun h => c (by simp [h]))
    rw [hR]
    have hn : ((n1 : Int) == (n2 : Int)) = false := by rw [beq_eq_false_iff_ne]; omega
    clear hR c
    go_enter Tryz.func55, Tryz.ntmps55
    go_wp2_with fail
    obtain ⟨W1, hW1⟩ : ∃ W1, w.alloc (.cells #[.int .i64 k1, .float .f64 n1, .string s1, .bool y1, .int .i64 e1] 37 (0, 0)) = W1 := ⟨_, rfl⟩
    have hz1 : W1.heap.size = w.heap.size + 1 := by rw [← hW1]; simp
    have hA1 : VAt W1 w.heap.size k1 n1 s1 y1 e1 := ⟨by rw [← hW1]; exact heap_alloc_new w _⟩
    have hF1 : Fr noB w W1 := by rw [← hW1]; exact (Fr.refl noB w).alloc _
    obtain ⟨W0, hW0⟩ : ∃ W0, W1.alloc (.cells #[.int .i64 k1, .float .f64 n2, .string s2, .bool y2, .int .i64 e2] 37 (0, 0)) = W0 := ⟨_, rfl⟩
    have hB : VAt W0 (w.heap.size + 1) k1 n2 s2 y2 e2 := ⟨by rw [← hW0, ← hz1]; exact heap_alloc_new W1 _⟩
    have hF2 : Fr noB W1 W0 := by rw [← hW0]; exact (Fr.refl noB W1).alloc _
    have hA : VAt W0 w.heap.size k1 n1 s1 y1 e1 := hA1.fr hF2 id
    have HF0 : Hid (Fr noB w W0) := hF1.trans hF2
    rw [hW1, hW0]
    clear hW0 hW1 hF1 hF2 hA1 hz1
    have a0 := hA.c0
    have b0 := hB.c0
    have a1 := hA.c1
    have b1 := hB.c1
    have a2 := hA.c2
    have b2 := hB.c2
    have a3 := hA.c3
    have b3 := hB.c3
    have a4 := hA.c4
    have b4 := hB.c4
    clear hA hB
    go_quiet (fail)
    go_wp2_with fail
    go_ret
    exact ⟨rfl, HF0.out.drewN _⟩
  subst c
  by_cases c : s1 = s2
  rotate_left
  · have hR : smB k1 n1 s1 y1 e1 k1 n1 s2 y2 e2 = false := by unfold smB; exact decide_eq_false (fun h => c (by simp [h]))
    rw [hR]
    have hs : (s1.toList == s2.toList) = false := by rw [beq_eq_false_iff_ne]; intro h; exact c (toList_inj h)
    clear hR c
    go_enter Tryz.func55, Tryz.ntmps55
    go_wp2_with fail
    obtain ⟨W1, hW1⟩ : ∃ W1, w.alloc (.cells #[.int .i64 k1, .float .f64 n1, .string s1, .bool y1, .int .i64 e1] 37 (0, 0)) = W1 := ⟨_, rfl⟩
    have hz1 : W1.heap.size = w.heap.size + 1 := by rw [← hW1]; simp
    have hA1 : VAt W1 w.heap.size k1 n1 s1 y1 e1 := ⟨by rw [← hW1]; exact heap_alloc_new w _⟩
    have hF1 : Fr noB w W1 := by rw [← hW1]; exact (Fr.refl noB w).alloc _
    obtain ⟨W0, hW0⟩ : ∃ W0, W1.alloc (.cells #[.int .i64 k1, .float .f64 n1, .string s2, .bool y2, .int .i64 e2] 37 (0, 0)) = W0 := ⟨_, rfl⟩
    have hB : VAt W0 (w.heap.size + 1) k1 n1 s2 y2 e2 := ⟨by rw [← hW0, ← hz1]; exact heap_alloc_new W1 _⟩
    have hF2 : Fr noB W1 W0 := by rw [← hW0]; exact (Fr.refl noB W1).alloc _
    have hA : VAt W0 w.heap.size k1 n1 s1 y1 e1 := hA1.fr hF2 id
    have HF0 : Hid (Fr noB w W0) := hF1.trans hF2
    rw [hW1, hW0]
    clear hW0 hW1 hF1 hF2 hA1 hz1
    have a0 := hA.c0
    have b0 := hB.c0
    have a1 := hA.c1
    have b1 := hB.c1
    have a2 := hA.c2
    have b2 := hB.c2
    have a3 := hA.c3
    have b3 := hB.c3
    have a4 := hA.c4
    have b4 := hB.c4
    clear hA hB
    go_quiet (fail)
    go_wp2_with fail
    go_ret
    exact ⟨rfl, HF0.out.drewN _⟩
  subst c
  by_cases c : y1 = y2
  rotate_left
  · have hR : smB k1 n1 s1 y1 e1 k1 n1 s1 y2 e2 = false := by unfold smB; exact decide_eq_false (fun h => c (by simp [h]))
    rw [hR]
    have hy : (y1 == y2) = false := by simpa using c
    clear hR c
    go_enter Tryz.func55, Tryz.ntmps55
    go_wp2_with fail
    obtain ⟨W1, hW1⟩ : ∃ W1, w.alloc (.cells #[.int .i64 k1, .float .f64 n1, .string s1, .bool y1, .int .i64 e1] 37 (0, 0)) = W1 := ⟨_, rfl⟩
    have hz1 : W1.heap.size = w.heap.size + 1 := by rw [← hW1]; simp
    have hA1 : VAt W1 w.heap.size k1 n1 s1 y1 e1 := ⟨by rw [← hW1]; exact heap_alloc_new w _⟩
    have hF1 : Fr noB w W1 := by rw [← hW1]; exact (Fr.refl noB w).alloc _
    obtain ⟨W0, hW0⟩ : ∃ W0, W1.alloc (.cells #[.int .i64 k1, .float .f64 n1, .string s1, .bool y2, .int .i64 e2] 37 (0, 0)) = W0 := ⟨_, rfl⟩
    have hB : VAt W0 (w.heap.size + 1) k1 n1 s1 y2 e2 := ⟨by rw [← hW0, ← hz1]; exact heap_alloc_new W1 _⟩
    have hF2 : Fr noB W1 W0 := by rw [← hW0]; exact (Fr.refl noB W1).alloc _
    have hA : VAt W0 w.heap.size k1 n1 s1 y1 e1 := hA1.fr hF2 id
    have HF0 : Hid (Fr noB w W0) := hF1.trans hF2
    rw [hW1, hW0]
    clear hW0 hW1 hF1 hF2 hA1 hz1
    have a0 := hA.c0
    have b0 := hB.c0
    have a1 := hA.c1
    have b1 := hB.c1
    have a2 := hA.c2
    have b2 := hB.c2
    have a3 := hA.c3
    have b3 := hB.c3
    have a4 := hA.c4
    have b4 := hB.c4
    clear hA hB
    go_quiet (fail)
    go_wp2_with fail
    go_ret
    exact ⟨rfl, HF0.out.drewN _⟩
  subst c
  by_cases c : e1 = e2
  rotate_left
  · have hR : smB k1 n1 s1 y1 e1 k1 n1 s1 y1 e2 = false := by unfold smB; exact decide_eq_false (fun h => c (by simp [h]))
    rw [hR]
    have he : (e1 == e2) = false := by simpa using c
    clear hR c
    go_enter Tryz.func55, Tryz.ntmps55
    go_wp2_with fail
    obtain ⟨W1, hW1⟩ : ∃ W1, w.alloc (.cells #[.int .i64 k1, .float .f64 n1, .string s1, .bool y1, .int .i64 e1] 37 (0, 0)) = W1 := ⟨_, rfl⟩
    have hz1 : W1.heap.size = w.heap.size + 1 := by rw [← hW1]; simp
    have hA1 : VAt W1 w.heap.size k1 n1 s1 y1 e1 := ⟨by rw [← hW1]; exact heap_alloc_new w _⟩
    have hF1 : Fr noB w W1 := by rw [← hW1]; exact (Fr.refl noB w).alloc _
    obtain ⟨W0, hW0⟩ : ∃ W0, W1.alloc (.cells #[.int .i64 k1, .float .f64 n1, .string s1, .bool y1, .int .i64 e2] 37 (0, 0)) = W0 := ⟨_, rfl⟩
    have hB : VAt W0 (w.heap.size + 1) k1 n1 s1 y1 e2 := ⟨by rw [← hW0, ← hz1]; exact heap_alloc_new W1 _⟩
    have hF2 : Fr noB W1 W0 := by rw [← hW0]; exact (Fr.refl noB W1).alloc _
    have hA : VAt W0 w.heap.size k1 n1 s1 y1 e1 := hA1.fr hF2 id
    have HF0 : Hid (Fr noB w W0) := hF1.trans hF2
    rw [hW1, hW0]
    clear hW0 hW1 hF1 hF2 hA1 hz1
    have a0 := hA.c0
    have b0 := hB.c0
    have a1 := hA.c1
    have b1 := hB.c1
    have a2 := hA.c2
    have b2 := hB.c2
    have a3 := hA.c3
    have b3 := hB.c3
    have a4 := hA.c4
    have b4 := hB.c4
    clear hA hB
    go_quiet (fail)
    go_wp2_with fail
    go_ret
    exact ⟨rfl, HF0.out.drewN _⟩
  subst c
  have hR : smB k1 n1 s1 y1 e1 k1 n1 s1 y1 e1 = true := smB_self _ _ _ _ _
  rw [hR]
  have hs : (s1.toList == s1.toList) = true := by simp
  clear hR
  go_enter Tryz.func55, Tryz.ntmps55
  go_wp2_with fail
  obtain ⟨W1, hW1⟩ : ∃ W1, w.alloc (.cells #[.int .i64 k1, .float .f64 n1, .string s1, .bool y1, .int .i64 e1] 37 (0, 0)) = W1 := ⟨_, rfl⟩
  have hz1 : W1.heap.size = w.heap.size + 1 := by rw [← hW1]; simp
  have hA1 : VAt W1 w.heap.size k1 n1 s1 y1 e1 := ⟨by rw [← hW1]; exact heap_alloc_new w _⟩
  have hF1 : Fr noB w W1 := by rw [← hW1]; exact (Fr.refl noB w).alloc _
  obtain ⟨W0, hW0⟩ : ∃ W0, W1.alloc (.cells #[.int .i64 k1, .float .f64 n1, .string s1, .bool y1, .int .i64 e1] 37 (0, 0)) = W0 := ⟨_, rfl⟩
  have hB : VAt W0 (w.heap.size + 1) k1 n1 s1 y1 e1 := ⟨by rw [← hW0, ← hz1]; exact heap_alloc_new W1 _⟩
  have hF2 : Fr noB W1 W0 := by rw [← hW0]; exact (Fr.refl noB W1).alloc _
  have hA : VAt W0 w.heap.size k1 n1 s1 y1 e1 := hA1.fr hF2 id
  have HF0 : Hid (Fr noB w W0) := hF1.trans hF2
  rw [hW1, hW0]
  clear hW0 hW1 hF1 hF2 hA1 hz1
  have a0 := hA.c0
  have b0 := hB.c0
  have a1 := hA.c1
  have b1 := hB.c1
  have a2 := hA.c2
  have b2 := hB.c2
  have a3 := hA.c3
  have b3 := hB.c3
  have a4 := hA.c4
  have b4 := hB.c4
  clear hA hB
  go_quiet (fail)
  go_wp2_with fail
  go_ret
  exact ⟨ret_bool (by simp), HF0.out.drewN _⟩
set_option maxRecDepth 100000 in
set_option maxHeartbeats 2000000 in
theorem rsame_any (k1 : Int) (n1 : Nat) (s1 : ByteArray) (y1 : Bool) (e1 : Int) (k2 : Int) (n2 : Nat) (s2 : ByteArray) (y2 : Bool) (e2 : Int) (w : World) :
    Calls Tryz.prog 12 #[(.agg #[.int .i64 k1, .float .f64 n1, .string s1, .bool y1, .int .i64 e1]), (.agg #[.int .i64 k2, .float .f64 n2, .string s2, .bool y2, .int .i64 e2])] w fun e w' => e = .returned (.bool (smB k1 n1 s1 y1 e1 k2 n2 s2 y2 e2)) ∧ Fr noB w w' := by
  have r1 : ∀ W, _ := run_bits n1
  have r2 : ∀ W, _ := run_bits n2
  by_cases c : k1 = k2
  rotate_left
  · have hR : smB k1 n1 s1 y1 e1 k2 n2 s2 y2 e2 = false := by unfold smB; exact decide_eq_false (fun h => c (by simp [h]))
    rw [hR]
    have hk : (k1 == k2) = false := by simpa using c
    clear hR c
    go_enter Tryz.func12, Tryz.ntmps12
    go_wp2_with fail
    obtain ⟨W1, hW1⟩ : ∃ W1, w.alloc (.cells #[.int .i64 k1, .float .f64 n1, .string s1, .bool y1, .int .i64 e1] 37 (0, 0)) = W1 := ⟨_, rfl⟩
    have hz1 : W1.heap.size = w.heap.size + 1 := by rw [← hW1]; simp
    have hA1 : VAt W1 w.heap.size k1 n1 s1 y1 e1 := ⟨by rw [← hW1]; exact heap_alloc_new w _⟩
    have hF1 : Fr noB w W1 := by rw [← hW1]; exact (Fr.refl noB w).alloc _
    obtain ⟨W0, hW0⟩ : ∃ W0, W1.alloc (.cells #[.int .i64 k2, .float .f64 n2, .string s2, .bool y2, .int .i64 e2] 37 (0, 0)) = W0 := ⟨_, rfl⟩
    have hB : VAt W0 (w.heap.size + 1) k2 n2 s2 y2 e2 := ⟨by rw [← hW0, ← hz1]; exact heap_alloc_new W1 _⟩
    have hF2 : Fr noB W1 W0 := by rw [← hW0]; exact (Fr.refl noB W1).alloc _
    have hA : VAt W0 w.heap.size k1 n1 s1 y1 e1 := hA1.fr hF2 id
    have HF0 : Hid (Fr noB w W0) := hF1.trans hF2
    rw [hW1, hW0]
    clear hW0 hW1 hF1 hF2 hA1 hz1
    have a0 := hA.c0
    have b0 := hB.c0
    have a1 := hA.c1
    have b1 := hB.c1
    have a2 := hA.c2
    have b2 := hB.c2
    have a3 := hA.c3
    have b3 := hB.c3
    have a4 := hA.c4
    have b4 := hB.c4
    clear hA hB
    go_quiet (fail)
    go_wp2_with fail
    go_ret
    exact ⟨rfl, HF0.out.drewN _⟩
  subst c
  by_cases c : s1 = s2
  rotate_left
  · have hR : smB k1 n1 s1 y1 e1 k1 n2 s2 y2 e2 = false := by unfold smB; exact decide_eq_false (fun h => c (by simp [h]))
    rw [hR]
    have hs : (s1.toList == s2.toList) = false := by rw [beq_eq_false_iff_ne]; intro h; exact c (toList_inj h)
    clear hR c
    go_enter Tryz.func12, Tryz.ntmps12
    go_wp2_with fail
    obtain ⟨W1, hW1⟩ : ∃ W1, w.alloc (.cells #[.int .i64 k1, .float .f64 n1, .string s1, .bool y1, .int .i64 e1] 37 (0, 0)) = W1 := ⟨_, rfl⟩
    have hz1 : W1.heap.size = w.heap.size + 1 := by rw [← hW1]; simp
    have hA1 : VAt W1 w.heap.size k1 n1 s1 y1 e1 := ⟨by rw [← hW1]; exact heap_alloc_new w _⟩
    have hF1 : Fr noB w W1 := by rw [← hW1]; exact (Fr.refl noB w).alloc _
    obtain ⟨W0, hW0⟩ : ∃ W0, W1.alloc (.cells #[.int .i64 k1, .float .f64 n2, .string s2, .bool y2, .int .i64 e2] 37 (0, 0)) = W0 := ⟨_, rfl⟩
    have hB : VAt W0 (w.heap.size + 1) k1 n2 s2 y2 e2 := ⟨by rw [← hW0, ← hz1]; exact heap_alloc_new W1 _⟩
    have hF2 : Fr noB W1 W0 := by rw [← hW0]; exact (Fr.refl noB W1).alloc _
    have hA : VAt W0 w.heap.size k1 n1 s1 y1 e1 := hA1.fr hF2 id
    have HF0 : Hid (Fr noB w W0) := hF1.trans hF2
    rw [hW1, hW0]
    clear hW0 hW1 hF1 hF2 hA1 hz1
    have a0 := hA.c0
    have b0 := hB.c0
    have a1 := hA.c1
    have b1 := hB.c1
    have a2 := hA.c2
    have b2 := hB.c2
    have a3 := hA.c3
    have b3 := hB.c3
    have a4 := hA.c4
    have b4 := hB.c4
    clear hA hB
    go_quiet (fail)
    go_wp2_with fail
    go_ret
    exact ⟨rfl, HF0.out.drewN _⟩
  subst c
  by_cases c : y1 = y2
  rotate_left
  · have hR : smB k1 n1 s1 y1 e1 k1 n2 s1 y2 e2 = false := by unfold smB; exact decide_eq_false (fun h => c (by simp [h]))
    rw [hR]
    have hy : (y1 == y2) = false := by simpa using c
    clear hR c
    go_enter Tryz.func12, Tryz.ntmps12
    go_wp2_with fail
    obtain ⟨W1, hW1⟩ : ∃ W1, w.alloc (.cells #[.int .i64 k1, .float .f64 n1, .string s1, .bool y1, .int .i64 e1] 37 (0, 0)) = W1 := ⟨_, rfl⟩
    have hz1 : W1.heap.size = w.heap.size + 1 := by rw [← hW1]; simp
    have hA1 : VAt W1 w.heap.size k1 n1 s1 y1 e1 := ⟨by rw [← hW1]; exact heap_alloc_new w _⟩
    have hF1 : Fr noB w W1 := by rw [← hW1]; exact (Fr.refl noB w).alloc _
    obtain ⟨W0, hW0⟩ : ∃ W0, W1.alloc (.cells #[.int .i64 k1, .float .f64 n2, .string s1, .bool y2, .int .i64 e2] 37 (0, 0)) = W0 := ⟨_, rfl⟩
    have hB : VAt W0 (w.heap.size + 1) k1 n2 s1 y2 e2 := ⟨by rw [← hW0, ← hz1]; exact heap_alloc_new W1 _⟩
    have hF2 : Fr noB W1 W0 := by rw [← hW0]; exact (Fr.refl noB W1).alloc _
    have hA : VAt W0 w.heap.size k1 n1 s1 y1 e1 := hA1.fr hF2 id
    have HF0 : Hid (Fr noB w W0) := hF1.trans hF2
    rw [hW1, hW0]
    clear hW0 hW1 hF1 hF2 hA1 hz1
    have a0 := hA.c0
    have b0 := hB.c0
    have a1 := hA.c1
    have b1 := hB.c1
    have a2 := hA.c2
    have b2 := hB.c2
    have a3 := hA.c3
    have b3 := hB.c3
    have a4 := hA.c4
    have b4 := hB.c4
    clear hA hB
    go_quiet (fail)
    go_wp2_with fail
    go_ret
    exact ⟨rfl, HF0.out.drewN _⟩
  subst c
  by_cases c : e1 = e2
  rotate_left
  · have hR : smB k1 n1 s1 y1 e1 k1 n2 s1 y1 e2 = false := by unfold smB; exact decide_eq_false (fun h => c (by simp [h]))
    rw [hR]
    have he : (e1 == e2) = false := by simpa using c
    clear hR c
    go_enter Tryz.func12, Tryz.ntmps12
    go_wp2_with fail
    obtain ⟨W1, hW1⟩ : ∃ W1, w.alloc (.cells #[.int .i64 k1, .float .f64 n1, .string s1, .bool y1, .int .i64 e1] 37 (0, 0)) = W1 := ⟨_, rfl⟩
    have hz1 : W1.heap.size = w.heap.size + 1 := by rw [← hW1]; simp
    have hA1 : VAt W1 w.heap.size k1 n1 s1 y1 e1 := ⟨by rw [← hW1]; exact heap_alloc_new w _⟩
    have hF1 : Fr noB w W1 := by rw [← hW1]; exact (Fr.refl noB w).alloc _
    obtain ⟨W0, hW0⟩ : ∃ W0, W1.alloc (.cells #[.int .i64 k1, .float .f64 n2, .string s1, .bool y1, .int .i64 e2] 37 (0, 0)) = W0 := ⟨_, rfl⟩
    have hB : VAt W0 (w.heap.size + 1) k1 n2 s1 y1 e2 := ⟨by rw [← hW0, ← hz1]; exact heap_alloc_new W1 _⟩
    have hF2 : Fr noB W1 W0 := by rw [← hW0]; exact (Fr.refl noB W1).alloc _
    have hA : VAt W0 w.heap.size k1 n1 s1 y1 e1 := hA1.fr hF2 id
    have HF0 : Hid (Fr noB w W0) := hF1.trans hF2
    rw [hW1, hW0]
    clear hW0 hW1 hF1 hF2 hA1 hz1
    have a0 := hA.c0
    have b0 := hB.c0
    have a1 := hA.c1
    have b1 := hB.c1
    have a2 := hA.c2
    have b2 := hB.c2
    have a3 := hA.c3
    have b3 := hB.c3
    have a4 := hA.c4
    have b4 := hB.c4
    clear hA hB
    go_quiet (fail)
    go_wp2_with fail
    go_ret
    exact ⟨rfl, HF0.out.drewN _⟩
  subst c
  by_cases c : n1 = n2
  rotate_left
  · have hR : smB k1 n1 s1 y1 e1 k1 n2 s1 y1 e1 = false := by unfold smB; exact decide_eq_false (fun h => c (by simp [h]))
    rw [hR]
    have hn : ((n1 : Int) == (n2 : Int)) = false := by rw [beq_eq_false_iff_ne]; omega
    clear hR c
    go_enter Tryz.func12, Tryz.ntmps12
    go_wp2_with fail
    obtain ⟨W1, hW1⟩ : ∃ W1, w.alloc (.cells #[.int .i64 k1, .float .f64 n1, .string s1, .bool y1, .int .i64 e1] 37 (0, 0)) = W1 := ⟨_, rfl⟩
    have hz1 : W1.heap.size = w.heap.size + 1 := by rw [← hW1]; simp
    have hA1 : VAt W1 w.heap.size k1 n1 s1 y1 e1 := ⟨by rw [← hW1]; exact heap_alloc_new w _⟩
    have hF1 : Fr noB w W1 := by rw [← hW1]; exact (Fr.refl noB w).alloc _
    obtain ⟨W0, hW0⟩ : ∃ W0, W1.alloc (.cells #[.int .i64 k1, .float .f64 n2, .string s1, .bool y1, .int .i64 e1] 37 (0, 0)) = W0 := ⟨_, rfl⟩
    have hB : VAt W0 (w.heap.size + 1) k1 n2 s1 y1 e1 := ⟨by rw [← hW0, ← hz1]; exact heap_alloc_new W1 _⟩
    have hF2 : Fr noB W1 W0 := by rw [← hW0]; exact (Fr.refl noB W1).alloc _
    have hA : VAt W0 w.heap.size k1 n1 s1 y1 e1 := hA1.fr hF2 id
    have HF0 : Hid (Fr noB w W0) := hF1.trans hF2
    rw [hW1, hW0]
    clear hW0 hW1 hF1 hF2 hA1 hz1
    have a0 := hA.c0
    have b0 := hB.c0
    have a1 := hA.c1
    have b1 := hB.c1
    have a2 := hA.c2
    have b2 := hB.c2
    have a3 := hA.c3
    have b3 := hB.c3
    have a4 := hA.c4
    have b4 := hB.c4
    clear hA hB
    go_quiet (fail)
    go_wp2_with fail
    go_ret
    exact ⟨rfl, HF0.out.drewN _⟩
  subst c
  have hR : smB k1 n1 s1 y1 e1 k1 n1 s1 y1 e1 = true := smB_self _ _ _ _ _
  rw [hR]
  have hs : (s1.toList == s1.toList) = true := by simp
  clear hR
  go_enter Tryz.func12, Tryz.ntmps12
  go_wp2_with fail
  obtain ⟨W1, hW1⟩ : ∃ W1, w.alloc (.cells #[.int .i64 k1, .float .f64 n1, .string s1, .bool y1, .int .i64 e1] 37 (0, 0)) = W1 := ⟨_, rfl⟩
  have hz1 : W1.heap.size = w.heap.size + 1 := by rw [← hW1]; simp
  have hA1 : VAt W1 w.heap.size k1 n1 s1 y1 e1 := ⟨by rw [← hW1]; exact heap_alloc_new w _⟩
  have hF1 : Fr noB w W1 := by rw [← hW1]; exact (Fr.refl noB w).alloc _
  obtain ⟨W0, hW0⟩ : ∃ W0, W1.alloc (.cells #[.int .i64 k1, .float .f64 n1, .string s1, .bool y1, .int .i64 e1] 37 (0, 0)) = W0 := ⟨_, rfl⟩
  have hB : VAt W0 (w.heap.size + 1) k1 n1 s1 y1 e1 := ⟨by rw [← hW0, ← hz1]; exact heap_alloc_new W1 _⟩
  have hF2 : Fr noB W1 W0 := by rw [← hW0]; exact (Fr.refl noB W1).alloc _
  have hA : VAt W0 w.heap.size k1 n1 s1 y1 e1 := hA1.fr hF2 id
  have HF0 : Hid (Fr noB w W0) := hF1.trans hF2
  rw [hW1, hW0]
  clear hW0 hW1 hF1 hF2 hA1 hz1
  have a0 := hA.c0
  have b0 := hB.c0
  have a1 := hA.c1
  have b1 := hB.c1
  have a2 := hA.c2
  have b2 := hB.c2
  have a3 := hA.c3
  have b3 := hB.c3
  have a4 := hA.c4
  have b4 := hB.c4
  clear hA hB
  go_quiet (fail)
  go_wp2_with fail
  go_ret
  exact ⟨ret_bool (by simp), HF0.out.drewN _⟩
#print axioms psame_any
#print axioms rsame_any
end Go.Proofs.YtpjbobbmldplbaaGreatDoor
