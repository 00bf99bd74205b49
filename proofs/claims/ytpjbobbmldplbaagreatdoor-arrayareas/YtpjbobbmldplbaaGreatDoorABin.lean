/- The operators' table: what binary(op) answers; numbers as operands. -/
import Derived.Test.YtpjbobbmldplbaaGreatDoorAVal
import Derived.Laws.Tables
namespace Go.Proofs.YtpjbobbmldplbaaGreatDoor
open Go.RowKit Ieee Go.Shelf
attribute [local go_sem] run_store_float

/-- An operator of two numbers, of two texts, of an order, as a function's value. -/
def numF (g : Nat) : Value := .func (.func 62) #[.func (.func g) #[] #[]] #[]
def txtF (g : Nat) : Value := .func (.func 68) #[.func (.func g) #[] #[]] #[]
def ordF (a b c : Bool) : Value := .func (.func 69) #[.agg #[.bool a, .bool b, .bool c]] #[]
def binT : Array Value := #[.nilFunc, .nilFunc, .nilFunc, .nilFunc, .nilFunc, .nilFunc, .nilFunc, .nilFunc, .nilFunc, .nilFunc, .nilFunc, .nilFunc, numF 61, numF 63, numF 64, numF 65, numF 66, txtF 67, ordF false true false, ordF true false true, ordF true false false, ordF true true false, ordF false false true, ordF false true true]
theorem binT_info : (Tryz.prog.info? 71).map (·.size) = some binT.size := by kernel_rfl
theorem binT_one : binT.all (·.oneCell') = true := by kernel_rfl
theorem bin_built : Tryz.prog.built 71 [(12, numF 61), (13, numF 63), (14, numF 64), (15, numF 65), (16, numF 66), (17, txtF 67), (18, ordF false true false), (19, ordF true false true), (20, ordF true false false), (21, ordF true true false), (22, ordF false false true), (23, ordF false true true)] = some binT := by kernel_rfl
theorem wpList_bin {ops : Array Oper} {rest : List Oper} {o : Oper} {a : Act} {w : World} {Q : Exit → Act → World → Prop} (hg : o.guard = none) (parts : Array (Nat × Operand)) (ho : o.op = .build 71 parts)
    (hp : (parts.map fun (i, x) => (i, a.eval x)).toList = [(12, numF 61), (13, numF 63), (14, numF 64), (15, numF 65), (16, numF 66), (17, txtF 67), (18, ordF false true false), (19, ordF true false true), (20, ordF true false false), (21, ordF true true false), (22, ordF false false true), (23, ordF false true true)])
    (h : wpList Tryz.prog ops Q rest (a.put o.dst (.agg binT)) w) : wpList Tryz.prog ops Q (o :: rest) a w := by
  refine wpList_build hg 71 parts ho (by rw [hp, bin_built]; rfl) ?_
  rw [hp, bin_built]
  exact h
set_option maxRecDepth 100000 in
set_option maxHeartbeats 1000000 in
theorem binaries_any (w : World) : Calls Tryz.prog 52 #[] w fun e w' => e = .returned (.agg binT) ∧ Fr noB w w' := by
  have hA : (w.alloc (.cells (Array.replicate 24 .nilFunc) 71 (0, 0))).heap[w.heap.size]? = some (.cells (Array.replicate 24 .nilFunc) 71 (0, 0)) := heap_alloc_new w _
  have hF : Fr noB w ((w.alloc (.cells (Array.replicate 24 .nilFunc) 71 (0, 0))).setRow w.heap.size binT) :=
    ⟨rfl, rfl, rfl, by simp [World.setRow], fun k hk _ => by rw [setRow_other _ _ _ _ (by omega), Below.heap_alloc _ _ _ hk]⟩
  have hB : ((w.alloc (.cells (Array.replicate 24 .nilFunc) 71 (0, 0))).setRow w.heap.size binT).heap[w.heap.size]? = some (.cells binT 71 (0, 0)) := setRow_heap _ _ _ _ _ _ hA
  have HA : Hid _ := hA
  have HF : Hid _ := hF
  have HB : Hid _ := hB
  clear hA hF hB
  go_enter Tryz.func52, Tryz.ntmps52
  go_wp2_with (first
    | (refine wpList_bin rfl _ rfl (by rfl) ?_)
    | (refine wpList_store_row rfl 71 (.tmp 0) (.tmp 19) rfl w.heap.size binT rfl rfl 71 _ HA.out binT_info rfl binT_one ?_))
  exact bodyPost_ret (results_cell_row Tryz.results52 _ _ w.heap.size 71 _ (0, 0) _ rfl HB.out Tryz.underlying71 rfl binT_info) rfl ⟨rfl, HF.out⟩
def binW (w1 : World) : World := (w1.alloc (.cells (Array.replicate 24 .nilFunc) 71 (0, 0))).setRow w1.heap.size binT
theorem binW_new (w1 : World) : (w1.alloc (.cells (Array.replicate 24 .nilFunc) 71 (0, 0))).heap[w1.heap.size]? = some (.cells (Array.replicate 24 .nilFunc) 71 (0, 0)) := heap_alloc_new w1 _
theorem bin_row (w1 : World) (k : Nat) (v : Value) (h : binT[k]? = some v) : (binW w1).cell? ⟨w1.heap.size, k, none⟩ = some v ∧ Fr noB w1 (binW w1) := by
  refine ⟨(cell_of_row _ _ _ _ _ _ (setRow_heap _ _ _ _ _ _ (binW_new w1))).trans h, rfl, rfl, rfl, by simp [binW, World.setRow], fun k hk _ => ?_⟩
  unfold binW
  rw [setRow_other _ _ _ _ (by omega), Below.heap_alloc _ _ _ hk]
theorem binT_num (k g : Nat) (h : (k = 12 ∧ g = 61) ∨ (k = 13 ∧ g = 63) ∨ (k = 14 ∧ g = 64) ∨ (k = 15 ∧ g = 65) ∨ (k = 16 ∧ g = 66)) : k < 24 ∧ binT[k]? = some (numF g) := by
  rcases h with ⟨rfl, rfl⟩ | ⟨rfl, rfl⟩ | ⟨rfl, rfl⟩ | ⟨rfl, rfl⟩ | ⟨rfl, rfl⟩ <;> exact ⟨by decide, rfl⟩
set_option maxRecDepth 100000 in
set_option maxHeartbeats 1000000 in
theorem binary_num (k g : Nat) (h : (k = 12 ∧ g = 61) ∨ (k = 13 ∧ g = 63) ∨ (k = 14 ∧ g = 64) ∨ (k = 15 ∧ g = 65) ∨ (k = 16 ∧ g = 66)) (w : World) :
    Calls Tryz.prog 45 #[.int .i64 (k : Int)] w fun e w' => e = .returned (numF g) ∧ Fr noB w w' := by
  obtain ⟨hk, hg⟩ := binT_num k g h
  have HB := binaries_any w
  clear h
  have h1 : decide ((k : Int) < 0) = false := by simp
  have h2 : decide (24 ≤ (k : Int)) = false := by simp; omega
  have hq : ∀ W, (binOp .eql 66 (.func (.func 62) #[.func (.func g) #[] #[]] #[]) .nilFunc).run Tryz.prog W = .ok (.bool false) W := fun W => by kernel_rfl
  go_enter Tryz.func45, Tryz.ntmps45
  go_wp2_with (first
    | (go_at_call 52; refine HB.mono ?_; rintro e w1 ⟨rfl, hF1⟩)
    | (refine wpList_store_row rfl 71 (.tmp 3) (.tmp 4) rfl w1.heap.size binT rfl rfl 71 _ (binW_new w1) binT_info rfl binT_one ?_
       have hR := bin_row w1 k _ hg
       change wpList _ _ _ _ _ (binW w1)
       generalize binW w1 = W2 at hR ⊢
       obtain ⟨hc, hF2⟩ := hR
       unfold numF at hc))
  go_ret
  exact ⟨rfl, hF1.trans hF2⟩
/-- A number as an operand. -/
theorem asnum_any (x : Nat) (hx : x < 18446744073709551616) (hf : finB x = true) (hz : x ≠ 9223372036854775808) (w : World) : Calls Tryz.prog 77 #[(.agg #[.int .i64 1, .float .f64 x, .string ⟨#[]⟩, .bool false, .int .i64 0])] w fun e w' => e = .returned (.agg #[.int .i64 1, .float .f64 x, .string ⟨#[]⟩, .bool false, .int .i64 0]) ∧ Fr noB w w' := by
  have e1 : rkK x = 1 := by simp [rkK, hf]
  have e2 : rkN x = x := by simp [rkN, hf]; omega
  have e3 : rkE x = 0 := by simp [rkE, hf]
  have HR := preckon_any x hx
  rw [e1, e2, e3] at HR
  have HA : Hid (VAt ((w.alloc (.cells #[.int .i64 1, .float .f64 x, .string ⟨#[]⟩, .bool false, .int .i64 0] 37 (0, 0))).alloc (.cells #[.int .i64 0, .float .f64 0, .string ⟨#[]⟩, .bool false, .int .i64 0] 37 (0, 0))) (w.heap.size + 1) 0 0 ⟨#[]⟩ false 0 ∧ Fr noB w ((w.alloc (.cells #[.int .i64 1, .float .f64 x, .string ⟨#[]⟩, .bool false, .int .i64 0] 37 (0, 0))).alloc (.cells #[.int .i64 0, .float .f64 0, .string ⟨#[]⟩, .bool false, .int .i64 0] 37 (0, 0)))) := ⟨⟨new1 _ _ _ (by simp)⟩, ((Fr.refl noB w).alloc _).alloc _⟩
  clear hf hz e1 e2 e3 hx
  go_enter Tryz.func77, Tryz.ntmps77
  go_wp2_with (first
    | (go_at_call 56; refine (HR _).mono ?_; rintro e w1 ⟨rfl, hF1⟩; have hO1 := HA.out.1.fr hF1 id; have hG1 := HA.out.2.trans hF1)
    | (refine wpList_store_val rfl (.tmp 2) (.tmp 12) rfl (w.heap.size + 1) 1 x ⟨#[]⟩ false 0 rfl rfl hO1 ?_; intro W hW hFW; have hG := hG1.new hFW (by simp)))
  trace_state
  exact bodyPost_ret (vret Tryz.results77 _ _ _ rfl hW) rfl ⟨rfl, hG⟩
set_option maxRecDepth 100000 in
theorem firstErr_none (k1 : Int) (n1 : Nat) (s1 : ByteArray) (y1 : Bool) (c1 : Int) (k2 : Int) (n2 : Nat) (s2 : ByteArray) (y2 : Bool) (c2 : Int) (h1 : k1 ≠ 4) (h2 : k2 ≠ 4) (w : World) :
    Calls Tryz.prog 78 #[(.agg #[.int .i64 k1, .float .f64 n1, .string s1, .bool y1, .int .i64 c1]), (.agg #[.int .i64 k2, .float .f64 n2, .string s2, .bool y2, .int .i64 c2])] w fun e w' => e = .returned (.tuple #[(.agg #[.int .i64 0, .float .f64 0, .string ⟨#[]⟩, .bool false, .int .i64 0]), .bool false]) ∧ Fr noB w w' := by
  go_enter Tryz.func78, Tryz.ntmps78
  go_wp2_with fail
  exact bodyPost_ret (vret2 Tryz.results78 _ _ (w.heap.size + 1 + 1) rfl rfl ⟨new1 _ _ _ (by simp)⟩) rfl ⟨rfl, (((Fr.refl noB w).alloc _).alloc _).alloc _⟩
#print axioms binary_num
end Go.Proofs.YtpjbobbmldplbaaGreatDoor
