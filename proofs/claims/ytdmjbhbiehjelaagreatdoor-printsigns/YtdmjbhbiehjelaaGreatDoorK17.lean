/- A reference within a token's block: stored and loaded. -/
import Derived.Test.YtdmjbhbiehjelaaGreatDoorK01
import Derived.Test.YtdmjbhbiehjelaaGreatDoorLEq
import Derived.Laws.Tables
namespace Go.Proofs.YtdmjbhbiehjelaaGreatDoor
open Go.RowKit

set_option maxRecDepth 100000 in
theorem set_ref12 {W : World} {B : Nat} (a0 a1 a2 a3 a4 a5 a6 a7 a8 a9 a10 a11 a12 a13 a14 a15 a16 : Value) (r1 r2 : ByteArray) (r3 r4 : Bool) (r5 r6 : Int) (r7 r8 : Bool) (r9 r10 : Int) (r11 r12 : Bool) (h0 : W.heap[B]? = some (.cells #[a0, a1, a2, a3, a4, a5, a6, a7, a8, a9, a10, a11, a12, a13, a14, a15, a16] 116 (0, 0))) : ((((((((((((W.setCell ⟨B, 3, none⟩ (.string r1)).setCell ⟨B, 4, none⟩ (.string r2)).setCell ⟨B, 5, none⟩ (.bool r3)).setCell ⟨B, 6, none⟩ (.bool r4)).setCell ⟨B, 7, none⟩ (.int .i64 r5)).setCell ⟨B, 8, none⟩ (.int .i64 r6)).setCell ⟨B, 9, none⟩ (.bool r7)).setCell ⟨B, 10, none⟩ (.bool r8)).setCell ⟨B, 11, none⟩ (.int .i64 r9)).setCell ⟨B, 12, none⟩ (.int .i64 r10)).setCell ⟨B, 13, none⟩ (.bool r11)).setCell ⟨B, 14, none⟩ (.bool r12)).heap[B]? = some (.cells #[a0, a1, a2, .string r1, .string r2, .bool r3, .bool r4, .int .i64 r5, .int .i64 r6, .bool r7, .bool r8, .int .i64 r9, .int .i64 r10, .bool r11, .bool r12, a15, a16] 116 (0, 0)) := by
  have h1 : (W.setCell ⟨B, 3, none⟩ (.string r1)).heap[B]? = some (.cells #[a0, a1, a2, .string r1, a4, a5, a6, a7, a8, a9, a10, a11, a12, a13, a14, a15, a16] 116 (0, 0)) := setOf 3 (.string r1) h0
  have h2 : ((W.setCell ⟨B, 3, none⟩ (.string r1)).setCell ⟨B, 4, none⟩ (.string r2)).heap[B]? = some (.cells #[a0, a1, a2, .string r1, .string r2, a5, a6, a7, a8, a9, a10, a11, a12, a13, a14, a15, a16] 116 (0, 0)) := setOf 4 (.string r2) h1
  have h3 : (((W.setCell ⟨B, 3, none⟩ (.string r1)).setCell ⟨B, 4, none⟩ (.string r2)).setCell ⟨B, 5, none⟩ (.bool r3)).heap[B]? = some (.cells #[a0, a1, a2, .string r1, .string r2, .bool r3, a6, a7, a8, a9, a10, a11, a12, a13, a14, a15, a16] 116 (0, 0)) := setOf 5 (.bool r3) h2
  have h4 : ((((W.setCell ⟨B, 3, none⟩ (.string r1)).setCell ⟨B, 4, none⟩ (.string r2)).setCell ⟨B, 5, none⟩ (.bool r3)).setCell ⟨B, 6, none⟩ (.bool r4)).heap[B]? = some (.cells #[a0, a1, a2, .string r1, .string r2, .bool r3, .bool r4, a7, a8, a9, a10, a11, a12, a13, a14, a15, a16] 116 (0, 0)) := setOf 6 (.bool r4) h3
  have h5 : (((((W.setCell ⟨B, 3, none⟩ (.string r1)).setCell ⟨B, 4, none⟩ (.string r2)).setCell ⟨B, 5, none⟩ (.bool r3)).setCell ⟨B, 6, none⟩ (.bool r4)).setCell ⟨B, 7, none⟩ (.int .i64 r5)).heap[B]? = some (.cells #[a0, a1, a2, .string r1, .string r2, .bool r3, .bool r4, .int .i64 r5, a8, a9, a10, a11, a12, a13, a14, a15, a16] 116 (0, 0)) := setOf 7 (.int .i64 r5) h4
  have h6 : ((((((W.setCell ⟨B, 3, none⟩ (.string r1)).setCell ⟨B, 4, none⟩ (.string r2)).setCell ⟨B, 5, none⟩ (.bool r3)).setCell ⟨B, 6, none⟩ (.bool r4)).setCell ⟨B, 7, none⟩ (.int .i64 r5)).setCell ⟨B, 8, none⟩ (.int .i64 r6)).heap[B]? = some (.cells #[a0, a1, a2, .string r1, .string r2, .bool r3, .bool r4, .int .i64 r5, .int .i64 r6, a9, a10, a11, a12, a13, a14, a15, a16] 116 (0, 0)) := setOf 8 (.int .i64 r6) h5
  have h7 : (((((((W.setCell ⟨B, 3, none⟩ (.string r1)).setCell ⟨B, 4, none⟩ (.string r2)).setCell ⟨B, 5, none⟩ (.bool r3)).setCell ⟨B, 6, none⟩ (.bool r4)).setCell ⟨B, 7, none⟩ (.int .i64 r5)).setCell ⟨B, 8, none⟩ (.int .i64 r6)).setCell ⟨B, 9, none⟩ (.bool r7)).heap[B]? = some (.cells #[a0, a1, a2, .string r1, .string r2, .bool r3, .bool r4, .int .i64 r5, .int .i64 r6, .bool r7, a10, a11, a12, a13, a14, a15, a16] 116 (0, 0)) := setOf 9 (.bool r7) h6
  have h8 : ((((((((W.setCell ⟨B, 3, none⟩ (.string r1)).setCell ⟨B, 4, none⟩ (.string r2)).setCell ⟨B, 5, none⟩ (.bool r3)).setCell ⟨B, 6, none⟩ (.bool r4)).setCell ⟨B, 7, none⟩ (.int .i64 r5)).setCell ⟨B, 8, none⟩ (.int .i64 r6)).setCell ⟨B, 9, none⟩ (.bool r7)).setCell ⟨B, 10, none⟩ (.bool r8)).heap[B]? = some (.cells #[a0, a1, a2, .string r1, .string r2, .bool r3, .bool r4, .int .i64 r5, .int .i64 r6, .bool r7, .bool r8, a11, a12, a13, a14, a15, a16] 116 (0, 0)) := setOf 10 (.bool r8) h7
  have h9 : (((((((((W.setCell ⟨B, 3, none⟩ (.string r1)).setCell ⟨B, 4, none⟩ (.string r2)).setCell ⟨B, 5, none⟩ (.bool r3)).setCell ⟨B, 6, none⟩ (.bool r4)).setCell ⟨B, 7, none⟩ (.int .i64 r5)).setCell ⟨B, 8, none⟩ (.int .i64 r6)).setCell ⟨B, 9, none⟩ (.bool r7)).setCell ⟨B, 10, none⟩ (.bool r8)).setCell ⟨B, 11, none⟩ (.int .i64 r9)).heap[B]? = some (.cells #[a0, a1, a2, .string r1, .string r2, .bool r3, .bool r4, .int .i64 r5, .int .i64 r6, .bool r7, .bool r8, .int .i64 r9, a12, a13, a14, a15, a16] 116 (0, 0)) := setOf 11 (.int .i64 r9) h8
  have h10 : ((((((((((W.setCell ⟨B, 3, none⟩ (.string r1)).setCell ⟨B, 4, none⟩ (.string r2)).setCell ⟨B, 5, none⟩ (.bool r3)).setCell ⟨B, 6, none⟩ (.bool r4)).setCell ⟨B, 7, none⟩ (.int .i64 r5)).setCell ⟨B, 8, none⟩ (.int .i64 r6)).setCell ⟨B, 9, none⟩ (.bool r7)).setCell ⟨B, 10, none⟩ (.bool r8)).setCell ⟨B, 11, none⟩ (.int .i64 r9)).setCell ⟨B, 12, none⟩ (.int .i64 r10)).heap[B]? = some (.cells #[a0, a1, a2, .string r1, .string r2, .bool r3, .bool r4, .int .i64 r5, .int .i64 r6, .bool r7, .bool r8, .int .i64 r9, .int .i64 r10, a13, a14, a15, a16] 116 (0, 0)) := setOf 12 (.int .i64 r10) h9
  have h11 : (((((((((((W.setCell ⟨B, 3, none⟩ (.string r1)).setCell ⟨B, 4, none⟩ (.string r2)).setCell ⟨B, 5, none⟩ (.bool r3)).setCell ⟨B, 6, none⟩ (.bool r4)).setCell ⟨B, 7, none⟩ (.int .i64 r5)).setCell ⟨B, 8, none⟩ (.int .i64 r6)).setCell ⟨B, 9, none⟩ (.bool r7)).setCell ⟨B, 10, none⟩ (.bool r8)).setCell ⟨B, 11, none⟩ (.int .i64 r9)).setCell ⟨B, 12, none⟩ (.int .i64 r10)).setCell ⟨B, 13, none⟩ (.bool r11)).heap[B]? = some (.cells #[a0, a1, a2, .string r1, .string r2, .bool r3, .bool r4, .int .i64 r5, .int .i64 r6, .bool r7, .bool r8, .int .i64 r9, .int .i64 r10, .bool r11, a14, a15, a16] 116 (0, 0)) := setOf 13 (.bool r11) h10
  have h12 : ((((((((((((W.setCell ⟨B, 3, none⟩ (.string r1)).setCell ⟨B, 4, none⟩ (.string r2)).setCell ⟨B, 5, none⟩ (.bool r3)).setCell ⟨B, 6, none⟩ (.bool r4)).setCell ⟨B, 7, none⟩ (.int .i64 r5)).setCell ⟨B, 8, none⟩ (.int .i64 r6)).setCell ⟨B, 9, none⟩ (.bool r7)).setCell ⟨B, 10, none⟩ (.bool r8)).setCell ⟨B, 11, none⟩ (.int .i64 r9)).setCell ⟨B, 12, none⟩ (.int .i64 r10)).setCell ⟨B, 13, none⟩ (.bool r11)).setCell ⟨B, 14, none⟩ (.bool r12)).heap[B]? = some (.cells #[a0, a1, a2, .string r1, .string r2, .bool r3, .bool r4, .int .i64 r5, .int .i64 r6, .bool r7, .bool r8, .int .i64 r9, .int .i64 r10, .bool r11, .bool r12, a15, a16] 116 (0, 0)) := setOf 14 (.bool r12) h11
  exact h12
set_option maxRecDepth 100000 in
set_option maxHeartbeats 1000000 in
theorem store_r3 {W : World} {B : Nat} (a0 a1 a2 a3 a4 a5 a6 a7 a8 a9 a10 a11 a12 a13 a14 a15 a16 : Value) (r1 r2 : ByteArray) (r3 r4 : Bool) (r5 r6 : Int) (r7 r8 : Bool) (r9 r10 : Int) (r11 r12 : Bool) (h0 : W.heap[B]? = some (.cells #[a0, a1, a2, a3, a4, a5, a6, a7, a8, a9, a10, a11, a12, a13, a14, a15, a16] 116 (0, 0))) : (Instr.storeAt 26 (.pointer (some ⟨B, 3, none⟩)) (.agg #[.string r1, .string r2, .bool r3, .bool r4, .int .i64 r5, .int .i64 r6, .bool r7, .bool r8, .int .i64 r9, .int .i64 r10, .bool r11, .bool r12])).run Tryz.prog W = .ok () ((((((((((((W.setCell ⟨B, 3, none⟩ (.string r1)).setCell ⟨B, 4, none⟩ (.string r2)).setCell ⟨B, 5, none⟩ (.bool r3)).setCell ⟨B, 6, none⟩ (.bool r4)).setCell ⟨B, 7, none⟩ (.int .i64 r5)).setCell ⟨B, 8, none⟩ (.int .i64 r6)).setCell ⟨B, 9, none⟩ (.bool r7)).setCell ⟨B, 10, none⟩ (.bool r8)).setCell ⟨B, 11, none⟩ (.int .i64 r9)).setCell ⟨B, 12, none⟩ (.int .i64 r10)).setCell ⟨B, 13, none⟩ (.bool r11)).setCell ⟨B, 14, none⟩ (.bool r12)) := by
  have hu := Tryz.underlying26
  have g3 := cellOf (o := 3) h0 rfl
  have g4 := cellOf (o := 4) h0 rfl
  have g5 := cellOf (o := 5) h0 rfl
  have g6 := cellOf (o := 6) h0 rfl
  have g7 := cellOf (o := 7) h0 rfl
  have g8 := cellOf (o := 8) h0 rfl
  have g9 := cellOf (o := 9) h0 rfl
  have g10 := cellOf (o := 10) h0 rfl
  have g11 := cellOf (o := 11) h0 rfl
  have g12 := cellOf (o := 12) h0 rfl
  have g13 := cellOf (o := 13) h0 rfl
  have g14 := cellOf (o := 14) h0 rfl
  have f3 := freeOf 3 h0
  have f4 := freeOf 4 h0
  have f5 := freeOf 5 h0
  have f6 := freeOf 6 h0
  have f7 := freeOf 7 h0
  have f8 := freeOf 8 h0
  have f9 := freeOf 9 h0
  have f10 := freeOf 10 h0
  have f11 := freeOf 11 h0
  have f12 := freeOf 12 h0
  have f13 := freeOf 13 h0
  have f14 := freeOf 14 h0
  simp [go_sem, g3, g4, g5, g6, g7, g8, g9, g10, g11, g12, g13, g14, f3, f4, f5, f6, f7, f8, f9, f10, f11, f12, f13, f14]
set_option maxRecDepth 100000 in
theorem lx_stored {W : World} {B : Nat} (a0 a1 a2 a3 a4 a5 a6 a7 a8 a9 a10 a11 a12 a13 a14 a15 a16 : Value) (r1 r2 : ByteArray) (r3 r4 : Bool) (r5 r6 : Int) (r7 r8 : Bool) (r9 r10 : Int) (r11 r12 : Bool) (h0 : W.heap[B]? = some (.cells #[a0, a1, a2, a3, a4, a5, a6, a7, a8, a9, a10, a11, a12, a13, a14, a15, a16] 116 (0, 0))) : ∃ W', (Instr.storeAt 26 (.pointer (some ⟨B, 3, none⟩)) (.agg #[.string r1, .string r2, .bool r3, .bool r4, .int .i64 r5, .int .i64 r6, .bool r7, .bool r8, .int .i64 r9, .int .i64 r10, .bool r11, .bool r12])).run Tryz.prog W = .ok () W' ∧ W'.heap[B]? = some (.cells #[a0, a1, a2, .string r1, .string r2, .bool r3, .bool r4, .int .i64 r5, .int .i64 r6, .bool r7, .bool r8, .int .i64 r9, .int .i64 r10, .bool r11, .bool r12, a15, a16] 116 (0, 0)) ∧ Fr (oneB B) W W' :=
  ⟨_, store_r3 a0 a1 a2 a3 a4 a5 a6 a7 a8 a9 a10 a11 a12 a13 a14 a15 a16 r1 r2 r3 r4 r5 r6 r7 r8 r9 r10 r11 r12 h0, set_ref12 a0 a1 a2 a3 a4 a5 a6 a7 a8 a9 a10 a11 a12 a13 a14 a15 a16 r1 r2 r3 r4 r5 r6 r7 r8 r9 r10 r11 r12 h0, (((((((((((((Fr.refl (oneB B) W).setOne 3 (.string r1)).setOne 4 (.string r2)).setOne 5 (.bool r3)).setOne 6 (.bool r4)).setOne 7 (.int .i64 r5)).setOne 8 (.int .i64 r6)).setOne 9 (.bool r7)).setOne 10 (.bool r8)).setOne 11 (.int .i64 r9)).setOne 12 (.int .i64 r10)).setOne 13 (.bool r11)).setOne 14 (.bool r12))⟩
theorem wpList_store_r3 {ops : Array Oper} {rest : List Oper} {o : Oper} {a : Act} {W : World} {Q : Exit → Act → World → Prop} (hgd : o.guard = none) (p x : Operand) (ho : o.op = .store 26 p x)
    (B : Nat) (a0 a1 a2 a3 a4 a5 a6 a7 a8 a9 a10 a11 a12 a13 a14 a15 a16 : Value) (r1 r2 : ByteArray) (r3 r4 : Bool) (r5 r6 : Int) (r7 r8 : Bool) (r9 r10 : Int) (r11 r12 : Bool) (hp : a.eval p = .pointer (some ⟨B, 3, none⟩)) (hx : a.eval x = (.agg #[.string r1, .string r2, .bool r3, .bool r4, .int .i64 r5, .int .i64 r6, .bool r7, .bool r8, .int .i64 r9, .int .i64 r10, .bool r11, .bool r12])) (h0 : W.heap[B]? = some (.cells #[a0, a1, a2, a3, a4, a5, a6, a7, a8, a9, a10, a11, a12, a13, a14, a15, a16] 116 (0, 0)))
    (h : ∀ W', W'.heap[B]? = some (.cells #[a0, a1, a2, .string r1, .string r2, .bool r3, .bool r4, .int .i64 r5, .int .i64 r6, .bool r7, .bool r8, .int .i64 r9, .int .i64 r10, .bool r11, .bool r12, a15, a16] 116 (0, 0)) → Fr (oneB B) W W' → wpList Tryz.prog ops Q rest (a.put o.dst undef) W') : wpList Tryz.prog ops Q (o :: rest) a W := by
  obtain ⟨W', e1, e2, e3⟩ := lx_stored a0 a1 a2 a3 a4 a5 a6 a7 a8 a9 a10 a11 a12 a13 a14 a15 a16 r1 r2 r3 r4 r5 r6 r7 r8 r9 r10 r11 r12 h0
  refine wpList_plain hgd fun K hK => ?_
  unfold Oper.wp execOp
  simp only [ho, hp, hx, Sem.run_bind, Sem.run_pure, e1, Result.andThen_ok]
  exact hK _ _ (h W' e2 e3)
set_option maxRecDepth 100000 in
set_option maxHeartbeats 1000000 in
theorem load_r3 {W : World} {B : Nat} (a0 a1 a2 a15 a16 : Value) (r1 r2 : ByteArray) (r3 r4 : Bool) (r5 r6 : Int) (r7 r8 : Bool) (r9 r10 : Int) (r11 r12 : Bool) (h0 : W.heap[B]? = some (.cells #[a0, a1, a2, .string r1, .string r2, .bool r3, .bool r4, .int .i64 r5, .int .i64 r6, .bool r7, .bool r8, .int .i64 r9, .int .i64 r10, .bool r11, .bool r12, a15, a16] 116 (0, 0))) : (Instr.loadAt 26 (.pointer (some ⟨B, 3, none⟩))).run Tryz.prog W = .ok (.agg #[.string r1, .string r2, .bool r3, .bool r4, .int .i64 r5, .int .i64 r6, .bool r7, .bool r8, .int .i64 r9, .int .i64 r10, .bool r11, .bool r12]) W := by
  have hu := Tryz.underlying26
  have g3 := cellOf (o := 3) h0 rfl
  have g4 := cellOf (o := 4) h0 rfl
  have g5 := cellOf (o := 5) h0 rfl
  have g6 := cellOf (o := 6) h0 rfl
  have g7 := cellOf (o := 7) h0 rfl
  have g8 := cellOf (o := 8) h0 rfl
  have g9 := cellOf (o := 9) h0 rfl
  have g10 := cellOf (o := 10) h0 rfl
  have g11 := cellOf (o := 11) h0 rfl
  have g12 := cellOf (o := 12) h0 rfl
  have g13 := cellOf (o := 13) h0 rfl
  have g14 := cellOf (o := 14) h0 rfl
  simp [go_sem, g3, g4, g5, g6, g7, g8, g9, g10, g11, g12, g13, g14]
theorem wpList_load_r3 {ops : Array Oper} {rest : List Oper} {o : Oper} {a : Act} {W : World} {Q : Exit → Act → World → Prop} (hgd : o.guard = none) (p : Operand) (ho : o.op = .load 26 p)
    (B : Nat) (a0 a1 a2 a15 a16 : Value) (r1 r2 : ByteArray) (r3 r4 : Bool) (r5 r6 : Int) (r7 r8 : Bool) (r9 r10 : Int) (r11 r12 : Bool) (hp : a.eval p = .pointer (some ⟨B, 3, none⟩)) (h0 : W.heap[B]? = some (.cells #[a0, a1, a2, .string r1, .string r2, .bool r3, .bool r4, .int .i64 r5, .int .i64 r6, .bool r7, .bool r8, .int .i64 r9, .int .i64 r10, .bool r11, .bool r12, a15, a16] 116 (0, 0)))
    (h : wpList Tryz.prog ops Q rest (a.put o.dst (.agg #[.string r1, .string r2, .bool r3, .bool r4, .int .i64 r5, .int .i64 r6, .bool r7, .bool r8, .int .i64 r9, .int .i64 r10, .bool r11, .bool r12])) W) : wpList Tryz.prog ops Q (o :: rest) a W := by
  refine wpList_plain hgd fun K hK => ?_
  unfold Oper.wp execOp
  simp only [ho, hp, Sem.run_bind, Sem.run_pure, load_r3 a0 a1 a2 a15 a16 r1 r2 r3 r4 r5 r6 r7 r8 r9 r10 r11 r12 h0, Result.andThen_ok]
  exact hK _ _ h
#print axioms lx_stored
#print axioms wpList_load_r3
end Go.Proofs.YtdmjbhbiehjelaaGreatDoor
/- A token that has nothing but what its kind has: the program's. -/
namespace Go.Proofs.YtdmjbhbiehjelaaGreatDoor
open Go.RowKit
theorem lx_store_float (P : Program) (w : World) (a : Addr) (m : Mode) (k : FloatKind) (x : Nat) : (store a (.float k x) m).run P w = stored P w a (.float k x) m := run_store P w a _ m rfl
attribute [local go_sem] lx_store_float

theorem info_lx : (Tryz.prog.info? 116).map (·.size) = some 17 := by kernel_rfl
theorem info_rf : (Tryz.prog.info? 26).map (·.size) = some 12 := by kernel_rfl
theorem lx_one (k : Int) (x : Nat) (t : ByteArray) (r1 r2 : ByteArray) (r3 r4 : Bool) (r5 r6 : Int) (r7 r8 : Bool) (r9 r10 : Int) (r11 r12 : Bool) (er pl : Int) : (#[.int .i64 k, .float .f64 x, .string t, .string r1, .string r2, .bool r3, .bool r4, .int .i64 r5, .int .i64 r6, .bool r7, .bool r8, .int .i64 r9, .int .i64 r10, .bool r11, .bool r12, .int .i64 er, .int .i64 pl] : Array Value).all (·.oneCell') = true := by kernel_rfl
theorem Fr.setRowX {S : Nat → Prop} {a w : World} (h : Fr S a w) (g : Nat) (hp : S g ∨ a.heap.size ≤ g) (cs : Array Value) : Fr S a (w.setRow g cs) :=
  ⟨h.os, h.tape, h.output, by simpa [World.setRow] using h.size, fun k hk hs => by
    rw [← h.block k hk hs]
    have hne : g ≠ k := fun e => by rcases hp with hp | hp; exact hs (e ▸ hp); omega
    simp [World.setRow, Array.getElem?_modify, hne]⟩
theorem heap_two (w : World) (A Z : Obj) : ((w.alloc A).alloc Z).heap[w.heap.size]? = some A ∧ ((w.alloc A).alloc Z).heap[w.heap.size + 1]? = some Z := by
  constructor
  · exact ((Fr.refl noB (w.alloc A)).alloc Z).obj (heap_alloc_new w A) id
  · have e : (w.alloc A).heap.size = w.heap.size + 1 := by simp
    rw [← e]
    exact heap_alloc_new _ _
set_option maxRecDepth 100000 in
set_option maxHeartbeats 2000000 in
theorem bare_lx1 (x : Nat) (t : ByteArray) (r1 r2 : ByteArray) (r3 r4 : Bool) (r5 r6 : Int) (r7 r8 : Bool) (r9 r10 : Int) (r11 r12 : Bool) (er pl : Int) (w : World) : Calls Tryz.prog 167 #[(.agg #[.int .i64 1, .float .f64 x, .string t, .string r1, .string r2, .bool r3, .bool r4, .int .i64 r5, .int .i64 r6, .bool r7, .bool r8, .int .i64 r9, .int .i64 r10, .bool r11, .bool r12, .int .i64 er, .int .i64 pl])] w fun e w' => e = .returned (.bool (Op.floatEq .f64 x x && t.toList.isEmpty && rz r1 r2 r3 r4 r5 r6 r7 r8 r9 r10 r11 r12 && (er == 0))) ∧ Fr noB w w' := by
  have HE := eq_lx1 1 x t r1 r2 r3 r4 r5 r6 r7 r8 r9 r10 r11 r12 er pl
  obtain ⟨B, hBB⟩ : ∃ B, (Op.floatEq .f64 x x && t.toList.isEmpty && rz r1 r2 r3 r4 r5 r6 r7 r8 r9 r10 r11 r12 && (er == 0)) = B := ⟨_, rfl⟩
  rw [hBB] at HE ⊢
  clear hBB
  have HZ : Hid _ := heap_two w (.cells #[.int .i64 1, .float .f64 x, .string t, .string r1, .string r2, .bool r3, .bool r4, .int .i64 r5, .int .i64 r6, .bool r7, .bool r8, .int .i64 r9, .int .i64 r10, .bool r11, .bool r12, .int .i64 er, .int .i64 pl] 116 (0, 0)) (.cells #[.int .i64 0, .float .f64 0, .string ⟨#[]⟩, .string ⟨#[]⟩, .string ⟨#[]⟩, .bool false, .bool false, .int .i64 0, .int .i64 0, .bool false, .bool false, .int .i64 0, .int .i64 0, .bool false, .bool false, .int .i64 0, .int .i64 0] 116 (0, 0))
  go_enter Tryz.func167, Tryz.ntmps167
  go_wp2_with (first
    | (refine wpList_store_row rfl 116 (.tmp 3) (.tmp 8) rfl (w.heap.size + 1) #[.int .i64 1, .float .f64 0, .string ⟨#[]⟩, .string ⟨#[]⟩, .string ⟨#[]⟩, .bool false, .bool false, .int .i64 0, .int .i64 0, .bool false, .bool false, .int .i64 0, .int .i64 0, .bool false, .bool false, .int .i64 0, .int .i64 pl] rfl rfl 116 _ HZ.out.2 info_lx rfl (lx_one _ _ _ _ _ _ _ _ _ _ _ _ _ _ _ _ _) ?_
       have hB1 := setRow_heap _ _ _ #[.int .i64 1, .float .f64 0, .string ⟨#[]⟩, .string ⟨#[]⟩, .string ⟨#[]⟩, .bool false, .bool false, .int .i64 0, .int .i64 0, .bool false, .bool false, .int .i64 0, .int .i64 0, .bool false, .bool false, .int .i64 0, .int .i64 pl] _ _ HZ.out.2
       have hA1 := (setRow_other ((w.alloc (.cells #[.int .i64 1, .float .f64 x, .string t, .string r1, .string r2, .bool r3, .bool r4, .int .i64 r5, .int .i64 r6, .bool r7, .bool r8, .int .i64 r9, .int .i64 r10, .bool r11, .bool r12, .int .i64 er, .int .i64 pl] 116 (0, 0))).alloc (.cells #[.int .i64 0, .float .f64 0, .string ⟨#[]⟩, .string ⟨#[]⟩, .string ⟨#[]⟩, .bool false, .bool false, .int .i64 0, .int .i64 0, .bool false, .bool false, .int .i64 0, .int .i64 0, .bool false, .bool false, .int .i64 0, .int .i64 0] 116 (0, 0))) (w.heap.size + 1) w.heap.size #[.int .i64 1, .float .f64 0, .string ⟨#[]⟩, .string ⟨#[]⟩, .string ⟨#[]⟩, .bool false, .bool false, .int .i64 0, .int .i64 0, .bool false, .bool false, .int .i64 0, .int .i64 0, .bool false, .bool false, .int .i64 0, .int .i64 pl] (by omega)).trans HZ.out.1
       have hF1 : Fr noB w (((w.alloc (.cells #[.int .i64 1, .float .f64 x, .string t, .string r1, .string r2, .bool r3, .bool r4, .int .i64 r5, .int .i64 r6, .bool r7, .bool r8, .int .i64 r9, .int .i64 r10, .bool r11, .bool r12, .int .i64 er, .int .i64 pl] 116 (0, 0))).alloc (.cells #[.int .i64 0, .float .f64 0, .string ⟨#[]⟩, .string ⟨#[]⟩, .string ⟨#[]⟩, .bool false, .bool false, .int .i64 0, .int .i64 0, .bool false, .bool false, .int .i64 0, .int .i64 0, .bool false, .bool false, .int .i64 0, .int .i64 0] 116 (0, 0))).setRow (w.heap.size + 1) #[.int .i64 1, .float .f64 0, .string ⟨#[]⟩, .string ⟨#[]⟩, .string ⟨#[]⟩, .bool false, .bool false, .int .i64 0, .int .i64 0, .bool false, .bool false, .int .i64 0, .int .i64 0, .bool false, .bool false, .int .i64 0, .int .i64 pl]) := (((Fr.refl noB w).alloc _).alloc _).setRowX _ (Or.inr (by omega)) _
       generalize ((w.alloc (.cells #[.int .i64 1, .float .f64 x, .string t, .string r1, .string r2, .bool r3, .bool r4, .int .i64 r5, .int .i64 r6, .bool r7, .bool r8, .int .i64 r9, .int .i64 r10, .bool r11, .bool r12, .int .i64 er, .int .i64 pl] 116 (0, 0))).alloc (.cells #[.int .i64 0, .float .f64 0, .string ⟨#[]⟩, .string ⟨#[]⟩, .string ⟨#[]⟩, .bool false, .bool false, .int .i64 0, .int .i64 0, .bool false, .bool false, .int .i64 0, .int .i64 0, .bool false, .bool false, .int .i64 0, .int .i64 0] 116 (0, 0))).setRow (w.heap.size + 1) #[.int .i64 1, .float .f64 0, .string ⟨#[]⟩, .string ⟨#[]⟩, .string ⟨#[]⟩, .bool false, .bool false, .int .i64 0, .int .i64 0, .bool false, .bool false, .int .i64 0, .int .i64 0, .bool false, .bool false, .int .i64 0, .int .i64 pl] = W1 at *
       have a0 := cellOf (o := 0) hA1 rfl
       have a1 := cellOf (o := 1) hA1 rfl
       have hO : Hid ((W1.setCell ⟨w.heap.size + 1, 1, none⟩ (.float .f64 x)).heap[w.heap.size + 1]? = some (.cells #[.int .i64 1, .float .f64 x, .string ⟨#[]⟩, .string ⟨#[]⟩, .string ⟨#[]⟩, .bool false, .bool false, .int .i64 0, .int .i64 0, .bool false, .bool false, .int .i64 0, .int .i64 0, .bool false, .bool false, .int .i64 0, .int .i64 pl] 116 (0, 0))) := setOf 1 (.float .f64 x) hB1
       have hI : Hid ((W1.setCell ⟨w.heap.size + 1, 1, none⟩ (.float .f64 x)).heap[w.heap.size]? = some (.cells #[.int .i64 1, .float .f64 x, .string t, .string r1, .string r2, .bool r3, .bool r4, .int .i64 r5, .int .i64 r6, .bool r7, .bool r8, .int .i64 r9, .int .i64 r10, .bool r11, .bool r12, .int .i64 er, .int .i64 pl] 116 (0, 0))) := (Below.heap_setCell _ _ _ _ (show w.heap.size ≠ w.heap.size + 1 by omega)).trans hA1
       have HF2 : Hid (Fr noB w (W1.setCell ⟨w.heap.size + 1, 1, none⟩ (.float .f64 x))) := hF1.setCell ⟨w.heap.size + 1, 1, none⟩ (Or.inr (show w.heap.size ≤ w.heap.size + 1 by omega)) _
       have b1 := cellOf (o := 1) hB1 rfl
       have g1 := freeOf 1 hB1
       clear hA1 hB1 hF1 HZ)
    | (refine wpList_load_row rfl 116 (.tmp 1) rfl w.heap.size rfl 116 #[.int .i64 1, .float .f64 x, .string t, .string r1, .string r2, .bool r3, .bool r4, .int .i64 r5, .int .i64 r6, .bool r7, .bool r8, .int .i64 r9, .int .i64 r10, .bool r11, .bool r12, .int .i64 er, .int .i64 pl] (0, 0) _ hI.out Tryz.underlying116 rfl info_lx ?_)
    | (refine wpList_load_row rfl 116 (.tmp 3) rfl (w.heap.size + 1) rfl 116 #[.int .i64 1, .float .f64 x, .string ⟨#[]⟩, .string ⟨#[]⟩, .string ⟨#[]⟩, .bool false, .bool false, .int .i64 0, .int .i64 0, .bool false, .bool false, .int .i64 0, .int .i64 0, .bool false, .bool false, .int .i64 0, .int .i64 pl] (0, 0) _ hO.out Tryz.underlying116 rfl info_lx ?_))
  go_ret
  exact ⟨rfl, HF2.out⟩
set_option maxRecDepth 100000 in
set_option maxHeartbeats 2000000 in
theorem bare_lx5 (x : Nat) (t : ByteArray) (r1 r2 : ByteArray) (r3 r4 : Bool) (r5 r6 : Int) (r7 r8 : Bool) (r9 r10 : Int) (r11 r12 : Bool) (er pl : Int) (w : World) : Calls Tryz.prog 167 #[(.agg #[.int .i64 5, .float .f64 x, .string t, .string r1, .string r2, .bool r3, .bool r4, .int .i64 r5, .int .i64 r6, .bool r7, .bool r8, .int .i64 r9, .int .i64 r10, .bool r11, .bool r12, .int .i64 er, .int .i64 pl])] w fun e w' => e = .returned (.bool (Op.floatEq .f64 x 0 && t.toList.isEmpty && rz r1 r2 r3 r4 r5 r6 r7 r8 r9 r10 r11 r12)) ∧ Fr noB w w' := by
  have HE := eq_lx5 5 x t r1 r2 r3 r4 r5 r6 r7 r8 r9 r10 r11 r12 er pl
  obtain ⟨B, hBB⟩ : ∃ B, (Op.floatEq .f64 x 0 && t.toList.isEmpty && rz r1 r2 r3 r4 r5 r6 r7 r8 r9 r10 r11 r12) = B := ⟨_, rfl⟩
  rw [hBB] at HE ⊢
  clear hBB
  have HZ : Hid _ := heap_two w (.cells #[.int .i64 5, .float .f64 x, .string t, .string r1, .string r2, .bool r3, .bool r4, .int .i64 r5, .int .i64 r6, .bool r7, .bool r8, .int .i64 r9, .int .i64 r10, .bool r11, .bool r12, .int .i64 er, .int .i64 pl] 116 (0, 0)) (.cells #[.int .i64 0, .float .f64 0, .string ⟨#[]⟩, .string ⟨#[]⟩, .string ⟨#[]⟩, .bool false, .bool false, .int .i64 0, .int .i64 0, .bool false, .bool false, .int .i64 0, .int .i64 0, .bool false, .bool false, .int .i64 0, .int .i64 0] 116 (0, 0))
  go_enter Tryz.func167, Tryz.ntmps167
  go_wp2_with (first
    | (refine wpList_store_row rfl 116 (.tmp 3) (.tmp 8) rfl (w.heap.size + 1) #[.int .i64 5, .float .f64 0, .string ⟨#[]⟩, .string ⟨#[]⟩, .string ⟨#[]⟩, .bool false, .bool false, .int .i64 0, .int .i64 0, .bool false, .bool false, .int .i64 0, .int .i64 0, .bool false, .bool false, .int .i64 0, .int .i64 pl] rfl rfl 116 _ HZ.out.2 info_lx rfl (lx_one _ _ _ _ _ _ _ _ _ _ _ _ _ _ _ _ _) ?_
       have hB1 := setRow_heap _ _ _ #[.int .i64 5, .float .f64 0, .string ⟨#[]⟩, .string ⟨#[]⟩, .string ⟨#[]⟩, .bool false, .bool false, .int .i64 0, .int .i64 0, .bool false, .bool false, .int .i64 0, .int .i64 0, .bool false, .bool false, .int .i64 0, .int .i64 pl] _ _ HZ.out.2
       have hA1 := (setRow_other ((w.alloc (.cells #[.int .i64 5, .float .f64 x, .string t, .string r1, .string r2, .bool r3, .bool r4, .int .i64 r5, .int .i64 r6, .bool r7, .bool r8, .int .i64 r9, .int .i64 r10, .bool r11, .bool r12, .int .i64 er, .int .i64 pl] 116 (0, 0))).alloc (.cells #[.int .i64 0, .float .f64 0, .string ⟨#[]⟩, .string ⟨#[]⟩, .string ⟨#[]⟩, .bool false, .bool false, .int .i64 0, .int .i64 0, .bool false, .bool false, .int .i64 0, .int .i64 0, .bool false, .bool false, .int .i64 0, .int .i64 0] 116 (0, 0))) (w.heap.size + 1) w.heap.size #[.int .i64 5, .float .f64 0, .string ⟨#[]⟩, .string ⟨#[]⟩, .string ⟨#[]⟩, .bool false, .bool false, .int .i64 0, .int .i64 0, .bool false, .bool false, .int .i64 0, .int .i64 0, .bool false, .bool false, .int .i64 0, .int .i64 pl] (by omega)).trans HZ.out.1
       have hF1 : Fr noB w (((w.alloc (.cells #[.int .i64 5, .float .f64 x, .string t, .string r1, .string r2, .bool r3, .bool r4, .int .i64 r5, .int .i64 r6, .bool r7, .bool r8, .int .i64 r9, .int .i64 r10, .bool r11, .bool r12, .int .i64 er, .int .i64 pl] 116 (0, 0))).alloc (.cells #[.int .i64 0, .float .f64 0, .string ⟨#[]⟩, .string ⟨#[]⟩, .string ⟨#[]⟩, .bool false, .bool false, .int .i64 0, .int .i64 0, .bool false, .bool false, .int .i64 0, .int .i64 0, .bool false, .bool false, .int .i64 0, .int .i64 0] 116 (0, 0))).setRow (w.heap.size + 1) #[.int .i64 5, .float .f64 0, .string ⟨#[]⟩, .string ⟨#[]⟩, .string ⟨#[]⟩, .bool false, .bool false, .int .i64 0, .int .i64 0, .bool false, .bool false, .int .i64 0, .int .i64 0, .bool false, .bool false, .int .i64 0, .int .i64 pl]) := (((Fr.refl noB w).alloc _).alloc _).setRowX _ (Or.inr (by omega)) _
       generalize ((w.alloc (.cells #[.int .i64 5, .float .f64 x, .string t, .string r1, .string r2, .bool r3, .bool r4, .int .i64 r5, .int .i64 r6, .bool r7, .bool r8, .int .i64 r9, .int .i64 r10, .bool r11, .bool r12, .int .i64 er, .int .i64 pl] 116 (0, 0))).alloc (.cells #[.int .i64 0, .float .f64 0, .string ⟨#[]⟩, .string ⟨#[]⟩, .string ⟨#[]⟩, .bool false, .bool false, .int .i64 0, .int .i64 0, .bool false, .bool false, .int .i64 0, .int .i64 0, .bool false, .bool false, .int .i64 0, .int .i64 0] 116 (0, 0))).setRow (w.heap.size + 1) #[.int .i64 5, .float .f64 0, .string ⟨#[]⟩, .string ⟨#[]⟩, .string ⟨#[]⟩, .bool false, .bool false, .int .i64 0, .int .i64 0, .bool false, .bool false, .int .i64 0, .int .i64 0, .bool false, .bool false, .int .i64 0, .int .i64 pl] = W1 at *
       have a0 := cellOf (o := 0) hA1 rfl
       have a15 := cellOf (o := 15) hA1 rfl
       have hO : Hid ((W1.setCell ⟨w.heap.size + 1, 15, none⟩ (.int .i64 er)).heap[w.heap.size + 1]? = some (.cells #[.int .i64 5, .float .f64 0, .string ⟨#[]⟩, .string ⟨#[]⟩, .string ⟨#[]⟩, .bool false, .bool false, .int .i64 0, .int .i64 0, .bool false, .bool false, .int .i64 0, .int .i64 0, .bool false, .bool false, .int .i64 er, .int .i64 pl] 116 (0, 0))) := setOf 15 (.int .i64 er) hB1
       have hI : Hid ((W1.setCell ⟨w.heap.size + 1, 15, none⟩ (.int .i64 er)).heap[w.heap.size]? = some (.cells #[.int .i64 5, .float .f64 x, .string t, .string r1, .string r2, .bool r3, .bool r4, .int .i64 r5, .int .i64 r6, .bool r7, .bool r8, .int .i64 r9, .int .i64 r10, .bool r11, .bool r12, .int .i64 er, .int .i64 pl] 116 (0, 0))) := (Below.heap_setCell _ _ _ _ (show w.heap.size ≠ w.heap.size + 1 by omega)).trans hA1
       have HF2 : Hid (Fr noB w (W1.setCell ⟨w.heap.size + 1, 15, none⟩ (.int .i64 er))) := hF1.setCell ⟨w.heap.size + 1, 15, none⟩ (Or.inr (show w.heap.size ≤ w.heap.size + 1 by omega)) _
       have b15 := cellOf (o := 15) hB1 rfl
       have g15 := freeOf 15 hB1
       clear hA1 hB1 hF1 HZ)
    | (refine wpList_load_row rfl 116 (.tmp 1) rfl w.heap.size rfl 116 #[.int .i64 5, .float .f64 x, .string t, .string r1, .string r2, .bool r3, .bool r4, .int .i64 r5, .int .i64 r6, .bool r7, .bool r8, .int .i64 r9, .int .i64 r10, .bool r11, .bool r12, .int .i64 er, .int .i64 pl] (0, 0) _ hI.out Tryz.underlying116 rfl info_lx ?_)
    | (refine wpList_load_row rfl 116 (.tmp 3) rfl (w.heap.size + 1) rfl 116 #[.int .i64 5, .float .f64 0, .string ⟨#[]⟩, .string ⟨#[]⟩, .string ⟨#[]⟩, .bool false, .bool false, .int .i64 0, .int .i64 0, .bool false, .bool false, .int .i64 0, .int .i64 0, .bool false, .bool false, .int .i64 er, .int .i64 pl] (0, 0) _ hO.out Tryz.underlying116 rfl info_lx ?_))
  go_ret
  exact ⟨rfl, HF2.out⟩
set_option maxRecDepth 100000 in
set_option maxHeartbeats 2000000 in
theorem bare_lx0 (k : Int) (x : Nat) (t : ByteArray) (r1 r2 : ByteArray) (r3 r4 : Bool) (r5 r6 : Int) (r7 r8 : Bool) (r9 r10 : Int) (r11 r12 : Bool) (er pl : Int) (w : World) (k1 : ¬ k = 1) (k3 : ¬ k = 3) (k5 : ¬ k = 5) : Calls Tryz.prog 167 #[(.agg #[.int .i64 k, .float .f64 x, .string t, .string r1, .string r2, .bool r3, .bool r4, .int .i64 r5, .int .i64 r6, .bool r7, .bool r8, .int .i64 r9, .int .i64 r10, .bool r11, .bool r12, .int .i64 er, .int .i64 pl])] w fun e w' => e = .returned (.bool (Op.floatEq .f64 x 0 && rz r1 r2 r3 r4 r5 r6 r7 r8 r9 r10 r11 r12 && (er == 0))) ∧ Fr noB w w' := by
  have HE := eq_lx0 k x t r1 r2 r3 r4 r5 r6 r7 r8 r9 r10 r11 r12 er pl
  obtain ⟨B, hBB⟩ : ∃ B, (Op.floatEq .f64 x 0 && rz r1 r2 r3 r4 r5 r6 r7 r8 r9 r10 r11 r12 && (er == 0)) = B := ⟨_, rfl⟩
  rw [hBB] at HE ⊢
  clear hBB
  have HZ : Hid _ := heap_two w (.cells #[.int .i64 k, .float .f64 x, .string t, .string r1, .string r2, .bool r3, .bool r4, .int .i64 r5, .int .i64 r6, .bool r7, .bool r8, .int .i64 r9, .int .i64 r10, .bool r11, .bool r12, .int .i64 er, .int .i64 pl] 116 (0, 0)) (.cells #[.int .i64 0, .float .f64 0, .string ⟨#[]⟩, .string ⟨#[]⟩, .string ⟨#[]⟩, .bool false, .bool false, .int .i64 0, .int .i64 0, .bool false, .bool false, .int .i64 0, .int .i64 0, .bool false, .bool false, .int .i64 0, .int .i64 0] 116 (0, 0))
  go_enter Tryz.func167, Tryz.ntmps167
  go_wp2_with (first
    | (refine wpList_store_row rfl 116 (.tmp 3) (.tmp 8) rfl (w.heap.size + 1) #[.int .i64 k, .float .f64 0, .string ⟨#[]⟩, .string ⟨#[]⟩, .string ⟨#[]⟩, .bool false, .bool false, .int .i64 0, .int .i64 0, .bool false, .bool false, .int .i64 0, .int .i64 0, .bool false, .bool false, .int .i64 0, .int .i64 pl] rfl rfl 116 _ HZ.out.2 info_lx rfl (lx_one _ _ _ _ _ _ _ _ _ _ _ _ _ _ _ _ _) ?_
       have hB1 := setRow_heap _ _ _ #[.int .i64 k, .float .f64 0, .string ⟨#[]⟩, .string ⟨#[]⟩, .string ⟨#[]⟩, .bool false, .bool false, .int .i64 0, .int .i64 0, .bool false, .bool false, .int .i64 0, .int .i64 0, .bool false, .bool false, .int .i64 0, .int .i64 pl] _ _ HZ.out.2
       have hA1 := (setRow_other ((w.alloc (.cells #[.int .i64 k, .float .f64 x, .string t, .string r1, .string r2, .bool r3, .bool r4, .int .i64 r5, .int .i64 r6, .bool r7, .bool r8, .int .i64 r9, .int .i64 r10, .bool r11, .bool r12, .int .i64 er, .int .i64 pl] 116 (0, 0))).alloc (.cells #[.int .i64 0, .float .f64 0, .string ⟨#[]⟩, .string ⟨#[]⟩, .string ⟨#[]⟩, .bool false, .bool false, .int .i64 0, .int .i64 0, .bool false, .bool false, .int .i64 0, .int .i64 0, .bool false, .bool false, .int .i64 0, .int .i64 0] 116 (0, 0))) (w.heap.size + 1) w.heap.size #[.int .i64 k, .float .f64 0, .string ⟨#[]⟩, .string ⟨#[]⟩, .string ⟨#[]⟩, .bool false, .bool false, .int .i64 0, .int .i64 0, .bool false, .bool false, .int .i64 0, .int .i64 0, .bool false, .bool false, .int .i64 0, .int .i64 pl] (by omega)).trans HZ.out.1
       have hF1 : Fr noB w (((w.alloc (.cells #[.int .i64 k, .float .f64 x, .string t, .string r1, .string r2, .bool r3, .bool r4, .int .i64 r5, .int .i64 r6, .bool r7, .bool r8, .int .i64 r9, .int .i64 r10, .bool r11, .bool r12, .int .i64 er, .int .i64 pl] 116 (0, 0))).alloc (.cells #[.int .i64 0, .float .f64 0, .string ⟨#[]⟩, .string ⟨#[]⟩, .string ⟨#[]⟩, .bool false, .bool false, .int .i64 0, .int .i64 0, .bool false, .bool false, .int .i64 0, .int .i64 0, .bool false, .bool false, .int .i64 0, .int .i64 0] 116 (0, 0))).setRow (w.heap.size + 1) #[.int .i64 k, .float .f64 0, .string ⟨#[]⟩, .string ⟨#[]⟩, .string ⟨#[]⟩, .bool false, .bool false, .int .i64 0, .int .i64 0, .bool false, .bool false, .int .i64 0, .int .i64 0, .bool false, .bool false, .int .i64 0, .int .i64 pl]) := (((Fr.refl noB w).alloc _).alloc _).setRowX _ (Or.inr (by omega)) _
       generalize ((w.alloc (.cells #[.int .i64 k, .float .f64 x, .string t, .string r1, .string r2, .bool r3, .bool r4, .int .i64 r5, .int .i64 r6, .bool r7, .bool r8, .int .i64 r9, .int .i64 r10, .bool r11, .bool r12, .int .i64 er, .int .i64 pl] 116 (0, 0))).alloc (.cells #[.int .i64 0, .float .f64 0, .string ⟨#[]⟩, .string ⟨#[]⟩, .string ⟨#[]⟩, .bool false, .bool false, .int .i64 0, .int .i64 0, .bool false, .bool false, .int .i64 0, .int .i64 0, .bool false, .bool false, .int .i64 0, .int .i64 0] 116 (0, 0))).setRow (w.heap.size + 1) #[.int .i64 k, .float .f64 0, .string ⟨#[]⟩, .string ⟨#[]⟩, .string ⟨#[]⟩, .bool false, .bool false, .int .i64 0, .int .i64 0, .bool false, .bool false, .int .i64 0, .int .i64 0, .bool false, .bool false, .int .i64 0, .int .i64 pl] = W1 at *
       have a0 := cellOf (o := 0) hA1 rfl
       have a2 := cellOf (o := 2) hA1 rfl
       have hO : Hid ((W1.setCell ⟨w.heap.size + 1, 2, none⟩ (.string t)).heap[w.heap.size + 1]? = some (.cells #[.int .i64 k, .float .f64 0, .string t, .string ⟨#[]⟩, .string ⟨#[]⟩, .bool false, .bool false, .int .i64 0, .int .i64 0, .bool false, .bool false, .int .i64 0, .int .i64 0, .bool false, .bool false, .int .i64 0, .int .i64 pl] 116 (0, 0))) := setOf 2 (.string t) hB1
       have hI : Hid ((W1.setCell ⟨w.heap.size + 1, 2, none⟩ (.string t)).heap[w.heap.size]? = some (.cells #[.int .i64 k, .float .f64 x, .string t, .string r1, .string r2, .bool r3, .bool r4, .int .i64 r5, .int .i64 r6, .bool r7, .bool r8, .int .i64 r9, .int .i64 r10, .bool r11, .bool r12, .int .i64 er, .int .i64 pl] 116 (0, 0))) := (Below.heap_setCell _ _ _ _ (show w.heap.size ≠ w.heap.size + 1 by omega)).trans hA1
       have HF2 : Hid (Fr noB w (W1.setCell ⟨w.heap.size + 1, 2, none⟩ (.string t))) := hF1.setCell ⟨w.heap.size + 1, 2, none⟩ (Or.inr (show w.heap.size ≤ w.heap.size + 1 by omega)) _
       have b2 := cellOf (o := 2) hB1 rfl
       have g2 := freeOf 2 hB1
       clear hA1 hB1 hF1 HZ)
    | (refine wpList_load_row rfl 116 (.tmp 1) rfl w.heap.size rfl 116 #[.int .i64 k, .float .f64 x, .string t, .string r1, .string r2, .bool r3, .bool r4, .int .i64 r5, .int .i64 r6, .bool r7, .bool r8, .int .i64 r9, .int .i64 r10, .bool r11, .bool r12, .int .i64 er, .int .i64 pl] (0, 0) _ hI.out Tryz.underlying116 rfl info_lx ?_)
    | (refine wpList_load_row rfl 116 (.tmp 3) rfl (w.heap.size + 1) rfl 116 #[.int .i64 k, .float .f64 0, .string t, .string ⟨#[]⟩, .string ⟨#[]⟩, .bool false, .bool false, .int .i64 0, .int .i64 0, .bool false, .bool false, .int .i64 0, .int .i64 0, .bool false, .bool false, .int .i64 0, .int .i64 pl] (0, 0) _ hO.out Tryz.underlying116 rfl info_lx ?_))
  go_ret
  exact ⟨rfl, HF2.out⟩
set_option maxRecDepth 100000 in
set_option maxHeartbeats 2000000 in
theorem bare_lx3 (x : Nat) (t : ByteArray) (r1 r2 : ByteArray) (r3 r4 : Bool) (r5 r6 : Int) (r7 r8 : Bool) (r9 r10 : Int) (r11 r12 : Bool) (er pl : Int) (w : World) : Calls Tryz.prog 167 #[(.agg #[.int .i64 3, .float .f64 x, .string t, .string r1, .string r2, .bool r3, .bool r4, .int .i64 r5, .int .i64 r6, .bool r7, .bool r8, .int .i64 r9, .int .i64 r10, .bool r11, .bool r12, .int .i64 er, .int .i64 pl])] w fun e w' => e = .returned (.bool (Op.floatEq .f64 x 0 && t.toList.isEmpty && (er == 0))) ∧ Fr noB w w' := by
  have HE := eq_lx3 3 x t r1 r2 r3 r4 r5 r6 r7 r8 r9 r10 r11 r12 er pl
  obtain ⟨B, hBB⟩ : ∃ B, (Op.floatEq .f64 x 0 && t.toList.isEmpty && (er == 0)) = B := ⟨_, rfl⟩
  rw [hBB] at HE ⊢
  clear hBB
  have HZ : Hid _ := heap_two w (.cells #[.int .i64 3, .float .f64 x, .string t, .string r1, .string r2, .bool r3, .bool r4, .int .i64 r5, .int .i64 r6, .bool r7, .bool r8, .int .i64 r9, .int .i64 r10, .bool r11, .bool r12, .int .i64 er, .int .i64 pl] 116 (0, 0)) (.cells #[.int .i64 0, .float .f64 0, .string ⟨#[]⟩, .string ⟨#[]⟩, .string ⟨#[]⟩, .bool false, .bool false, .int .i64 0, .int .i64 0, .bool false, .bool false, .int .i64 0, .int .i64 0, .bool false, .bool false, .int .i64 0, .int .i64 0] 116 (0, 0))
  go_enter Tryz.func167, Tryz.ntmps167
  go_wp2_with (first
    | (refine wpList_store_row rfl 116 (.tmp 3) (.tmp 8) rfl (w.heap.size + 1) #[.int .i64 3, .float .f64 0, .string ⟨#[]⟩, .string ⟨#[]⟩, .string ⟨#[]⟩, .bool false, .bool false, .int .i64 0, .int .i64 0, .bool false, .bool false, .int .i64 0, .int .i64 0, .bool false, .bool false, .int .i64 0, .int .i64 pl] rfl rfl 116 _ HZ.out.2 info_lx rfl (lx_one _ _ _ _ _ _ _ _ _ _ _ _ _ _ _ _ _) ?_
       have hB1 := setRow_heap _ _ _ #[.int .i64 3, .float .f64 0, .string ⟨#[]⟩, .string ⟨#[]⟩, .string ⟨#[]⟩, .bool false, .bool false, .int .i64 0, .int .i64 0, .bool false, .bool false, .int .i64 0, .int .i64 0, .bool false, .bool false, .int .i64 0, .int .i64 pl] _ _ HZ.out.2
       have hA1 := (setRow_other ((w.alloc (.cells #[.int .i64 3, .float .f64 x, .string t, .string r1, .string r2, .bool r3, .bool r4, .int .i64 r5, .int .i64 r6, .bool r7, .bool r8, .int .i64 r9, .int .i64 r10, .bool r11, .bool r12, .int .i64 er, .int .i64 pl] 116 (0, 0))).alloc (.cells #[.int .i64 0, .float .f64 0, .string ⟨#[]⟩, .string ⟨#[]⟩, .string ⟨#[]⟩, .bool false, .bool false, .int .i64 0, .int .i64 0, .bool false, .bool false, .int .i64 0, .int .i64 0, .bool false, .bool false, .int .i64 0, .int .i64 0] 116 (0, 0))) (w.heap.size + 1) w.heap.size #[.int .i64 3, .float .f64 0, .string ⟨#[]⟩, .string ⟨#[]⟩, .string ⟨#[]⟩, .bool false, .bool false, .int .i64 0, .int .i64 0, .bool false, .bool false, .int .i64 0, .int .i64 0, .bool false, .bool false, .int .i64 0, .int .i64 pl] (by omega)).trans HZ.out.1
       have hF1 : Fr noB w (((w.alloc (.cells #[.int .i64 3, .float .f64 x, .string t, .string r1, .string r2, .bool r3, .bool r4, .int .i64 r5, .int .i64 r6, .bool r7, .bool r8, .int .i64 r9, .int .i64 r10, .bool r11, .bool r12, .int .i64 er, .int .i64 pl] 116 (0, 0))).alloc (.cells #[.int .i64 0, .float .f64 0, .string ⟨#[]⟩, .string ⟨#[]⟩, .string ⟨#[]⟩, .bool false, .bool false, .int .i64 0, .int .i64 0, .bool false, .bool false, .int .i64 0, .int .i64 0, .bool false, .bool false, .int .i64 0, .int .i64 0] 116 (0, 0))).setRow (w.heap.size + 1) #[.int .i64 3, .float .f64 0, .string ⟨#[]⟩, .string ⟨#[]⟩, .string ⟨#[]⟩, .bool false, .bool false, .int .i64 0, .int .i64 0, .bool false, .bool false, .int .i64 0, .int .i64 0, .bool false, .bool false, .int .i64 0, .int .i64 pl]) := (((Fr.refl noB w).alloc _).alloc _).setRowX _ (Or.inr (by omega)) _
       generalize ((w.alloc (.cells #[.int .i64 3, .float .f64 x, .string t, .string r1, .string r2, .bool r3, .bool r4, .int .i64 r5, .int .i64 r6, .bool r7, .bool r8, .int .i64 r9, .int .i64 r10, .bool r11, .bool r12, .int .i64 er, .int .i64 pl] 116 (0, 0))).alloc (.cells #[.int .i64 0, .float .f64 0, .string ⟨#[]⟩, .string ⟨#[]⟩, .string ⟨#[]⟩, .bool false, .bool false, .int .i64 0, .int .i64 0, .bool false, .bool false, .int .i64 0, .int .i64 0, .bool false, .bool false, .int .i64 0, .int .i64 0] 116 (0, 0))).setRow (w.heap.size + 1) #[.int .i64 3, .float .f64 0, .string ⟨#[]⟩, .string ⟨#[]⟩, .string ⟨#[]⟩, .bool false, .bool false, .int .i64 0, .int .i64 0, .bool false, .bool false, .int .i64 0, .int .i64 0, .bool false, .bool false, .int .i64 0, .int .i64 pl] = W1 at *
       have a0 := cellOf (o := 0) hA1 rfl
       
       have HA : Hid _ := hA1
       have HB : Hid _ := hB1
       have HF : Hid _ := hF1
       clear hA1 hB1 hF1 HZ)
    | (refine wpList_load_r3 rfl (.tmp 21) rfl w.heap.size (.int .i64 3) (.float .f64 x) (.string t) (.int .i64 er) (.int .i64 pl) r1 r2 r3 r4 r5 r6 r7 r8 r9 r10 r11 r12 rfl HA.out ?_)
    | (refine wpList_store_r3 rfl (.tmp 23) (.tmp 22) rfl (w.heap.size + 1) (.int .i64 3) (.float .f64 0) (.string ⟨#[]⟩) (.string ⟨#[]⟩) (.string ⟨#[]⟩) (.bool false) (.bool false) (.int .i64 0) (.int .i64 0) (.bool false) (.bool false) (.int .i64 0) (.int .i64 0) (.bool false) (.bool false) (.int .i64 0) (.int .i64 pl) r1 r2 r3 r4 r5 r6 r7 r8 r9 r10 r11 r12 rfl rfl HB.out ?_
       intro W2 hB2 hF2
       have hO : Hid _ := hB2
       have hI : Hid _ := hF2.obj HA.out (fun e => by have e : w.heap.size = w.heap.size + 1 := e; omega)
       have HF2 : Hid (Fr noB w W2) := HF.out.then hF2 (fun i e => Or.inr (by have e : i = w.heap.size + 1 := e; omega))
       clear hB2 hF2 HA HB HF)
    | (refine wpList_load_row rfl 116 (.tmp 1) rfl w.heap.size rfl 116 #[.int .i64 3, .float .f64 x, .string t, .string r1, .string r2, .bool r3, .bool r4, .int .i64 r5, .int .i64 r6, .bool r7, .bool r8, .int .i64 r9, .int .i64 r10, .bool r11, .bool r12, .int .i64 er, .int .i64 pl] (0, 0) _ hI.out Tryz.underlying116 rfl info_lx ?_)
    | (refine wpList_load_row rfl 116 (.tmp 3) rfl (w.heap.size + 1) rfl 116 #[.int .i64 3, .float .f64 0, .string ⟨#[]⟩, .string r1, .string r2, .bool r3, .bool r4, .int .i64 r5, .int .i64 r6, .bool r7, .bool r8, .int .i64 r9, .int .i64 r10, .bool r11, .bool r12, .int .i64 0, .int .i64 pl] (0, 0) _ hO.out Tryz.underlying116 rfl info_lx ?_))
  go_ret
  exact ⟨rfl, HF2.out⟩
#print axioms bare_lx1
#print axioms bare_lx0
#print axioms bare_lx5
#print axioms bare_lx3
end Go.Proofs.YtdmjbhbiehjelaaGreatDoor
