/- References and tokens held against each other by ==. -/
import Derived.Test.YtdmjbhbiehjelaaGreatDoorProg
import Derived.WalkKit
namespace Go.Proofs.YtdmjbhbiehjelaaGreatDoor
open Go.RowKit

/-- Is it the reference of no text? -/
def rz (t u : ByteArray) (f a : Bool) (p q : Int) (x y : Bool) (r s : Int) (z v : Bool) : Bool :=
  t.toList.isEmpty && u.toList.isEmpty && !f && !a && (p == 0) && (q == 0) && !x && !y && (r == 0) && (s == 0) && !z && !v
set_option maxRecDepth 100000 in
set_option maxHeartbeats 2000000 in
theorem eq_ref0 (t u : ByteArray) (f a : Bool) (p q : Int) (x y : Bool) (r s : Int) (z v : Bool) (W : World) : (binOp .eql 26 (.agg #[.string t, .string u, .bool f, .bool a, .int .i64 p, .int .i64 q, .bool x, .bool y, .int .i64 r, .int .i64 s, .bool z, .bool v]) (.agg #[.string ⟨#[]⟩, .string ⟨#[]⟩, .bool false, .bool false, .int .i64 0, .int .i64 0, .bool false, .bool false, .int .i64 0, .int .i64 0, .bool false, .bool false])).run Tryz.prog W = .ok (.bool (rz t u f a p q x y r s z v)) W := by
  have hu := Tryz.underlying26
  have hc := Tryz.underlying24
  simp [go_sem]
  (repeat' split) <;> simp_all [rz]
theorem eq_fl (d : Nat) (x y : Nat) (W : World) : (Op.equalIn (d + 1) 22 (.float .f64 x) (.float .f64 y)).run Tryz.prog W = .ok (Op.floatEq .f64 x y) W := by
  unfold Op.equalIn
  simp [go_sem]
set_option maxRecDepth 100000 in
set_option maxHeartbeats 2000000 in
theorem eq_rd (t u : ByteArray) (f a : Bool) (p q : Int) (x y : Bool) (r s : Int) (z v : Bool) (W : World) : (Op.equalIn 9999 26 (.agg #[.string t, .string u, .bool f, .bool a, .int .i64 p, .int .i64 q, .bool x, .bool y, .int .i64 r, .int .i64 s, .bool z, .bool v]) (.agg #[.string ⟨#[]⟩, .string ⟨#[]⟩, .bool false, .bool false, .int .i64 0, .int .i64 0, .bool false, .bool false, .int .i64 0, .int .i64 0, .bool false, .bool false])).run Tryz.prog W = .ok (rz t u f a p q x y r s z v) W := by
  have hu := Tryz.underlying26
  have hc := Tryz.underlying24
  simp [go_sem]
  (repeat' split) <;> simp_all [rz]
set_option maxRecDepth 100000 in
set_option maxHeartbeats 2000000 in
theorem eq_rs (t u : ByteArray) (f a : Bool) (p q : Int) (x y : Bool) (r s : Int) (z v : Bool) (W : World) : (Op.equalIn 9999 26 (.agg #[.string t, .string u, .bool f, .bool a, .int .i64 p, .int .i64 q, .bool x, .bool y, .int .i64 r, .int .i64 s, .bool z, .bool v]) (.agg #[.string t, .string u, .bool f, .bool a, .int .i64 p, .int .i64 q, .bool x, .bool y, .int .i64 r, .int .i64 s, .bool z, .bool v])).run Tryz.prog W = .ok true W := by
  have hu := Tryz.underlying26
  have hc := Tryz.underlying24
  simp [go_sem]
set_option maxRecDepth 100000 in
set_option maxHeartbeats 4000000 in
theorem eq_lx1 (k : Int) (x : Nat) (t : ByteArray) (r1 r2 : ByteArray) (r3 r4 : Bool) (r5 r6 : Int) (r7 r8 : Bool) (r9 r10 : Int) (r11 r12 : Bool) (er pl : Int) (W : World) : (binOp .eql 116 (.agg #[.int .i64 k, .float .f64 x, .string t, .string r1, .string r2, .bool r3, .bool r4, .int .i64 r5, .int .i64 r6, .bool r7, .bool r8, .int .i64 r9, .int .i64 r10, .bool r11, .bool r12, .int .i64 er, .int .i64 pl]) (.agg #[.int .i64 k, .float .f64 x, .string ⟨#[]⟩, .string ⟨#[]⟩, .string ⟨#[]⟩, .bool false, .bool false, .int .i64 0, .int .i64 0, .bool false, .bool false, .int .i64 0, .int .i64 0, .bool false, .bool false, .int .i64 0, .int .i64 pl])).run Tryz.prog W = .ok (.bool (Op.floatEq .f64 x x && t.toList.isEmpty && rz r1 r2 r3 r4 r5 r6 r7 r8 r9 r10 r11 r12 && (er == 0))) W := by
  have hl := Tryz.underlying116
  have e1 := eq_fl 9998
  have e2 := eq_rd r1 r2 r3 r4 r5 r6 r7 r8 r9 r10 r11 r12
  simp [go_sem, ↓e1, ↓e2]
  (repeat' split) <;> simp_all
set_option maxRecDepth 100000 in
set_option maxHeartbeats 4000000 in
theorem eq_lx3 (k : Int) (x : Nat) (t : ByteArray) (r1 r2 : ByteArray) (r3 r4 : Bool) (r5 r6 : Int) (r7 r8 : Bool) (r9 r10 : Int) (r11 r12 : Bool) (er pl : Int) (W : World) : (binOp .eql 116 (.agg #[.int .i64 k, .float .f64 x, .string t, .string r1, .string r2, .bool r3, .bool r4, .int .i64 r5, .int .i64 r6, .bool r7, .bool r8, .int .i64 r9, .int .i64 r10, .bool r11, .bool r12, .int .i64 er, .int .i64 pl]) (.agg #[.int .i64 k, .float .f64 0, .string ⟨#[]⟩, .string r1, .string r2, .bool r3, .bool r4, .int .i64 r5, .int .i64 r6, .bool r7, .bool r8, .int .i64 r9, .int .i64 r10, .bool r11, .bool r12, .int .i64 0, .int .i64 pl])).run Tryz.prog W = .ok (.bool (Op.floatEq .f64 x 0 && t.toList.isEmpty && (er == 0))) W := by
  have hl := Tryz.underlying116
  have e1 := eq_fl 9998
  have e2 := eq_rs r1 r2 r3 r4 r5 r6 r7 r8 r9 r10 r11 r12
  simp [go_sem, ↓e1, ↓e2]
  (repeat' split) <;> simp_all
set_option maxRecDepth 100000 in
set_option maxHeartbeats 4000000 in
theorem eq_lx5 (k : Int) (x : Nat) (t : ByteArray) (r1 r2 : ByteArray) (r3 r4 : Bool) (r5 r6 : Int) (r7 r8 : Bool) (r9 r10 : Int) (r11 r12 : Bool) (er pl : Int) (W : World) : (binOp .eql 116 (.agg #[.int .i64 k, .float .f64 x, .string t, .string r1, .string r2, .bool r3, .bool r4, .int .i64 r5, .int .i64 r6, .bool r7, .bool r8, .int .i64 r9, .int .i64 r10, .bool r11, .bool r12, .int .i64 er, .int .i64 pl]) (.agg #[.int .i64 k, .float .f64 0, .string ⟨#[]⟩, .string ⟨#[]⟩, .string ⟨#[]⟩, .bool false, .bool false, .int .i64 0, .int .i64 0, .bool false, .bool false, .int .i64 0, .int .i64 0, .bool false, .bool false, .int .i64 er, .int .i64 pl])).run Tryz.prog W = .ok (.bool (Op.floatEq .f64 x 0 && t.toList.isEmpty && rz r1 r2 r3 r4 r5 r6 r7 r8 r9 r10 r11 r12)) W := by
  have hl := Tryz.underlying116
  have e1 := eq_fl 9998
  have e2 := eq_rd r1 r2 r3 r4 r5 r6 r7 r8 r9 r10 r11 r12
  simp [go_sem, ↓e1, ↓e2]
  (repeat' split) <;> simp_all
set_option maxRecDepth 100000 in
set_option maxHeartbeats 4000000 in
theorem eq_lx0 (k : Int) (x : Nat) (t : ByteArray) (r1 r2 : ByteArray) (r3 r4 : Bool) (r5 r6 : Int) (r7 r8 : Bool) (r9 r10 : Int) (r11 r12 : Bool) (er pl : Int) (W : World) : (binOp .eql 116 (.agg #[.int .i64 k, .float .f64 x, .string t, .string r1, .string r2, .bool r3, .bool r4, .int .i64 r5, .int .i64 r6, .bool r7, .bool r8, .int .i64 r9, .int .i64 r10, .bool r11, .bool r12, .int .i64 er, .int .i64 pl]) (.agg #[.int .i64 k, .float .f64 0, .string t, .string ⟨#[]⟩, .string ⟨#[]⟩, .bool false, .bool false, .int .i64 0, .int .i64 0, .bool false, .bool false, .int .i64 0, .int .i64 0, .bool false, .bool false, .int .i64 0, .int .i64 pl])).run Tryz.prog W = .ok (.bool (Op.floatEq .f64 x 0 && rz r1 r2 r3 r4 r5 r6 r7 r8 r9 r10 r11 r12 && (er == 0))) W := by
  have hl := Tryz.underlying116
  have e1 := eq_fl 9998
  have e2 := eq_rd r1 r2 r3 r4 r5 r6 r7 r8 r9 r10 r11 r12
  simp [go_sem, ↓e1, ↓e2]
  (repeat' split) <;> simp_all
#print axioms eq_ref0
#print axioms eq_lx0
end Go.Proofs.YtdmjbhbiehjelaaGreatDoor
