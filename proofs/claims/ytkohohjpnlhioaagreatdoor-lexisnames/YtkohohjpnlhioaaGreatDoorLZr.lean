/- The document's zero: has a token nothing but what its kind has? -/
import Derived.Test.YtkohohjpnlhioaaGreatDoorK03
import Derived.Deep.Cut
namespace Go.Proofs.YtkohohjpnlhioaaGreatDoor
open Go.RowKit

theorem eqf0 (x : Nat) (W : World) : (binOp .eql 22 (.float .f64 x) (.float .f64 0)).run Tryz.prog W = .ok (.bool (Op.floatEq .f64 x 0)) W := by kernel_rfl
set_option maxRecDepth 100000 in
set_option maxHeartbeats 2000000 in
theorem zero_lx1 (x : Nat) (t : ByteArray) (r1 r2 : ByteArray) (r3 r4 : Bool) (r5 r6 : Int) (r7 r8 : Bool) (r9 r10 : Int) (r11 r12 : Bool) (er pl : Int) (w : World) : Calls Tryz.prog 17 #[(.agg #[.int .i64 1, .float .f64 x, .string t, .string r1, .string r2, .bool r3, .bool r4, .int .i64 r5, .int .i64 r6, .bool r7, .bool r8, .int .i64 r9, .int .i64 r10, .bool r11, .bool r12, .int .i64 er, .int .i64 pl])] w fun e w' => e = .returned (.bool (t.toList.isEmpty && rz r1 r2 r3 r4 r5 r6 r7 r8 r9 r10 r11 r12 && (er == 0))) ∧ Fr noB w w' := by
  have HX := eqf0 x
  have HR := eq_ref0 r1 r2 r3 r4 r5 r6 r7 r8 r9 r10 r11 r12
  generalize rz r1 r2 r3 r4 r5 r6 r7 r8 r9 r10 r11 r12 = BR at *
  generalize Op.floatEq .f64 x 0 = BX at *
  obtain ⟨BT, hBT⟩ : ∃ B, t.toList.isEmpty = B := ⟨_, rfl⟩
  obtain ⟨BE, hBE⟩ : ∃ B, (er == 0) = B := ⟨_, rfl⟩
  rw [hBT]; rw [hBE]
  go_enter Tryz.func17, Tryz.ntmps17
  go_upto_region 1 with fail
  obtain ⟨W0, hW0⟩ : ∃ W0, w.alloc (.cells #[.int .i64 1, .float .f64 x, .string t, .string r1, .string r2, .bool r3, .bool r4, .int .i64 r5, .int .i64 r6, .bool r7, .bool r8, .int .i64 r9, .int .i64 r10, .bool r11, .bool r12, .int .i64 er, .int .i64 pl] 28 (0, 0)) = W0 := ⟨_, rfl⟩
  have hA : W0.heap[w.heap.size]? = some (.cells #[.int .i64 1, .float .f64 x, .string t, .string r1, .string r2, .bool r3, .bool r4, .int .i64 r5, .int .i64 r6, .bool r7, .bool r8, .int .i64 r9, .int .i64 r10, .bool r11, .bool r12, .int .i64 er, .int .i64 pl] 28 (0, 0)) := by rw [← hW0]; exact heap_alloc_new w _
  have HF : Hid (Fr noB w W0) := by rw [← hW0]; exact (Fr.refl noB w).alloc _
  rw [hW0]
  clear hW0
  have HA : Hid _ := hA
  have c0 := cellOf (o := 0) hA rfl
  have c1 := cellOf (o := 1) hA rfl
  have c2 := cellOf (o := 2) hA rfl
  have c15 := cellOf (o := 15) hA rfl
  have c3 := cellOf (o := 3) hA rfl
  have c4 := cellOf (o := 4) hA rfl
  have c5 := cellOf (o := 5) hA rfl
  have c6 := cellOf (o := 6) hA rfl
  have c7 := cellOf (o := 7) hA rfl
  have c8 := cellOf (o := 8) hA rfl
  have c9 := cellOf (o := 9) hA rfl
  have c10 := cellOf (o := 10) hA rfl
  have c11 := cellOf (o := 11) hA rfl
  have c12 := cellOf (o := 12) hA rfl
  have c13 := cellOf (o := 13) hA rfl
  have c14 := cellOf (o := 14) hA rfl
  generalize w.heap.size = H at *
  clear hA
  cases BT with
  | false =>
    go_wp2_with fail
    go_ret
    exact ⟨rfl, HF.out⟩
  | true =>
    cases BR with
    | false =>
      go_wp2_with fail
      go_ret
      exact ⟨rfl, HF.out⟩
    | true =>
      cases BE with
      | false =>
        go_wp2_with fail
        go_ret
        exact ⟨rfl, HF.out⟩
      | true =>
        go_wp2_with fail
        go_ret
        exact ⟨rfl, HF.out⟩
set_option maxRecDepth 100000 in
set_option maxHeartbeats 2000000 in
theorem zero_lx2 (x : Nat) (t : ByteArray) (r1 r2 : ByteArray) (r3 r4 : Bool) (r5 r6 : Int) (r7 r8 : Bool) (r9 r10 : Int) (r11 r12 : Bool) (er pl : Int) (w : World) : Calls Tryz.prog 17 #[(.agg #[.int .i64 2, .float .f64 x, .string t, .string r1, .string r2, .bool r3, .bool r4, .int .i64 r5, .int .i64 r6, .bool r7, .bool r8, .int .i64 r9, .int .i64 r10, .bool r11, .bool r12, .int .i64 er, .int .i64 pl])] w fun e w' => e = .returned (.bool (Op.floatEq .f64 x 0 && rz r1 r2 r3 r4 r5 r6 r7 r8 r9 r10 r11 r12 && (er == 0))) ∧ Fr noB w w' := by
  have HX := eqf0 x
  have HR := eq_ref0 r1 r2 r3 r4 r5 r6 r7 r8 r9 r10 r11 r12
  generalize rz r1 r2 r3 r4 r5 r6 r7 r8 r9 r10 r11 r12 = BR at *
  generalize Op.floatEq .f64 x 0 = BX at *
  obtain ⟨BT, hBT⟩ : ∃ B, t.toList.isEmpty = B := ⟨_, rfl⟩
  obtain ⟨BE, hBE⟩ : ∃ B, (er == 0) = B := ⟨_, rfl⟩
  rw [hBE]
  go_enter Tryz.func17, Tryz.ntmps17
  go_upto_region 1 with fail
  obtain ⟨W0, hW0⟩ : ∃ W0, w.alloc (.cells #[.int .i64 2, .float .f64 x, .string t, .string r1, .string r2, .bool r3, .bool r4, .int .i64 r5, .int .i64 r6, .bool r7, .bool r8, .int .i64 r9, .int .i64 r10, .bool r11, .bool r12, .int .i64 er, .int .i64 pl] 28 (0, 0)) = W0 := ⟨_, rfl⟩
  have hA : W0.heap[w.heap.size]? = some (.cells #[.int .i64 2, .float .f64 x, .string t, .string r1, .string r2, .bool r3, .bool r4, .int .i64 r5, .int .i64 r6, .bool r7, .bool r8, .int .i64 r9, .int .i64 r10, .bool r11, .bool r12, .int .i64 er, .int .i64 pl] 28 (0, 0)) := by rw [← hW0]; exact heap_alloc_new w _
  have HF : Hid (Fr noB w W0) := by rw [← hW0]; exact (Fr.refl noB w).alloc _
  rw [hW0]
  clear hW0
  have HA : Hid _ := hA
  have c0 := cellOf (o := 0) hA rfl
  have c1 := cellOf (o := 1) hA rfl
  have c2 := cellOf (o := 2) hA rfl
  have c15 := cellOf (o := 15) hA rfl
  have c3 := cellOf (o := 3) hA rfl
  have c4 := cellOf (o := 4) hA rfl
  have c5 := cellOf (o := 5) hA rfl
  have c6 := cellOf (o := 6) hA rfl
  have c7 := cellOf (o := 7) hA rfl
  have c8 := cellOf (o := 8) hA rfl
  have c9 := cellOf (o := 9) hA rfl
  have c10 := cellOf (o := 10) hA rfl
  have c11 := cellOf (o := 11) hA rfl
  have c12 := cellOf (o := 12) hA rfl
  have c13 := cellOf (o := 13) hA rfl
  have c14 := cellOf (o := 14) hA rfl
  generalize w.heap.size = H at *
  clear hA
  cases BX with
  | false =>
    go_wp2_with fail
    go_ret
    exact ⟨rfl, HF.out⟩
  | true =>
    cases BR with
    | false =>
      go_wp2_with fail
      go_ret
      exact ⟨rfl, HF.out⟩
    | true =>
      cases BE with
      | false =>
        go_wp2_with fail
        go_ret
        exact ⟨rfl, HF.out⟩
      | true =>
        go_wp2_with fail
        go_ret
        exact ⟨rfl, HF.out⟩
set_option maxRecDepth 100000 in
set_option maxHeartbeats 2000000 in
theorem zero_lx4 (x : Nat) (t : ByteArray) (r1 r2 : ByteArray) (r3 r4 : Bool) (r5 r6 : Int) (r7 r8 : Bool) (r9 r10 : Int) (r11 r12 : Bool) (er pl : Int) (w : World) : Calls Tryz.prog 17 #[(.agg #[.int .i64 4, .float .f64 x, .string t, .string r1, .string r2, .bool r3, .bool r4, .int .i64 r5, .int .i64 r6, .bool r7, .bool r8, .int .i64 r9, .int .i64 r10, .bool r11, .bool r12, .int .i64 er, .int .i64 pl])] w fun e w' => e = .returned (.bool (Op.floatEq .f64 x 0 && rz r1 r2 r3 r4 r5 r6 r7 r8 r9 r10 r11 r12 && (er == 0))) ∧ Fr noB w w' := by
  have HX := eqf0 x
  have HR := eq_ref0 r1 r2 r3 r4 r5 r6 r7 r8 r9 r10 r11 r12
  generalize rz r1 r2 r3 r4 r5 r6 r7 r8 r9 r10 r11 r12 = BR at *
  generalize Op.floatEq .f64 x 0 = BX at *
  obtain ⟨BT, hBT⟩ : ∃ B, t.toList.isEmpty = B := ⟨_, rfl⟩
  obtain ⟨BE, hBE⟩ : ∃ B, (er == 0) = B := ⟨_, rfl⟩
  rw [hBE]
  go_enter Tryz.func17, Tryz.ntmps17
  go_upto_region 1 with fail
  obtain ⟨W0, hW0⟩ : ∃ W0, w.alloc (.cells #[.int .i64 4, .float .f64 x, .string t, .string r1, .string r2, .bool r3, .bool r4, .int .i64 r5, .int .i64 r6, .bool r7, .bool r8, .int .i64 r9, .int .i64 r10, .bool r11, .bool r12, .int .i64 er, .int .i64 pl] 28 (0, 0)) = W0 := ⟨_, rfl⟩
  have hA : W0.heap[w.heap.size]? = some (.cells #[.int .i64 4, .float .f64 x, .string t, .string r1, .string r2, .bool r3, .bool r4, .int .i64 r5, .int .i64 r6, .bool r7, .bool r8, .int .i64 r9, .int .i64 r10, .bool r11, .bool r12, .int .i64 er, .int .i64 pl] 28 (0, 0)) := by rw [← hW0]; exact heap_alloc_new w _
  have HF : Hid (Fr noB w W0) := by rw [← hW0]; exact (Fr.refl noB w).alloc _
  rw [hW0]
  clear hW0
  have HA : Hid _ := hA
  have c0 := cellOf (o := 0) hA rfl
  have c1 := cellOf (o := 1) hA rfl
  have c2 := cellOf (o := 2) hA rfl
  have c15 := cellOf (o := 15) hA rfl
  have c3 := cellOf (o := 3) hA rfl
  have c4 := cellOf (o := 4) hA rfl
  have c5 := cellOf (o := 5) hA rfl
  have c6 := cellOf (o := 6) hA rfl
  have c7 := cellOf (o := 7) hA rfl
  have c8 := cellOf (o := 8) hA rfl
  have c9 := cellOf (o := 9) hA rfl
  have c10 := cellOf (o := 10) hA rfl
  have c11 := cellOf (o := 11) hA rfl
  have c12 := cellOf (o := 12) hA rfl
  have c13 := cellOf (o := 13) hA rfl
  have c14 := cellOf (o := 14) hA rfl
  generalize w.heap.size = H at *
  clear hA
  cases BX with
  | false =>
    go_wp2_with fail
    go_ret
    exact ⟨rfl, HF.out⟩
  | true =>
    cases BR with
    | false =>
      go_wp2_with fail
      go_ret
      exact ⟨rfl, HF.out⟩
    | true =>
      cases BE with
      | false =>
        go_wp2_with fail
        go_ret
        exact ⟨rfl, HF.out⟩
      | true =>
        go_wp2_with fail
        go_ret
        exact ⟨rfl, HF.out⟩
set_option maxRecDepth 100000 in
set_option maxHeartbeats 2000000 in
theorem zero_lx6 (x : Nat) (t : ByteArray) (r1 r2 : ByteArray) (r3 r4 : Bool) (r5 r6 : Int) (r7 r8 : Bool) (r9 r10 : Int) (r11 r12 : Bool) (er pl : Int) (w : World) : Calls Tryz.prog 17 #[(.agg #[.int .i64 6, .float .f64 x, .string t, .string r1, .string r2, .bool r3, .bool r4, .int .i64 r5, .int .i64 r6, .bool r7, .bool r8, .int .i64 r9, .int .i64 r10, .bool r11, .bool r12, .int .i64 er, .int .i64 pl])] w fun e w' => e = .returned (.bool (Op.floatEq .f64 x 0 && rz r1 r2 r3 r4 r5 r6 r7 r8 r9 r10 r11 r12 && (er == 0))) ∧ Fr noB w w' := by
  have HX := eqf0 x
  have HR := eq_ref0 r1 r2 r3 r4 r5 r6 r7 r8 r9 r10 r11 r12
  generalize rz r1 r2 r3 r4 r5 r6 r7 r8 r9 r10 r11 r12 = BR at *
  generalize Op.floatEq .f64 x 0 = BX at *
  obtain ⟨BT, hBT⟩ : ∃ B, t.toList.isEmpty = B := ⟨_, rfl⟩
  obtain ⟨BE, hBE⟩ : ∃ B, (er == 0) = B := ⟨_, rfl⟩
  rw [hBE]
  go_enter Tryz.func17, Tryz.ntmps17
  go_upto_region 1 with fail
  obtain ⟨W0, hW0⟩ : ∃ W0, w.alloc (.cells #[.int .i64 6, .float .f64 x, .string t, .string r1, .string r2, .bool r3, .bool r4, .int .i64 r5, .int .i64 r6, .bool r7, .bool r8, .int .i64 r9, .int .i64 r10, .bool r11, .bool r12, .int .i64 er, .int .i64 pl] 28 (0, 0)) = W0 := ⟨_, rfl⟩
  have hA : W0.heap[w.heap.size]? = some (.cells #[.int .i64 6, .float .f64 x, .string t, .string r1, .string r2, .bool r3, .bool r4, .int .i64 r5, .int .i64 r6, .bool r7, .bool r8, .int .i64 r9, .int .i64 r10, .bool r11, .bool r12, .int .i64 er, .int .i64 pl] 28 (0, 0)) := by rw [← hW0]; exact heap_alloc_new w _
  have HF : Hid (Fr noB w W0) := by rw [← hW0]; exact (Fr.refl noB w).alloc _
  rw [hW0]
  clear hW0
  have HA : Hid _ := hA
  have c0 := cellOf (o := 0) hA rfl
  have c1 := cellOf (o := 1) hA rfl
  have c2 := cellOf (o := 2) hA rfl
  have c15 := cellOf (o := 15) hA rfl
  have c3 := cellOf (o := 3) hA rfl
  have c4 := cellOf (o := 4) hA rfl
  have c5 := cellOf (o := 5) hA rfl
  have c6 := cellOf (o := 6) hA rfl
  have c7 := cellOf (o := 7) hA rfl
  have c8 := cellOf (o := 8) hA rfl
  have c9 := cellOf (o := 9) hA rfl
  have c10 := cellOf (o := 10) hA rfl
  have c11 := cellOf (o := 11) hA rfl
  have c12 := cellOf (o := 12) hA rfl
  have c13 := cellOf (o := 13) hA rfl
  have c14 := cellOf (o := 14) hA rfl
  generalize w.heap.size = H at *
  clear hA
  cases BX with
  | false =>
    go_wp2_with fail
    go_ret
    exact ⟨rfl, HF.out⟩
  | true =>
    cases BR with
    | false =>
      go_wp2_with fail
      go_ret
      exact ⟨rfl, HF.out⟩
    | true =>
      cases BE with
      | false =>
        go_wp2_with fail
        go_ret
        exact ⟨rfl, HF.out⟩
      | true =>
        go_wp2_with fail
        go_ret
        exact ⟨rfl, HF.out⟩
set_option maxRecDepth 100000 in
set_option maxHeartbeats 2000000 in
theorem zero_lx3 (x : Nat) (t : ByteArray) (r1 r2 : ByteArray) (r3 r4 : Bool) (r5 r6 : Int) (r7 r8 : Bool) (r9 r10 : Int) (r11 r12 : Bool) (er pl : Int) (w : World) : Calls Tryz.prog 17 #[(.agg #[.int .i64 3, .float .f64 x, .string t, .string r1, .string r2, .bool r3, .bool r4, .int .i64 r5, .int .i64 r6, .bool r7, .bool r8, .int .i64 r9, .int .i64 r10, .bool r11, .bool r12, .int .i64 er, .int .i64 pl])] w fun e w' => e = .returned (.bool (Op.floatEq .f64 x 0 && t.toList.isEmpty && (er == 0))) ∧ Fr noB w w' := by
  have HX := eqf0 x
  have HR := eq_ref0 r1 r2 r3 r4 r5 r6 r7 r8 r9 r10 r11 r12
  generalize rz r1 r2 r3 r4 r5 r6 r7 r8 r9 r10 r11 r12 = BR at *
  generalize Op.floatEq .f64 x 0 = BX at *
  obtain ⟨BT, hBT⟩ : ∃ B, t.toList.isEmpty = B := ⟨_, rfl⟩
  obtain ⟨BE, hBE⟩ : ∃ B, (er == 0) = B := ⟨_, rfl⟩
  rw [hBT]; rw [hBE]
  go_enter Tryz.func17, Tryz.ntmps17
  go_upto_region 1 with fail
  obtain ⟨W0, hW0⟩ : ∃ W0, w.alloc (.cells #[.int .i64 3, .float .f64 x, .string t, .string r1, .string r2, .bool r3, .bool r4, .int .i64 r5, .int .i64 r6, .bool r7, .bool r8, .int .i64 r9, .int .i64 r10, .bool r11, .bool r12, .int .i64 er, .int .i64 pl] 28 (0, 0)) = W0 := ⟨_, rfl⟩
  have hA : W0.heap[w.heap.size]? = some (.cells #[.int .i64 3, .float .f64 x, .string t, .string r1, .string r2, .bool r3, .bool r4, .int .i64 r5, .int .i64 r6, .bool r7, .bool r8, .int .i64 r9, .int .i64 r10, .bool r11, .bool r12, .int .i64 er, .int .i64 pl] 28 (0, 0)) := by rw [← hW0]; exact heap_alloc_new w _
  have HF : Hid (Fr noB w W0) := by rw [← hW0]; exact (Fr.refl noB w).alloc _
  rw [hW0]
  clear hW0
  have HA : Hid _ := hA
  have c0 := cellOf (o := 0) hA rfl
  have c1 := cellOf (o := 1) hA rfl
  have c2 := cellOf (o := 2) hA rfl
  have c15 := cellOf (o := 15) hA rfl
  generalize w.heap.size = H at *
  clear hA
  cases BX with
  | false =>
    go_wp2_with fail
    go_ret
    exact ⟨rfl, HF.out⟩
  | true =>
    cases BT with
    | false =>
      go_wp2_with fail
      go_ret
      exact ⟨rfl, HF.out⟩
    | true =>
      cases BE with
      | false =>
        go_wp2_with fail
        go_ret
        exact ⟨rfl, HF.out⟩
      | true =>
        go_wp2_with fail
        go_ret
        exact ⟨rfl, HF.out⟩
set_option maxRecDepth 100000 in
set_option maxHeartbeats 2000000 in
theorem zero_lx5 (x : Nat) (t : ByteArray) (r1 r2 : ByteArray) (r3 r4 : Bool) (r5 r6 : Int) (r7 r8 : Bool) (r9 r10 : Int) (r11 r12 : Bool) (er pl : Int) (w : World) : Calls Tryz.prog 17 #[(.agg #[.int .i64 5, .float .f64 x, .string t, .string r1, .string r2, .bool r3, .bool r4, .int .i64 r5, .int .i64 r6, .bool r7, .bool r8, .int .i64 r9, .int .i64 r10, .bool r11, .bool r12, .int .i64 er, .int .i64 pl])] w fun e w' => e = .returned (.bool (Op.floatEq .f64 x 0 && t.toList.isEmpty && rz r1 r2 r3 r4 r5 r6 r7 r8 r9 r10 r11 r12)) ∧ Fr noB w w' := by
  have HX := eqf0 x
  have HR := eq_ref0 r1 r2 r3 r4 r5 r6 r7 r8 r9 r10 r11 r12
  generalize rz r1 r2 r3 r4 r5 r6 r7 r8 r9 r10 r11 r12 = BR at *
  generalize Op.floatEq .f64 x 0 = BX at *
  obtain ⟨BT, hBT⟩ : ∃ B, t.toList.isEmpty = B := ⟨_, rfl⟩
  obtain ⟨BE, hBE⟩ : ∃ B, (er == 0) = B := ⟨_, rfl⟩
  rw [hBT]
  go_enter Tryz.func17, Tryz.ntmps17
  go_upto_region 1 with fail
  obtain ⟨W0, hW0⟩ : ∃ W0, w.alloc (.cells #[.int .i64 5, .float .f64 x, .string t, .string r1, .string r2, .bool r3, .bool r4, .int .i64 r5, .int .i64 r6, .bool r7, .bool r8, .int .i64 r9, .int .i64 r10, .bool r11, .bool r12, .int .i64 er, .int .i64 pl] 28 (0, 0)) = W0 := ⟨_, rfl⟩
  have hA : W0.heap[w.heap.size]? = some (.cells #[.int .i64 5, .float .f64 x, .string t, .string r1, .string r2, .bool r3, .bool r4, .int .i64 r5, .int .i64 r6, .bool r7, .bool r8, .int .i64 r9, .int .i64 r10, .bool r11, .bool r12, .int .i64 er, .int .i64 pl] 28 (0, 0)) := by rw [← hW0]; exact heap_alloc_new w _
  have HF : Hid (Fr noB w W0) := by rw [← hW0]; exact (Fr.refl noB w).alloc _
  rw [hW0]
  clear hW0
  have HA : Hid _ := hA
  have c0 := cellOf (o := 0) hA rfl
  have c1 := cellOf (o := 1) hA rfl
  have c2 := cellOf (o := 2) hA rfl
  have c15 := cellOf (o := 15) hA rfl
  have c3 := cellOf (o := 3) hA rfl
  have c4 := cellOf (o := 4) hA rfl
  have c5 := cellOf (o := 5) hA rfl
  have c6 := cellOf (o := 6) hA rfl
  have c7 := cellOf (o := 7) hA rfl
  have c8 := cellOf (o := 8) hA rfl
  have c9 := cellOf (o := 9) hA rfl
  have c10 := cellOf (o := 10) hA rfl
  have c11 := cellOf (o := 11) hA rfl
  have c12 := cellOf (o := 12) hA rfl
  have c13 := cellOf (o := 13) hA rfl
  have c14 := cellOf (o := 14) hA rfl
  generalize w.heap.size = H at *
  clear hA
  cases BX with
  | false =>
    go_wp2_with fail
    go_ret
    exact ⟨rfl, HF.out⟩
  | true =>
    cases BT with
    | false =>
      go_wp2_with fail
      go_ret
      exact ⟨rfl, HF.out⟩
    | true =>
      cases BR with
      | false =>
        go_wp2_with fail
        go_ret
        exact ⟨rfl, HF.out⟩
      | true =>
        go_wp2_with fail
        go_ret
        exact ⟨rfl, HF.out⟩
set_option maxRecDepth 100000 in
set_option maxHeartbeats 2000000 in
theorem zero_lx0 (k : Int) (x : Nat) (t : ByteArray) (r1 r2 : ByteArray) (r3 r4 : Bool) (r5 r6 : Int) (r7 r8 : Bool) (r9 r10 : Int) (r11 r12 : Bool) (er pl : Int) (w : World) (k1 : ¬ k = 1) (k2 : ¬ k = 2) (k3 : ¬ k = 3) (k4 : ¬ k = 4) (k5 : ¬ k = 5) (k6 : ¬ k = 6) : Calls Tryz.prog 17 #[(.agg #[.int .i64 k, .float .f64 x, .string t, .string r1, .string r2, .bool r3, .bool r4, .int .i64 r5, .int .i64 r6, .bool r7, .bool r8, .int .i64 r9, .int .i64 r10, .bool r11, .bool r12, .int .i64 er, .int .i64 pl])] w fun e w' => (∃ b, e = .returned (.bool b)) ∧ Fr noB w w' := by
  have HX := eqf0 x
  have HR := eq_ref0 r1 r2 r3 r4 r5 r6 r7 r8 r9 r10 r11 r12
  generalize rz r1 r2 r3 r4 r5 r6 r7 r8 r9 r10 r11 r12 = BR at *
  generalize Op.floatEq .f64 x 0 = BX at *
  obtain ⟨BT, hBT⟩ : ∃ B, t.toList.isEmpty = B := ⟨_, rfl⟩
  obtain ⟨BE, hBE⟩ : ∃ B, (er == 0) = B := ⟨_, rfl⟩
  go_enter Tryz.func17, Tryz.ntmps17
  go_upto_region 1 with fail
  obtain ⟨W0, hW0⟩ : ∃ W0, w.alloc (.cells #[.int .i64 k, .float .f64 x, .string t, .string r1, .string r2, .bool r3, .bool r4, .int .i64 r5, .int .i64 r6, .bool r7, .bool r8, .int .i64 r9, .int .i64 r10, .bool r11, .bool r12, .int .i64 er, .int .i64 pl] 28 (0, 0)) = W0 := ⟨_, rfl⟩
  have hA : W0.heap[w.heap.size]? = some (.cells #[.int .i64 k, .float .f64 x, .string t, .string r1, .string r2, .bool r3, .bool r4, .int .i64 r5, .int .i64 r6, .bool r7, .bool r8, .int .i64 r9, .int .i64 r10, .bool r11, .bool r12, .int .i64 er, .int .i64 pl] 28 (0, 0)) := by rw [← hW0]; exact heap_alloc_new w _
  have HF : Hid (Fr noB w W0) := by rw [← hW0]; exact (Fr.refl noB w).alloc _
  rw [hW0]
  clear hW0
  have HA : Hid _ := hA
  have c0 := cellOf (o := 0) hA rfl
  have c1 := cellOf (o := 1) hA rfl
  have c2 := cellOf (o := 2) hA rfl
  have c15 := cellOf (o := 15) hA rfl
  have c3 := cellOf (o := 3) hA rfl
  have c4 := cellOf (o := 4) hA rfl
  have c5 := cellOf (o := 5) hA rfl
  have c6 := cellOf (o := 6) hA rfl
  have c7 := cellOf (o := 7) hA rfl
  have c8 := cellOf (o := 8) hA rfl
  have c9 := cellOf (o := 9) hA rfl
  have c10 := cellOf (o := 10) hA rfl
  have c11 := cellOf (o := 11) hA rfl
  have c12 := cellOf (o := 12) hA rfl
  have c13 := cellOf (o := 13) hA rfl
  have c14 := cellOf (o := 14) hA rfl
  generalize w.heap.size = H at *
  clear hA
  cases BX with
  | false =>
    go_wp2_with fail
    go_ret
    exact ⟨⟨_, rfl⟩, HF.out⟩
  | true =>
    cases BT with
    | false =>
      go_wp2_with fail
      go_ret
      exact ⟨⟨_, rfl⟩, HF.out⟩
    | true =>
      cases BR with
      | false =>
        go_wp2_with fail
        go_ret
        exact ⟨⟨_, rfl⟩, HF.out⟩
      | true =>
        cases BE with
        | false =>
          go_wp2_with fail
          go_ret
          exact ⟨⟨_, rfl⟩, HF.out⟩
        | true =>
          go_wp2_with fail
          go_ret
          exact ⟨⟨_, rfl⟩, HF.out⟩
#print axioms zero_lx0
end Go.Proofs.YtkohohjpnlhioaaGreatDoor
