/- Signs of floats, as the texts of tokens ask them. -/
import Derived.Test.YtdmjbhbiehjelaaGreatDoorK18
import Derived.Test.YtdmjbhbiehjelaaGreatDoorLZr
namespace Go.Proofs.YtdmjbhbiehjelaaGreatDoor
open Go.RowKit Ieee Go.Shelf

theorem eq_self {x : Nat} (h : finB x = true) : Op.floatEq .f64 x x = true := by
  show (double.order x x == some .eq) = true
  rw [order_V (fin_of h) (fin_of h)]
  simp
theorem geq_fin (x : Nat) (hx : x < 18446744073709551616) (h : finB x = true) : (double.order x 0 == some .gt || double.order x 0 == some .eq) = decide (x ≤ 9223372036854775808) := by
  have h1 := lt_zero x hx (fin_of h)
  have h1 : (double.order x 0 == some .lt) = decide (9223372036854775808 < x) := h1
  rw [order_V (fin_of h) zero_fin] at h1 ⊢
  cases hc : compare (V x) (V 0) with
  | lt =>
    rw [hc] at h1
    have : 9223372036854775808 < x := by simpa using h1
    rw [decide_eq_false (by omega)]
    rfl
  | eq =>
    rw [hc] at h1
    have : ¬ 9223372036854775808 < x := by simpa using h1
    rw [decide_eq_true (by omega)]
    rfl
  | gt =>
    rw [hc] at h1
    have : ¬ 9223372036854775808 < x := by simpa using h1
    rw [decide_eq_true (by omega)]
    rfl
theorem run_geq0 (x : Nat) (W : World) : (binOp .geq 22 (.float .f64 x) (.float .f64 0)).run Tryz.prog W = .ok (.bool (double.order x 0 == some .gt || double.order x 0 == some .eq)) W := by kernel_rfl
theorem run_lss0 (x : Nat) (W : World) : (binOp .lss 22 (.float .f64 x) (.float .f64 0)).run Tryz.prog W = .ok (.bool (double.order x 0 == some .lt)) W := by kernel_rfl
theorem quo_p (W : World) : (binOp .quo 22 (.float .f64 4607182418800017408) (.float .f64 0)).run Tryz.prog W = .ok (.float .f64 9218868437227405312) W :=
  run_float_arith W .quo 22 .f64 _ _ _ (show floatBits .quo .f64 4607182418800017408 0 = some 9218868437227405312 by decide +kernel)
theorem quo_m (W : World) : (binOp .quo 22 (.float .f64 4607182418800017408) (.float .f64 9223372036854775808)).run Tryz.prog W = .ok (.float .f64 18442240474082181120) W :=
  run_float_arith W .quo 22 .f64 _ _ _ (show floatBits .quo .f64 4607182418800017408 9223372036854775808 = some 18442240474082181120 by decide +kernel)
theorem lss_p (W : World) : (binOp .lss 22 (.float .f64 9218868437227405312) (.float .f64 0)).run Tryz.prog W = .ok (.bool false) W := by rw [run_lss0, show (double.order 9218868437227405312 0 == some .lt) = false by decide +kernel]
theorem lss_m (W : World) : (binOp .lss 22 (.float .f64 18442240474082181120) (.float .f64 0)).run Tryz.prog W = .ok (.bool true) W := by rw [run_lss0, show (double.order 18442240474082181120 0 == some .lt) = true by decide +kernel]
theorem feq0 (x : Nat) (h : finB x = true) : Op.floatEq .f64 x 0 = decide (x % 9223372036854775808 = 0) := order_zero x (fin_of h)
set_option maxRecDepth 100000 in
theorem signbit_lx (x : Nat) (hx : x < 18446744073709551616) (w : World) : Calls Tryz.prog 209 #[.float .f64 x] w fun e w' => e = .returned (.bool (decide (9223372036854775808 ≤ x))) ∧ w' = w := by
  have hr := run_bits x
  by_cases h : x < 9223372036854775808
  · have hw : IntKind.i64.wrap (x : Int) = (x : Int) := by rw [IntKind.wrap_i64]; omega
    have hw2 : wrap64 (x : Int) = (x : Int) := by unfold wrap64; omega
    have g : ¬ (x : Int) < 0 := by omega
    rw [decide_eq_false (show ¬ 9223372036854775808 ≤ x by omega)]
    go_enter Tryz.func209, Tryz.ntmps209
    go_wp2_with fail
    go_ret
    exact ⟨by first | rfl | exact ret_bool (by simp [hw, hw2, g]), rfl⟩
  · obtain ⟨y, hy⟩ : ∃ y : Int, (x : Int) - 18446744073709551616 = y := ⟨_, rfl⟩
    have hw : IntKind.i64.wrap (x : Int) = y := by rw [IntKind.wrap_i64]; omega
    have hw2 : wrap64 (x : Int) = y := by unfold wrap64; omega
    have g : y < 0 := by omega
    rw [decide_eq_true (show 9223372036854775808 ≤ x by omega)]
    clear hy
    go_enter Tryz.func209, Tryz.ntmps209
    go_wp2_with fail
    go_ret
    exact ⟨by first | rfl | exact ret_bool (by simp [hw, hw2, g]), rfl⟩
#print axioms signbit_lx
#print axioms geq_fin
end Go.Proofs.YtdmjbhbiehjelaaGreatDoor
