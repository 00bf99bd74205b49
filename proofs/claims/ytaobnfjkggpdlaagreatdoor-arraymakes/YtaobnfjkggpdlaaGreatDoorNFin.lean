/- finite, floors and days: the program's contracts. -/
import Derived.Test.YtaobnfjkggpdlaaGreatDoorNDat
import Derived.Laws.Externs
namespace Go.Proofs.YtaobnfjkggpdlaaGreatDoor
open Go.RowKit Ieee

theorem ext_bits (args : Array Value) (w : World) : (callFunc 44 args).run Tryz.prog w = ((Extern.MathFloatBits.float64bits args).run Tryz.prog w).andThen fun v w' => .ok (.value v) w' :=
  run_callFunc_extern Tryz.func44 (by kernel_rfl) (by kernel_rfl) (by kernel_rfl) (by kernel_rfl) args w
theorem ext_from (args : Array Value) (w : World) : (callFunc 31 args).run Tryz.prog w = ((Extern.MathFloatBits.float64frombits args).run Tryz.prog w).andThen fun v w' => .ok (.value v) w' :=
  run_callFunc_extern Tryz.func31 (by kernel_rfl) (by kernel_rfl) (by kernel_rfl) (by kernel_rfl) args w
theorem run_bits (x : Nat) (w : World) : (callFunc 44 #[.float .f64 x]).run Tryz.prog w = .ok (.value (.int .u64 (x : Int))) w := by rw [ext_bits]; rfl
theorem run_from (x : Nat) (w : World) : (callFunc 31 #[.int .u64 (x : Int)]).run Tryz.prog w = .ok (.value (.float .f64 x)) w := by rw [ext_from]; rfl

set_option maxRecDepth 100000 in
theorem isNaN_any (x : Nat) (w : World) : Calls Tryz.prog 88 #[.float .f64 x] w fun e w' => e = .returned (.bool (double.order x x != some .eq)) ∧ w' = w := by
  go_enter Tryz.func88, Tryz.ntmps88
  go_wp2_with fail
  go_ret
  exact ⟨rfl, rfl⟩
theorem absBits (x : Nat) (hx : x < 18446744073709551616) : bits .andNot .u64 (x : Int) 9223372036854775808 = ((x % 9223372036854775808 : Nat) : Int) := by
  rw [show (9223372036854775808 : Int) = ((9223372036854775808 : Nat) : Int) from rfl, u64_andNot_nat x _ hx (by omega)]
  congr 1
  exact Nat.and_two_pow_sub_one_eq_mod x 63
set_option maxRecDepth 100000 in
theorem abs_any (x : Nat) (hx : x < 18446744073709551616) (w : World) : Calls Tryz.prog 93 #[.float .f64 x] w fun e w' => e = .returned (.float .f64 (x % 9223372036854775808)) ∧ w' = w := by
  have h1 := run_bits x w
  have h2 := run_from (x % 9223372036854775808) w
  have h3 := absBits x hx
  generalize x % 9223372036854775808 = y at *
  go_enter Tryz.func93, Tryz.ntmps93
  go_wp2_with fail
  go_ret
  exact ⟨rfl, rfl⟩
set_option maxRecDepth 100000 in
theorem isInf_any (x : Nat) (hx : x < 18446744073709551616) (w : World) : Calls Tryz.prog 89 #[.float .f64 x, .int .i64 0] w fun e w' => e = .returned (.bool (double.order (x % 9223372036854775808) 9218868437227405311 == some .gt)) ∧ w' = w := by
  have HA := abs_any x hx
  go_enter Tryz.func89, Tryz.ntmps89
  go_wp2_with (go_at_call 93; refine (HA _).mono ?_; rintro e w1 ⟨rfl, rfl⟩)
  go_ret
  exact ⟨rfl, rfl⟩

/-- Is it a number? -/
def finB (x : Nat) : Bool := match double.read x with
  | .number .. => true
  | _ => false
theorem fin_of {x : Nat} (h : finB x = true) : Fin x := by
  unfold finB at h
  cases hr : double.read x with
  | number s m e => exact ⟨_, _, _, hr⟩
  | infinity s => rw [hr] at h; cases h
  | nan s t => rw [hr] at h; cases h
theorem finB_of {x : Nat} (h : Fin x) : finB x = true := by
  obtain ⟨s, m, e, hr⟩ := h
  unfold finB
  rw [hr]
/-- The word without its sign. -/
theorem read_abs (x : Nat) : double.read (x % 9223372036854775808) = match double.read x with
    | .number _ m e => .number false m e
    | .infinity _ => .infinity false
    | .nan _ t => .nan false t := by
  unfold Format.read
  dsimp only
  rw [signWeight_d]
  have h1 : x % 9223372036854775808 / 9223372036854775808 = 0 := by omega
  have h2 : x % 9223372036854775808 % 9223372036854775808 = x % 9223372036854775808 := by omega
  rw [h1, h2]
  split <;> (try rfl)
  split <;> (try rfl)
  split <;> rfl
theorem order_self (x : Nat) : double.order x x = match double.read x with
    | .nan .. => none
    | _ => some .eq := by
  unfold Format.order
  cases double.read x with
  | number s m e => simp [Datum.order]
  | infinity s => simp [Datum.order]
  | nan s t => rfl
theorem read_max : double.read 9218868437227405311 = .number false 9007199254740991 971 := by decide
theorem order_not_gt {x y : Nat} (hx : Fin x) (hy : Fin y) (h : V x ≤ V y) : (double.order x y == some .gt) = false := by
  rw [order_V hx hy]
  have hc : compare (V x) (V y) ≠ .gt := by
    intro h'
    rw [Int.compare_eq_gt] at h'
    omega
  simp [hc]
theorem V_le_max {y m : Nat} {e : Int} (h : double.read y = .number false m e) : V y ≤ V 9218868437227405311 := by
  obtain ⟨b1, b2, b3⟩ := read_number h
  obtain ⟨q, hq⟩ : ∃ q : Int, q = 971 := ⟨_, rfl⟩
  have hm := read_max
  rw [← hq] at hm b2
  rw [V_number h, V_number hm]
  have hle : m * 2 ^ (e + 1074).toNat ≤ 9007199254740991 * 2 ^ (q + 1074).toNat := Nat.mul_le_mul (by omega) (Nat.pow_le_pow_right (by omega) (by omega))
  simp only [Bool.false_eq_true, if_false]
  rw [Int.one_mul, Int.one_mul]
  exact Int.ofNat_le.2 hle
theorem finite_eq (x : Nat) : (!(double.order x x != some .eq) && !(double.order (x % 9223372036854775808) 9218868437227405311 == some .gt)) = finB x := by
  rw [order_self]
  unfold finB
  cases hr : double.read x with
  | nan s t => simp
  | infinity s =>
    have h := read_abs x
    rw [hr] at h
    unfold Format.order
    rw [h, read_max]
    rfl
  | number s m e =>
    have h := read_abs x
    rw [hr] at h
    rw [order_not_gt ⟨_, _, _, h⟩ ⟨_, _, _, read_max⟩ (V_le_max h)]
    rfl
set_option maxRecDepth 100000 in
theorem finite_any (x : Nat) (hx : x < 18446744073709551616) (w : World) : Calls Tryz.prog 140 #[.float .f64 x] w fun e w' => e = .returned (.bool (finB x)) ∧ w' = w := by
  have HN := isNaN_any x
  have HI := isInf_any x hx
  have hf := finite_eq x
  generalize (double.order x x != some .eq) = a at *
  generalize (double.order (x % 9223372036854775808) 9218868437227405311 == some .gt) = b at *
  rw [← hf]
  clear hf
  cases a <;> cases b <;> (
    go_enter Tryz.func140, Tryz.ntmps140
    go_wp2_with (first | (go_at_call 88; refine (HN _).mono ?_; rintro e w1 ⟨rfl, rfl⟩) | (go_at_call 89; refine (HI _).mono ?_; rintro e w1 ⟨rfl, rfl⟩))
    go_ret
    exact ⟨rfl, rfl⟩)
#print axioms finite_any
end Go.Proofs.YtaobnfjkggpdlaaGreatDoor
