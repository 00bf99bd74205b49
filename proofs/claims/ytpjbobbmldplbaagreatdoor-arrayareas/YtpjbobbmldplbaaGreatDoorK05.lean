/- finite, floors and days: the program's contracts. -/
import Derived.Test.YtpjbobbmldplbaaGreatDoorNDat
import Derived.Laws.Externs
namespace Go.Proofs.YtpjbobbmldplbaaGreatDoor
open Go.RowKit Ieee

theorem ext_bits (args : Array Value) (w : World) : (callFunc 30 args).run Tryz.prog w = ((Extern.MathFloatBits.float64bits args).run Tryz.prog w).andThen fun v w' => .ok (.value v) w' :=
  run_callFunc_extern Tryz.func30 (by kernel_rfl) (by kernel_rfl) (by kernel_rfl) (by kernel_rfl) args w
theorem ext_from (args : Array Value) (w : World) : (callFunc 83 args).run Tryz.prog w = ((Extern.MathFloatBits.float64frombits args).run Tryz.prog w).andThen fun v w' => .ok (.value v) w' :=
  run_callFunc_extern Tryz.func83 (by kernel_rfl) (by kernel_rfl) (by kernel_rfl) (by kernel_rfl) args w
theorem run_bits (x : Nat) (w : World) : (callFunc 30 #[.float .f64 x]).run Tryz.prog w = .ok (.value (.int .u64 (x : Int))) w := by rw [ext_bits]; rfl
theorem run_from (x : Nat) (w : World) : (callFunc 83 #[.int .u64 (x : Int)]).run Tryz.prog w = .ok (.value (.float .f64 x)) w := by rw [ext_from]; rfl

set_option maxRecDepth 100000 in
theorem isNaN_any (x : Nat) (w : World) : Calls Tryz.prog 70 #[.float .f64 x] w fun e w' => e = .returned (.bool (double.order x x != some .eq)) ∧ w' = w := by
  go_enter Tryz.func70, Tryz.ntmps70
  go_wp2_with fail
  go_ret
  exact ⟨rfl, rfl⟩
theorem absBits (x : Nat) (hx : x < 18446744073709551616) : bits .andNot .u64 (x : Int) 9223372036854775808 = ((x % 9223372036854775808 : Nat) : Int) := by
  rw [show (9223372036854775808 : Int) = ((9223372036854775808 : Nat) : Int) from rfl, u64_andNot_nat x _ hx (by omega)]
  congr 1
  exact Nat.and_two_pow_sub_one_eq_mod x 63
set_option maxRecDepth 100000 in
theorem abs_any (x : Nat) (hx : x < 18446744073709551616) (w : World) : Calls Tryz.prog 74 #[.float .f64 x] w fun e w' => e = .returned (.float .f64 (x % 9223372036854775808)) ∧ w' = w := by
  have h1 := run_bits x w
  have h2 := run_from (x % 9223372036854775808) w
  have h3 := absBits x hx
  generalize x % 9223372036854775808 = y at *
  go_enter Tryz.func74, Tryz.ntmps74
  go_wp2_with fail
  go_ret
  exact ⟨rfl, rfl⟩
set_option maxRecDepth 100000 in
theorem isInf_any (x : Nat) (hx : x < 18446744073709551616) (w : World) : Calls Tryz.prog 71 #[.float .f64 x, .int .i64 0] w fun e w' => e = .returned (.bool (double.order (x % 9223372036854775808) 9218868437227405311 == some .gt)) ∧ w' = w := by
  have HA := abs_any x hx
  go_enter Tryz.func71, Tryz.ntmps71
  go_wp2_with (go_at_call 74; refine (HA _).mono ?_; rintro e w1 ⟨rfl, rfl⟩)
  go_ret
  exact ⟨rfl, rfl⟩

/-- Is it a number? -/
def finB (x : Nat) : Bool := match double.read x with
  | .number .. => true
  | _ => false
theorem fin_of {x : Nat} (h : finB x = true) : Fin x := by
  unfold finB at h
  cases hr : double.read x with
  | number s m e => exact ⟨_, _, _, hr⟩
  | infinity s => rw [hr] at h; cases h
  | nan s t => rw [hr] at h; cases h
theorem finB_of {x : Nat} (h : Fin x) : finB x = true := by
  obtain ⟨s, m, e, hr⟩ := h
  unfold finB
  rw [hr]
/-- The word without its sign. -/
theorem read_abs (x : Nat) : double.read (x % 9223372036854775808) = match double.read x with
    | .number _ m e => .number false m e
    | .infinity _ => .infinity false
    | .nan _ t => .nan false t := by
  unfold Format.read
  dsimp only
  rw [signWeight_d]
  have h1 : x % 9223372036854775808 / 9223372036854775808 = 0 := by omega
  have h2 : x % 9223372036854775808 % 9223372036854775808 = x % 9223372036854775808 := by omega
  rw [h1, h2]
  split <;> (try rfl)
  split <;> (try rfl)
  split <;> rfl
theorem order_self (x : Nat) : double.order x x = match double.read x with
    | .nan .. => none
    | _ => some .eq := by
  unfold Format.order
  cases double.read x with
  | number s m e => simp [Datum.order]
  | infinity s => simp [Datum.order]
  | nan s t => rfl
theorem read_max : double.read 9218868437227405311 = .number false 9007199254740991 971 := by decide
theorem order_not_gt {x y : Nat} (hx : Fin x) (hy : Fin y) (h : V x ≤ V y) : (double.order x y == some .gt) = false := by
  rw [order_V hx hy]
  have hc : compare (V x) (V y) ≠ .gt := by
    intro h'
    rw [Int.compare_eq_gt] at h'
    omega
  simp [hc]
theorem V_le_max {y m : Nat} {e : Int} (h : double.read y = .number false m e) : V y ≤ V 9218868437227405311 := by
  obtain ⟨b1, b2, b3⟩ := read_number h
  obtain ⟨q, hq⟩ : ∃ q : Int, q = 971 := ⟨_, rfl⟩
  have hm := read_max
  rw [← hq] at hm b2
  rw [V_number h, V_number hm]
  have hle : m * 2 ^ (e + 1074).toNat ≤ 9007199254740991 * 2 ^ (q + 1074).toNat := Nat.mul_le_mul (by omega) (Nat.pow_le_pow_right (by omega) (by omega))
  simp only [Bool.false_eq_true, if_false]
  rw [Int.one_mul, Int.one_mul]
  exact Int.ofNat_le.2 hle
theorem finite_eq (x : Nat) : (!(double.order x x != some .eq) && !(double.order (x % 9223372036854775808) 9218868437227405311 == some .gt)) = finB x := by
  rw [order_self]
  unfold finB
  cases hr : double.read x with
  | nan s t => simp
  | infinity s =>
    have h := read_abs x
    rw [hr] at h
    unfold Format.order
    rw [h, read_max]
    rfl
  | number s m e =>
    have h := read_abs x
    rw [hr] at h
    rw [order_not_gt ⟨_, _, _, h⟩ ⟨_, _, _, read_max⟩ (V_le_max h)]
    rfl
set_option maxRecDepth 100000 in
theorem finite_any (x : Nat) (hx : x < 18446744073709551616) (w : World) : Calls Tryz.prog 123 #[.float .f64 x] w fun e w' => e = .returned (.bool (finB x)) ∧ w' = w := by
  have HN := isNaN_any x
  have HI := isInf_any x hx
  have hf := finite_eq x
  generalize (double.order x x != some .eq) = a at *
  generalize (double.order (x % 9223372036854775808) 9218868437227405311 == some .gt) = b at *
  rw [← hf]
  clear hf
  cases a <;> cases b <;> (
    go_enter Tryz.func123, Tryz.ntmps123
    go_wp2_with (first | (go_at_call 70; refine (HN _).mono ?_; rintro e w1 ⟨rfl, rfl⟩) | (go_at_call 71; refine (HI _).mono ?_; rintro e w1 ⟨rfl, rfl⟩))
    go_ret
    exact ⟨rfl, rfl⟩)
#print axioms finite_any
end Go.Proofs.YtpjbobbmldplbaaGreatDoor
/- dayOf, ToDate, Weekday: the program's contracts. -/
namespace Go.Proofs.YtpjbobbmldplbaaGreatDoor
open Go.RowKit Ieee

/-- A float against a whole number: how they stand. -/
theorem order_int {b c : Nat} {f n : Int} (hb : Fin b) (hf : V b = f * (D : Int)) (hc : c = FloatKind.f64.nearest n) (h1 : -9007199254740992 ≤ n) (h2 : n ≤ 9007199254740992) : double.order b c = some (compare f n) := by
  subst hc
  obtain ⟨k1, k2⟩ := ofInt_V n h1 h2
  rw [order_V hb k1, hf, k2, cmp_ints]
theorem cmp_lt (f n : Int) : (some (compare f n) == some Ordering.lt) = decide (f < n) := by
  rw [Bool.eq_iff_iff]
  simp [Int.compare_eq_lt]
theorem cmp_gt (f n : Int) : (some (compare f n) == some Ordering.gt) = decide (n < f) := by
  rw [Bool.eq_iff_iff]
  simp [Int.compare_eq_gt]
theorem cmp_eq (f n : Int) : (some (compare f n) == some Ordering.eq) = decide (f = n) := by
  rw [Bool.eq_iff_iff]
  simp

theorem results_tmp4 {fn : Func} {t u v x : Tmp} (h : fn.results = #[.tmp t, .tmp u, .tmp v, .tmp x]) (tmps : Array Value) (P : Program) (w : World) :
    (results fn tmps).run P w = .ok (.tuple #[tmps.getD t undef, tmps.getD u undef, tmps.getD v undef, tmps.getD x undef]) w := by
  simp [results, h]
theorem results_tmp5 {fn : Func} {t u v x y : Tmp} (h : fn.results = #[.tmp t, .tmp u, .tmp v, .tmp x, .tmp y]) (tmps : Array Value) (P : Program) (w : World) :
    (results fn tmps).run P w = .ok (.tuple #[tmps.getD t undef, tmps.getD u undef, tmps.getD v undef, tmps.getD x undef, tmps.getD y undef]) w := by
  simp [results, h]
end Go.Proofs.YtpjbobbmldplbaaGreatDoor
/- Floats that are nought. No Go text here. -/
namespace Go.Proofs.YtpjbobbmldplbaaGreatDoor
open Go.RowKit Ieee

theorem fin_iff (x : Nat) : finB x = true ↔ x % 9223372036854775808 < 9218868437227405312 := by
  unfold finB Format.read
  dsimp only
  rw [signWeight_d]
  have hb := binade_d
  have hi := infRung_d
  by_cases c1 : x % 9223372036854775808 < double.binade
  · rw [if_pos c1]; simp; omega
  · rw [if_neg c1]
    by_cases c2 : x % 9223372036854775808 < double.infRung
    · rw [if_pos c2]; simp; omega
    · rw [if_neg c2]
      by_cases c3 : x % 9223372036854775808 = double.infRung
      · rw [if_pos c3]; simp; omega
      · rw [if_neg c3]; simp; omega
theorem V_zero_iff {x : Nat} (hf : Fin x) : V x = 0 ↔ x % 9223372036854775808 = 0 := by
  obtain ⟨s, m, e, hr⟩ := hf
  rw [V_number hr]
  have hp := Nat.two_pow_pos (e + 1074).toNat
  have hm : m = 0 ↔ x % 9223372036854775808 = 0 := by
    unfold Format.read at hr
    dsimp only at hr
    rw [signWeight_d] at hr
    split at hr
    · injection hr with _ h2 _
      omega
    · rename_i c1
      have hb := binade_d
      split at hr
      · injection hr with _ h2 _
        omega
      · split at hr <;> cases hr
  rw [← hm]
  constructor
  · intro h
    have h2 : ((m * 2 ^ (e + 1074).toNat : Nat) : Int) = 0 := by
      cases s <;> simp at h ⊢ <;> exact h
    have h3 : m * 2 ^ (e + 1074).toNat = 0 := by omega
    rcases Nat.mul_eq_zero.1 h3 with h | h
    · exact h
    · omega
  · rintro rfl; simp
theorem zero_V : V 0 = 0 := by
  have h : double.read 0 = .number false 0 (-1074) := by decide
  rw [V_number h]; simp
theorem zero_fin : Fin 0 := ⟨false, 0, -1074, by decide⟩
theorem order_zero (x : Nat) (hf : Fin x) : (FloatKind.f64.format.order x 0 == some .eq) = decide (x % 9223372036854775808 = 0) := by
  show (double.order x 0 == some .eq) = _
  rw [order_V hf zero_fin, zero_V, cmp_eq]
  exact decide_eq_decide.2 (V_zero_iff hf)

#print axioms order_zero
end Go.Proofs.YtpjbobbmldplbaaGreatDoor
