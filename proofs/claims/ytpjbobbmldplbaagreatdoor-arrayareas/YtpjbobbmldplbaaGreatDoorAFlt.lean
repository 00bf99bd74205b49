/- Powers of two as floats: products, quotients, and what whole numbers up to 1023 are. No Go text here. -/
import Derived.Laws.FloatArith
namespace Go.Proofs.YtpjbobbmldplbaaGreatDoor
open Ieee

/-- The float 2^e, for e from -1022 to 1023: e + 1023 by place. -/
def p2 (k : Nat) : Nat := k * 4503599627370496
set_option maxRecDepth 100000 in
theorem p2_sq_all : (List.range 512).all (fun a => floatBits .mul .f64 (p2 (a + 1023)) (p2 (a + 1023)) == some (p2 (a + a + 1023))) = true := by decide +kernel
set_option maxRecDepth 100000 in
theorem p2_two_all : (List.range 1023).all (fun a => floatBits .mul .f64 (p2 (a + 1023)) (p2 1024) == some (p2 (a + 1 + 1023))) = true := by decide +kernel
set_option maxRecDepth 100000 in
theorem p2_inv_all : (List.range 1023).all (fun a => floatBits .quo .f64 (p2 1023) (p2 (a + 1023)) == some (p2 (1023 - a))) = true := by decide +kernel
theorem p2_sq {a : Nat} (h : a < 512) : floatBits .mul .f64 (p2 (a + 1023)) (p2 (a + 1023)) = some (p2 (a + a + 1023)) := by
  simpa using (List.all_eq_true.1 p2_sq_all) a (List.mem_range.2 h)
theorem p2_two {a : Nat} (h : a < 1023) : floatBits .mul .f64 (p2 (a + 1023)) (p2 1024) = some (p2 (a + 1 + 1023)) := by
  simpa using (List.all_eq_true.1 p2_two_all) a (List.mem_range.2 h)
theorem p2_inv {a : Nat} (h : a < 1023) : floatBits .quo .f64 (p2 1023) (p2 (a + 1023)) = some (p2 (1023 - a)) := by
  simpa using (List.all_eq_true.1 p2_inv_all) a (List.mem_range.2 h)
/-- The float of a whole number, told by its place from -1022 on. -/
def yb (i : Nat) : Nat := FloatKind.f64.nearest ((i : Int) - 1022)
def ybOk (i : Nat) : Bool :=
  decide (yb i < 18446744073709551616) && decide (yb i ≠ 9223372036854775808) && decide (yb i % 9223372036854775808 < 9218868437227405312) &&
  (double.write ((double.read (yb i)).integral .zero) == yb i) && (double.order (yb i) (yb i) == some .eq) &&
  (double.order (yb i % 9223372036854775808) 4652218415073722368 != some .gt) && (floatToIntVal .f64 (yb i % 9223372036854775808) .u64 == some (((i : Int) - 1022).natAbs : Int)) &&
  ((double.order (yb i) 0 == some .lt) == decide (i < 1022)) && (double.order (yb i % 9223372036854775808) 4652218415073722368 != none)
set_option maxRecDepth 100000 in
theorem yb_all : (List.range 2046).all ybOk = true := by decide +kernel
theorem yb_ok {i : Nat} (h : i < 2046) : ybOk i = true := List.all_eq_true.1 yb_all i (List.mem_range.2 h)
/-- A power of two by the bits of its exponent, a bit behind the other. -/
theorem shr_step (m j : Nat) : m >>> j = 2 * (m >>> (j + 1)) + (m >>> j) % 2 := by
  rw [Nat.shiftRight_succ]
  omega
#print axioms yb_ok
#print axioms p2_inv
end Go.Proofs.YtpjbobbmldplbaaGreatDoor
