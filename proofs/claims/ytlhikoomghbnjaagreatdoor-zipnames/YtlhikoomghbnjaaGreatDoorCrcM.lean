/- The steps of a sum, one bit and one byte at a time. No Go text here. -/
import Derived.WalkKit
namespace Go.Proofs.YtlhikoomghbnjaaGreatDoor
open Go.RowKit

/-- One bit of a sum. -/
def cstep (s : Nat) : Nat := s / 2 ^^^ (if s % 2 = 1 then 3988292384 else 0)
/-- So many bits. -/
def cstepN : Nat → Nat → Nat
  | 0, s => s
  | n + 1, s => cstepN n (cstep s)
theorem cstepN_succ (n s : Nat) : cstepN (n + 1) s = cstep (cstepN n s) := by
  induction n generalizing s with
  | zero => rfl
  | succ n ih => exact ih (cstep s)
theorem cstep_lt (s : Nat) (h : s < 4294967296) : cstep s < 4294967296 := by
  unfold cstep
  refine Nat.xor_lt_two_pow (n := 32) (by omega) ?_
  split <;> omega
theorem cstepN_lt (n s : Nat) (h : s < 4294967296) : cstepN n s < 4294967296 := by
  induction n generalizing s with
  | zero => exact h
  | succ n ih => exact ih _ (cstep_lt s h)
theorem xor_mod2 (a b : Nat) : (a ^^^ b) % 2 = (a + b) % 2 := by
  have h := Nat.testBit_xor a b 0
  simp only [Nat.testBit_zero] at h
  rcases Nat.mod_two_eq_zero_or_one a with ha | ha <;> rcases Nat.mod_two_eq_zero_or_one b with hb | hb <;> rcases Nat.mod_two_eq_zero_or_one (a ^^^ b) with hc | hc <;> simp [ha, hb, hc] at h <;> omega
theorem xor_div2 (a b : Nat) : (a ^^^ b) / 2 = a / 2 ^^^ b / 2 := by
  have h := Nat.shiftRight_xor_distrib (a := a) (b := b) (i := 1)
  simpa [Nat.shiftRight_eq_div_pow] using h
theorem cstep_xor (a b : Nat) : cstep (a ^^^ b) = cstep a ^^^ cstep b := by
  unfold cstep
  rw [xor_div2, xor_mod2]
  rcases Nat.mod_two_eq_zero_or_one a with ha | ha <;> rcases Nat.mod_two_eq_zero_or_one b with hb | hb
  · have : (a + b) % 2 = 0 := by omega
    simp [ha, hb, this]
  · have : (a + b) % 2 = 1 := by omega
    simp [ha, hb, this, Nat.xor_assoc]
  · have : (a + b) % 2 = 1 := by omega
    simp only [ha, hb, this]
    simp only [if_true, if_false, Nat.xor_zero, Nat.zero_ne_one]
    rw [Nat.xor_assoc, Nat.xor_assoc, Nat.xor_comm (b / 2)]
  · have : (a + b) % 2 = 0 := by omega
    simp only [ha, hb, this, reduceIte, Nat.zero_ne_one, Nat.xor_zero]
    rw [Nat.xor_assoc, ← Nat.xor_assoc 3988292384, Nat.xor_comm 3988292384 (b / 2), Nat.xor_assoc (b / 2), Nat.xor_self, Nat.xor_zero]
theorem cstepN_xor (n a b : Nat) : cstepN n (a ^^^ b) = cstepN n a ^^^ cstepN n b := by
  induction n generalizing a b with
  | zero => rfl
  | succ n ih => simp only [cstepN]; rw [cstep_xor, ih]
theorem cstepN_high (n h : Nat) : cstepN n (2 ^ n * h) = h := by
  induction n generalizing h with
  | zero => simp [cstepN]
  | succ n ih =>
    have e : cstep (2 ^ (n + 1) * h) = 2 ^ n * h := by
      unfold cstep
      have e1 : 2 ^ (n + 1) * h = 2 * (2 ^ n * h) := by rw [Nat.pow_succ]; ac_rfl
      have e2 : 2 * (2 ^ n * h) % 2 = 0 := by omega
      have e3 : 2 * (2 ^ n * h) / 2 = 2 ^ n * h := by omega
      rw [e1, e2, e3]
      simp
    simp only [cstepN]
    rw [e, ih]
theorem split256 (s : Nat) : s = 2 ^ 8 * (s / 256) ^^^ s % 256 := by
  have h : 2 ^ 8 * (s / 256) + s % 256 = 2 ^ 8 * (s / 256) ||| s % 256 := Nat.two_pow_add_eq_or_of_lt (i := 8) (by omega) (s / 256)
  have e : 2 ^ 8 * (s / 256) ||| s % 256 = 2 ^ 8 * (s / 256) ^^^ s % 256 := by
    apply Nat.eq_of_testBit_eq
    intro i
    rw [Nat.testBit_or, Nat.testBit_xor]
    by_cases hi : i < 8
    · have : (2 ^ 8 * (s / 256)).testBit i = false := by
        rw [Nat.testBit_two_pow_mul]
        simp [show ¬ 8 ≤ i by omega]
      simp [this]
    · have : (s % 256).testBit i = false := Nat.testBit_lt_two_pow (Nat.lt_of_lt_of_le (show s % 256 < 2 ^ 8 by omega) (Nat.pow_le_pow_right (by decide) (by omega)))
      simp [this]
  rw [← e, ← h]
  omega
/-- Eight bits at once, by a table of what a byte comes to. -/
theorem cstep8 (s c : Nat) : cstepN 8 (s ^^^ c) = s / 256 ^^^ cstepN 8 (s % 256 ^^^ c) := by
  rw [cstepN_xor 8 s c, cstepN_xor 8 (s % 256) c, ← Nat.xor_assoc]
  congr 1
  have h := congrArg (cstepN 8) (split256 s)
  rw [cstepN_xor, cstepN_high] at h
  exact h
/-- A sum gone on with. -/
def crcF : Nat → List Nat → Nat
  | s, [] => s
  | s, c :: B => crcF (cstepN 8 (s ^^^ c)) B
theorem crcF_lt (B : List Nat) (hB : ∀ x ∈ B, x < 256) (s : Nat) (h : s < 4294967296) : crcF s B < 4294967296 := by
  induction B generalizing s with
  | nil => exact h
  | cons c B ih =>
    have hc := hB c (by simp)
    exact ih (fun x hx => hB x (by simp [hx])) _ (cstepN_lt 8 _ (Nat.xor_lt_two_pow (n := 32) (by omega) (by omega)))
/-- The sum of bytes. -/
def crc (B : List Nat) : Nat := 4294967295 - crcF 4294967295 B
theorem xor_ones32 (b : Nat) (hb : b < 2 ^ 32) : 4294967295 ^^^ b = 4294967295 - b := by
  apply Nat.eq_of_testBit_eq
  intro i
  have e : 4294967295 - b = 2 ^ 32 - (b + 1) := by omega
  have e2 : (4294967295 : Nat) = 2 ^ 32 - 1 := by decide
  rw [Nat.testBit_xor, e, Nat.testBit_two_pow_sub_succ hb, e2, Nat.testBit_two_pow_sub_one]
  by_cases hi : i < 32
  · simp [hi]
  · have : b.testBit i = false := Nat.testBit_lt_two_pow (Nat.lt_of_lt_of_le hb (Nat.pow_le_pow_right (by decide) (by omega)))
    simp [hi, this]
#print axioms cstep8
end Go.Proofs.YtlhikoomghbnjaaGreatDoor
