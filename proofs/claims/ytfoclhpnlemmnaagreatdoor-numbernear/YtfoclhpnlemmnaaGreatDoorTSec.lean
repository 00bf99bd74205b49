/- The seconds of a number that is not below nought; a number with the other sign. -/
import Derived.Test.YtfoclhpnlemmnaaGreatDoorTDtx
namespace Go.Proofs.YtfoclhpnlemmnaaGreatDoor
open Go.RowKit Ieee

theorem neg_word (x : Nat) (hx : x < 18446744073709551616) : Op.negFloat .f64 x % 9223372036854775808 = x % 9223372036854775808 ∧ Op.negFloat .f64 x / 9223372036854775808 = 1 - x / 9223372036854775808 := by
  have e : Op.negFloat .f64 x = x ^^^ 2 ^ 63 := rfl
  have hp : (9223372036854775808 : Nat) = 2 ^ 63 := rfl
  rw [e, hp, Nat.xor_mod_two_pow, Nat.xor_div_two_pow]
  refine ⟨by simp, ?_⟩
  have h1 : x / 2 ^ 63 = 0 ∨ x / 2 ^ 63 = 1 := by omega
  rcases h1 with h | h
  · rw [h]; decide
  · rw [h]; decide
theorem neg_lt (x : Nat) (hx : x < 18446744073709551616) : Op.negFloat .f64 x < 18446744073709551616 := by
  obtain ⟨h1, h2⟩ := neg_word x hx
  have := Nat.div_add_mod (Op.negFloat .f64 x) 9223372036854775808
  omega
theorem read_neg (x : Nat) (hx : x < 18446744073709551616) : double.read (Op.negFloat .f64 x) = (double.read x).opposite := by
  obtain ⟨h1, h2⟩ := neg_word x hx
  have hs : (Op.negFloat .f64 x / 9223372036854775808 % 2 == 1) = !(x / 9223372036854775808 % 2 == 1) := by
    rw [h2]
    have h1 : x / 9223372036854775808 = 0 ∨ x / 9223372036854775808 = 1 := by omega
    rcases h1 with h | h
    · rw [h]; rfl
    · rw [h]; rfl
  unfold Format.read
  dsimp only
  rw [signWeight_d, h1, hs]
  by_cases c1 : x % 9223372036854775808 < double.binade
  · rw [if_pos c1, if_pos c1]; rfl
  · rw [if_neg c1, if_neg c1]
    by_cases c2 : x % 9223372036854775808 < double.infRung
    · rw [if_pos c2, if_pos c2]; rfl
    · rw [if_neg c2, if_neg c2]
      by_cases c3 : x % 9223372036854775808 = double.infRung
      · rw [if_pos c3, if_pos c3]; rfl
      · rw [if_neg c3, if_neg c3]; rfl
theorem neg_V {x : Nat} (hx : x < 18446744073709551616) (hf : Fin x) : Fin (Op.negFloat .f64 x) ∧ V (Op.negFloat .f64 x) = -V x := by
  obtain ⟨s, m, i, hr⟩ := hf
  have h := read_neg x hx
  rw [hr] at h
  refine ⟨⟨_, _, _, h⟩, ?_⟩
  rw [V_number h, V_number hr]
  cases s <;> simp
theorem low_V {x : Nat} (h : x < 9223372036854775808) (hn : NoNaN x) : (Fin x ∧ 0 ≤ V x) ∨ double.read x = .infinity false := by
  have hs : (x / 9223372036854775808 % 2 == 1) = false := by rw [Nat.div_eq_of_lt h]; rfl
  rcases hn with hf | ⟨s, hi⟩
  · obtain ⟨s, m, i, hr⟩ := hf
    have hsf : s = false := by
      have h' := hr
      unfold Format.read at h'
      simp only [signWeight_d, hs] at h'
      split at h'
      · injection h' with e1 _ _; exact e1.symm
      · split at h'
        · injection h' with e1 _ _; exact e1.symm
        · split at h' <;> cases h'
    subst hsf
    left
    refine ⟨⟨_, _, _, hr⟩, ?_⟩
    rw [V_number hr]
    simp only [Bool.false_eq_true, if_false, Int.one_mul]
    exact Int.natCast_nonneg _
  · right
    unfold Format.read at hi ⊢
    simp only [signWeight_d, hs] at hi ⊢
    split at hi
    · cases hi
    · rename_i c1
      split at hi
      · cases hi
      · rename_i c2
        split at hi
        · rename_i c3
          rw [if_neg c1, if_neg c2, if_pos c3]
        · cases hi
theorem nearest_low (mag : Nat) (place : Int) : double.nearest false mag place < 9223372036854775808 := by
  unfold Format.nearest
  split
  · decide
  · unfold Format.word
    simp only [Bool.false_eq_true, if_false, infRung_d]
    omega
theorem read_half : double.read 4602678819172646912 = .number false 4503599627370496 (-53) := by decide
/-- The seconds of what is not below nought are not below nought. -/
theorem secQ_low {y : Nat} (hy : Fin y) (h0 : 0 ≤ V y) : (Fin (secQ y) ∧ 0 ≤ V (secQ y)) ∨ double.read (secQ y) = .infinity false := by
  obtain ⟨p, h1, h2, h3⟩ := secQ_spec hy
  obtain ⟨s, m, i, hr⟩ := hy
  have h1' : double.mul y 4680673776000565248 = some p := h1
  have h2' : double.add p 4602678819172646912 = some (secQ y) := h2
  unfold Format.mul at h1'
  rw [hr, read_86400] at h1'
  simp only [Datum.product, Option.map_some, Option.some.injEq] at h1'
  have h1'' : double.nearest (s ^^ false) (m * 5937362789990400) (i + -36) = p := h1'
  have hpos : m = 0 ∨ s = false := by
    rw [V_number hr] at h0
    cases s with
    | false => exact Or.inr rfl
    | true =>
      left
      simp only [if_true] at h0
      rcases Nat.eq_zero_or_pos m with h | h
      · exact h
      · have : 0 < m * 2 ^ (i + 1074).toNat := Nat.mul_pos h (Nat.two_pow_pos _)
        omega
  have hp : (Fin p ∧ 0 ≤ V p) ∨ double.read p = .infinity false := by
    obtain ⟨r, hr1, hr2⟩ := mul_fin (x := y) (y := 4680673776000565248) ⟨s, m, i, hr⟩ ⟨_, _, _, read_86400⟩
    have : r = p := by rw [hr1] at h1; exact Option.some.inj h1
    subst this
    rcases hpos with h | h
    · subst h
      rw [Nat.zero_mul] at h1''
      unfold Format.nearest at h1''
      rw [if_pos rfl] at h1''
      left
      rw [← h1'']
      have hz := read_low (s := (s ^^ false)) (k := 0) (by omega)
      refine ⟨⟨_, _, _, hz⟩, ?_⟩
      rw [V_number hz]
      simp
    · subst h
      rw [← h1''] at hr2 ⊢
      exact low_V (nearest_low _ _) hr2
  unfold Format.add at h2'
  rcases hp with ⟨⟨t, n, j, hpr⟩, hp0⟩ | hp
  · rw [hpr, read_half] at h2'
    simp only [Datum.sum, Option.map_some, Option.some.injEq] at h2'
    obtain ⟨T, hT⟩ : ∃ T, signed t n (j - min j (-53)).toNat + signed false 4503599627370496 (-53 - min j (-53)).toNat = T := ⟨_, rfl⟩
    rw [hT] at h2'
    have hT0 : 0 < T := by
      rw [← hT, signed_eq, signed_eq]
      have hA : 0 ≤ (if t then -1 else 1) * ((n * 2 ^ (j - min j (-53)).toNat : Nat) : Int) := by
        rw [V_number hpr] at hp0
        cases t with
        | false => simp only [Bool.false_eq_true, if_false, Int.one_mul]; exact Int.natCast_nonneg _
        | true =>
          simp only [if_true] at hp0 ⊢
          have : n = 0 := by
            rcases Nat.eq_zero_or_pos n with h | h
            · exact h
            · have : 0 < n * 2 ^ (j + 1074).toNat := Nat.mul_pos h (Nat.two_pow_pos _)
              omega
          subst this
          simp
      have hB : 0 < 4503599627370496 * 2 ^ (-53 - min j (-53) : Int).toNat := Nat.mul_pos (by omega) (Nat.two_pow_pos _)
      simp only [Bool.false_eq_true, if_false, Int.one_mul]
      omega
    rw [if_neg (by omega), show decide (T < 0) = false by simp; omega] at h2'
    have h2'' : double.nearest false T.natAbs (min j (-53)) = secQ y := h2'
    rw [← h2''] at h3 ⊢
    exact low_V (nearest_low _ _) h3
  · rw [hp, read_half] at h2'
    simp only [Datum.sum, Option.map_some, Option.some.injEq] at h2'
    right
    rw [← h2']
    decide
theorem V_lt0 {x : Nat} (hf : Fin x) : (FloatKind.f64.format.order x 0 == some .lt) = decide (V x < 0) := by
  show (double.order x 0 == some .lt) = _
  rw [order_V hf zero_fin, zero_V, cmp_lt]
theorem fl_nonneg {x : Nat} (h : 0 ≤ V x) : 0 ≤ fl x := Int.ediv_nonneg h (by omega)
#print axioms secQ_low
#print axioms neg_V
end Go.Proofs.YtfoclhpnlemmnaaGreatDoor
