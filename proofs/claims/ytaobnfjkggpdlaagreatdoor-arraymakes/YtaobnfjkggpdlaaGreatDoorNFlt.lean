/- Floats of 64 bits as whole numbers of the least one: what they are, exact results, floors. No Go text here. -/
import Derived.Laws.FloatArith
namespace Go.Proofs.YtaobnfjkggpdlaaGreatDoor
open Ieee

/-- How many of the least float make 1. -/
def dBits : Nat := 1074
def D : Nat := 2 ^ dBits
theorem D_pos : 0 < D := Nat.two_pow_pos dBits
theorem dBits_eq : dBits = 1074 := rfl
theorem D_eq : D = 2 ^ dBits := rfl

/-- The word is a number, no infinity and no NaN. -/
def Fin (x : Nat) : Prop := ∃ s m e, double.read x = .number s m e
/-- A datum as a whole number of the least float. -/
def vOf : Datum → Int
  | .number s m e => signed s m (e + 1074).toNat
  | _ => 0
def V (x : Nat) : Int := vOf (double.read x)

theorem leastPlace_d : double.leastPlace = -1074 := rfl
theorem binade_d : double.binade = 4503599627370496 := rfl
theorem infRung_d : double.infRung = 2047 * 4503599627370496 := rfl
theorem signWeight_d : double.signWeight = 9223372036854775808 := rfl

theorem read_number {x : Nat} {s : Bool} {m : Nat} {e : Int} (h : double.read x = .number s m e) : -1074 ≤ e ∧ e ≤ 971 ∧ m < 9007199254740992 := by
  unfold Format.read at h
  dsimp only at h
  split at h
  · rename_i c
    injection h with h1 h2 h3
    rw [binade_d] at c
    rw [leastPlace_d] at h3
    omega
  · split at h
    · rename_i c1 c2
      injection h with h1 h2 h3
      rw [leastPlace_d] at h3
      rw [infRung_d] at c2
      rw [binade_d] at c1 h2 h3
      omega
    · split at h <;> cases h

theorem signed_mul (s : Bool) (m a b : Nat) : signed s m (a + b) = signed s m a * ((2 ^ b : Nat) : Int) := by
  unfold signed
  cases s <;> simp [Nat.shiftLeft_eq, Nat.pow_add, Int.mul_assoc, Int.neg_mul]

theorem compare_mul (a b : Int) (k : Nat) (hk : 0 < k) : compare (a * (k : Int)) (b * (k : Int)) = compare a b := by
  have hk' : (0 : Int) < (k : Int) := by omega
  rcases Int.lt_trichotomy a b with h | h | h
  · have h2 : a * (k : Int) < b * (k : Int) := Int.mul_lt_mul_of_pos_right h hk'
    rw [Int.compare_eq_lt.2 h, Int.compare_eq_lt.2 h2]
  · subst h
    simp
  · have h2 : b * (k : Int) < a * (k : Int) := Int.mul_lt_mul_of_pos_right h hk'
    rw [Int.compare_eq_gt.2 h, Int.compare_eq_gt.2 h2]

theorem order_V {x y : Nat} (hx : Fin x) (hy : Fin y) : double.order x y = some (compare (V x) (V y)) := by
  obtain ⟨s, m, i, hx⟩ := hx
  obtain ⟨t, n, j, hy⟩ := hy
  have b1 := (read_number hx).1
  have b2 := (read_number hy).1
  unfold Format.order V
  rw [hx, hy]
  simp only [Datum.order, vOf]
  congr 1
  have e1 : (i + 1074).toNat = (i - min i j).toNat + (min i j + 1074).toNat := by omega
  have e2 : (j + 1074).toNat = (j - min i j).toNat + (min i j + 1074).toNat := by omega
  rw [e1, e2, signed_mul, signed_mul, compare_mul _ _ _ (Nat.two_pow_pos _)]

/-- A word's number, written anew, is found again. -/
theorem cut_exact (way : Toward) (neg : Bool) (n drop : Nat) (h : ∃ q, n = q * 2 ^ drop) (h2 : 0 < n) : way.cut neg n drop = n / 2 ^ drop := by
  obtain ⟨q, rfl⟩ := h
  have hq : 0 < q := by
    rcases Nat.eq_zero_or_pos q with h | h
    · subst h; simp at h2
    · exact h
  have hd : drop ≤ (q * 2 ^ drop).log2 := by
    rw [Nat.le_log2 (by omega)]
    exact Nat.le_mul_of_pos_left _ hq
  unfold Toward.cut
  rw [show min drop ((q * 2 ^ drop).log2 + 2) = drop by omega]
  simp only [Nat.one_shiftLeft]
  have hp := Nat.two_pow_pos drop
  rw [Nat.mul_mod_left]
  cases way <;> simp <;> omega

theorem read_word {s : Bool} {r : Nat} (h : r < 9223372036854775808) : double.word s r / 9223372036854775808 % 2 = s.toNat ∧ double.word s r % 9223372036854775808 = r := by
  unfold Format.word
  rw [signWeight_d]
  cases s <;> simp <;> omega

theorem read_low {s : Bool} {k : Nat} (h : k < 4503599627370496) : double.read (double.word s k) = .number s k (-1074) := by
  obtain ⟨h1, h2⟩ := read_word (s := s) (r := k) (by omega)
  unfold Format.read
  simp only [leastPlace_d, binade_d, infRung_d, signWeight_d, h1, h2]
  rw [if_pos h]
  cases s <;> rfl
theorem read_high {s : Bool} {k q : Nat} (hk : 4503599627370496 ≤ k) (hk2 : k < 9007199254740992) (hq : q ≤ 2045) : double.read (double.word s (q * 4503599627370496 + k)) = .number s k (-1074 + (q : Int)) := by
  obtain ⟨h1, h2⟩ := read_word (s := s) (r := q * 4503599627370496 + k) (by omega)
  unfold Format.read
  simp only [leastPlace_d, binade_d, infRung_d, signWeight_d, h1, h2]
  rw [if_neg (by omega), if_pos (by omega), show (q * 4503599627370496 + k) % 4503599627370496 = k - 4503599627370496 by omega, show (q * 4503599627370496 + k) / 4503599627370496 = q + 1 by omega]
  rw [show 4503599627370496 + (k - 4503599627370496) = k by omega, show (q + 1 - 1 : Nat) = q by omega]
  cases s <;> rfl

/-- WHAT CAN BE WRITTEN EXACTLY IS. -/
theorem nearest_exact (s : Bool) (k j : Nat) (place : Int) (hk : k < 9007199254740992) (hp : -1074 ≤ place) (hj : place + j ≤ 971) :
    ∃ m e, double.read (double.nearest s (k * 2 ^ j) place) = .number s m e ∧ m * 2 ^ (e + 1074).toNat = k * 2 ^ j * 2 ^ (place + 1074).toNat := by
  by_cases h0 : k * 2 ^ j = 0
  · refine ⟨0, -1074, ?_, by rw [h0]; simp⟩
    unfold Format.nearest
    rw [if_pos h0]
    exact read_low (by omega)
  · have hk0 : 0 < k := by
      rcases Nat.eq_zero_or_pos k with h | h
      · subst h; simp at h0
      · exact h
    obtain ⟨L, hL⟩ : ∃ L, (k * 2 ^ j).log2 = L := ⟨_, rfl⟩
    obtain ⟨l, hl⟩ : ∃ l, k.log2 = l := ⟨_, rfl⟩
    have hl1 : 2 ^ l ≤ k := by rw [← hl]; exact Nat.log2_self_le (by omega)
    have hl2 : k < 2 ^ (l + 1) := by rw [← hl]; exact Nat.lt_log2_self
    have hl3 : l ≤ 52 := by
      rcases Nat.lt_or_ge l 53 with h | h
      · omega
      · have := Nat.pow_le_pow_right (show 1 ≤ 2 by omega) h
        have e : (2 : Nat) ^ 53 = 9007199254740992 := by decide
        omega
    have hLl : L = l + j := by
      rw [← hL]
      have a : 2 ^ (l + j) ≤ k * 2 ^ j := by rw [Nat.pow_add]; exact Nat.mul_le_mul_right _ hl1
      have b : k * 2 ^ j < 2 ^ (l + j + 1) := by
        rw [show l + j + 1 = (l + 1) + j by omega, Nat.pow_add]
        exact Nat.mul_lt_mul_of_pos_right hl2 (Nat.two_pow_pos _)
      have a' := (Nat.le_log2 h0).2 a
      have b' := (Nat.log2_lt h0).2 b
      omega
    unfold Format.nearest
    rw [if_neg h0, hL]
    simp only [leastPlace_d, binade_d, infRung_d]
    rw [show ((double.fractionBits : Nat) : Int) = 52 from rfl]
    by_cases c1 : place + L - 52 < -1074
    · rw [show max (place + (L : Int) - 52) (-1074) = -1074 by omega]
      have hd0 : (-1074 - place).toNat = 0 := by omega
      rw [hd0, cut_exact _ _ _ 0 ⟨_, by simp; rfl⟩ (by rw [Nat.shiftLeft_eq]; exact Nat.mul_pos (by omega) (Nat.two_pow_pos _)), Nat.shiftLeft_eq]
      have hkb : k * 2 ^ j * 2 ^ (place - -1074).toNat < 4503599627370496 := by
        have b : k * 2 ^ j < 2 ^ (L + 1) := by rw [← hL]; exact Nat.lt_log2_self
        have c : k * 2 ^ j * 2 ^ (place - -1074).toNat < 2 ^ (L + 1) * 2 ^ (place - -1074).toNat := Nat.mul_lt_mul_of_pos_right b (Nat.two_pow_pos _)
        rw [← Nat.pow_add] at c
        have d := Nat.pow_le_pow_right (show 1 ≤ 2 by omega) (show L + 1 + (place - -1074).toNat ≤ 52 by omega)
        have e : (2 : Nat) ^ 52 = 4503599627370496 := by decide
        omega
      refine ⟨k * 2 ^ j * 2 ^ (place - -1074).toNat, -1074, ?_, ?_⟩
      · rw [show ((-1074 : Int) - -1074).toNat = 0 by omega, Nat.pow_zero, Nat.div_one, Nat.zero_mul, Nat.zero_add, Nat.min_eq_left (by omega)]
        exact read_low hkb
      · rw [show ((-1074 : Int) + 1074).toNat = 0 by omega, Nat.pow_zero, Nat.mul_one, show (place - -1074).toNat = (place + 1074).toNat by omega]
    · rw [show max (place + (L : Int) - 52) (-1074) = place + L - 52 by omega]
      obtain ⟨q, hq⟩ : ∃ q : Nat, place + (L : Int) - 52 = -1074 + q := ⟨(place + L - 52 + 1074).toNat, by omega⟩
      have hdiv : ∃ r, (k * 2 ^ j) <<< (place - (place + L - 52)).toNat = r * 2 ^ (place + L - 52 - place).toNat := by
        rw [Nat.shiftLeft_eq]
        by_cases c2 : 52 ≤ L
        · refine ⟨k * 2 ^ (52 - l), ?_⟩
          rw [show (place - (place + (L : Int) - 52)).toNat = 0 by omega, Nat.pow_zero, Nat.mul_one, Nat.mul_assoc, ← Nat.pow_add, show 52 - l + (place + (L : Int) - 52 - place).toNat = j by omega]
        · refine ⟨k * 2 ^ j * 2 ^ (place - (place + (L : Int) - 52)).toNat, ?_⟩
          rw [show (place + (L : Int) - 52 - place).toNat = 0 by omega, Nat.pow_zero, Nat.mul_one]
      have hpos : 0 < (k * 2 ^ j) <<< (place - (place + L - 52)).toNat := by rw [Nat.shiftLeft_eq]; exact Nat.mul_pos (by omega) (Nat.two_pow_pos _)
      rw [cut_exact _ _ _ _ hdiv hpos]
      have hkept : (k * 2 ^ j) <<< (place - (place + L - 52)).toNat / 2 ^ (place + L - 52 - place).toNat = k * 2 ^ (52 - l) := by
        rw [Nat.shiftLeft_eq]
        by_cases c2 : 52 ≤ L
        · rw [show (place - (place + (L : Int) - 52)).toNat = 0 by omega, Nat.pow_zero, Nat.mul_one]
          refine Nat.div_eq_of_eq_mul_left (Nat.two_pow_pos _) ?_
          rw [Nat.mul_assoc, ← Nat.pow_add, show 52 - l + (place + (L : Int) - 52 - place).toNat = j by omega]
        · rw [show (place + (L : Int) - 52 - place).toNat = 0 by omega, Nat.pow_zero, Nat.div_one, Nat.mul_assoc, ← Nat.pow_add, show j + (place - (place + (L : Int) - 52)).toNat = 52 - l by omega]
      rw [hkept]
      have k1 : 4503599627370496 ≤ k * 2 ^ (52 - l) := by
        have := Nat.mul_le_mul_right (2 ^ (52 - l)) hl1
        rw [← Nat.pow_add, show l + (52 - l) = 52 by omega] at this
        exact this
      have k2 : k * 2 ^ (52 - l) < 9007199254740992 := by
        have := Nat.mul_lt_mul_of_pos_right hl2 (Nat.two_pow_pos (52 - l))
        rw [← Nat.pow_add, show l + 1 + (52 - l) = 53 by omega] at this
        exact this
      refine ⟨k * 2 ^ (52 - l), place + L - 52, ?_, ?_⟩
      · rw [hq, show (-1074 + (q : Int) - -1074).toNat = q by omega, Nat.min_eq_left (by omega)]
        exact read_high k1 k2 (by omega)
      · rw [Nat.mul_assoc, ← Nat.pow_add, Nat.mul_assoc, ← Nat.pow_add]
        congr 2
        omega
#print axioms nearest_exact
#print axioms order_V
end Go.Proofs.YtaobnfjkggpdlaaGreatDoor
