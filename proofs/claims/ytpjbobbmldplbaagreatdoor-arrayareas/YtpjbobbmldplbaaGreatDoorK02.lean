/- Floats of 64 bits as whole numbers of the least one: what they are, exact results, floors. No Go text here. -/
import Derived.Laws.FloatArith
namespace Go.Proofs.YtpjbobbmldplbaaGreatDoor
open Ieee

/-- How many of the least float make 1. -/
def dBits : Nat := 1074
def D : Nat := 2 ^ dBits
theorem D_pos : 0 < D := Nat.two_pow_pos dBits
theorem dBits_eq : dBits = 1074 := rfl
theorem D_eq : D = 2 ^ dBits := rfl

/-- The word is a number, no infinity and no NaN. -/
def Fin (x : Nat) : Prop := ∃ s m e, double.read x = .number s m e
/-- A datum as a whole number of the least float. -/
def vOf : Datum → Int
  | .number s m e => signed s m (e + 1074).toNat
  | _ => 0
def V (x : Nat) : Int := vOf (double.read x)

theorem leastPlace_d : double.leastPlace = -1074 := rfl
theorem binade_d : double.binade = 4503599627370496 := rfl
theorem infRung_d : double.infRung = 2047 * 4503599627370496 := rfl
theorem signWeight_d : double.signWeight = 9223372036854775808 := rfl

theorem read_number {x : Nat} {s : Bool} {m : Nat} {e : Int} (h : double.read x = .number s m e) : -1074 ≤ e ∧ e ≤ 971 ∧ m < 9007199254740992 := by
  unfold Format.read at h
  dsimp only at h
  split at h
  · rename_i c
    injection h with h1 h2 h3
    rw [binade_d] at c
    rw [leastPlace_d] at h3
    omega
  · split at h
    · rename_i c1 c2
      injection h with h1 h2 h3
      rw [leastPlace_d] at h3
      rw [infRung_d] at c2
      rw [binade_d] at c1 h2 h3
      omega
    · split at h <;> cases h

theorem signed_mul (s : Bool) (m a b : Nat) : signed s m (a + b) = signed s m a * ((2 ^ b : Nat) : Int) := by
  unfold signed
  cases s <;> simp [Nat.shiftLeft_eq, Nat.pow_add, Int.mul_assoc, Int.neg_mul]

theorem compare_mul (a b : Int) (k : Nat) (hk : 0 < k) : compare (a * (k : Int)) (b * (k : Int)) = compare a b := by
  have hk' : (0 : Int) < (k : Int) := by omega
  rcases Int.lt_trichotomy a b with h | h | h
  · have h2 : a * (k : Int) < b * (k : Int) := Int.mul_lt_mul_of_pos_right h hk'
    rw [Int.compare_eq_lt.2 h, Int.compare_eq_lt.2 h2]
  · subst h
    simp
  · have h2 : b * (k : Int) < a * (k : Int) := Int.mul_lt_mul_of_pos_right h hk'
    rw [Int.compare_eq_gt.2 h, Int.compare_eq_gt.2 h2]

theorem order_V {x y : Nat} (hx : Fin x) (hy : Fin y) : double.order x y = some (compare (V x) (V y)) := by
  obtain ⟨s, m, i, hx⟩ := hx
  obtain ⟨t, n, j, hy⟩ := hy
  have b1 := (read_number hx).1
  have b2 := (read_number hy).1
  unfold Format.order V
  rw [hx, hy]
  simp only [Datum.order, vOf]
  congr 1
  have e1 : (i + 1074).toNat = (i - min i j).toNat + (min i j + 1074).toNat := by omega
  have e2 : (j + 1074).toNat = (j - min i j).toNat + (min i j + 1074).toNat := by omega
  rw [e1, e2, signed_mul, signed_mul, compare_mul _ _ _ (Nat.two_pow_pos _)]

/-- A word's number, written anew, is found again. -/
theorem cut_exact (way : Toward) (neg : Bool) (n drop : Nat) (h : ∃ q, n = q * 2 ^ drop) (h2 : 0 < n) : way.cut neg n drop = n / 2 ^ drop := by
  obtain ⟨q, rfl⟩ := h
  have hq : 0 < q := by
    rcases Nat.eq_zero_or_pos q with h | h
    · subst h; simp at h2
    · exact h
  have hd : drop ≤ (q * 2 ^ drop).log2 := by
    rw [Nat.le_log2 (by omega)]
    exact Nat.le_mul_of_pos_left _ hq
  unfold Toward.cut
  rw [show min drop ((q * 2 ^ drop).log2 + 2) = drop by omega]
  simp only [Nat.one_shiftLeft]
  have hp := Nat.two_pow_pos drop
  rw [Nat.mul_mod_left]
  cases way <;> simp <;> omega

theorem read_word {s : Bool} {r : Nat} (h : r < 9223372036854775808) : double.word s r / 9223372036854775808 % 2 = s.toNat ∧ double.word s r % 9223372036854775808 = r := by
  unfold Format.word
  rw [signWeight_d]
  cases s <;> simp <;> omega

theorem read_low {s : Bool} {k : Nat} (h : k < 4503599627370496) : double.read (double.word s k) = .number s k (-1074) := by
  obtain ⟨h1, h2⟩ := read_word (s := s) (r := k) (by omega)
  unfold Format.read
  simp only [leastPlace_d, binade_d, infRung_d, signWeight_d, h1, h2]
  rw [if_pos h]
  cases s <;> rfl
theorem read_high {s : Bool} {k q : Nat} (hk : 4503599627370496 ≤ k) (hk2 : k < 9007199254740992) (hq : q ≤ 2045) : double.read (double.word s (q * 4503599627370496 + k)) = .number s k (-1074 + (q : Int)) := by
  obtain ⟨h1, h2⟩ := read_word (s := s) (r := q * 4503599627370496 + k) (by omega)
  unfold Format.read
  simp only [leastPlace_d, binade_d, infRung_d, signWeight_d, h1, h2]
  rw [if_neg (by omega), if_pos (by omega), show (q * 4503599627370496 + k) % 4503599627370496 = k - 4503599627370496 by omega, show (q * 4503599627370496 + k) / 4503599627370496 = q + 1 by omega]
  rw [show 4503599627370496 + (k - 4503599627370496) = k by omega, show (q + 1 - 1 : Nat) = q by omega]
  cases s <;> rfl

/-- WHAT CAN BE WRITTEN EXACTLY IS. -/
theorem nearest_exact (s : Bool) (k j : Nat) (place : Int) (hk : k < 9007199254740992) (hp : -1074 ≤ place) (hj : place + j ≤ 971) :
    ∃ m e, double.read (double.nearest s (k * 2 ^ j) place) = .number s m e ∧ m * 2 ^ (e + 1074).toNat = k * 2 ^ j * 2 ^ (place + 1074).toNat := by
  by_cases h0 : k * 2 ^ j = 0
  · refine ⟨0, -1074, ?_, by rw [h0]; simp⟩
    unfold Format.nearest
    rw [if_pos h0]
    exact read_low (by omega)
  · have hk0 : 0 < k := by
      rcases Nat.eq_zero_or_pos k with h | h
      · subst h; simp at h0
      · exact h
    obtain ⟨L, hL⟩ : ∃ L, (k * 2 ^ j).log2 = L := ⟨_, rfl⟩
    obtain ⟨l, hl⟩ : ∃ l, k.log2 = l := ⟨_, rfl⟩
    have hl1 : 2 ^ l ≤ k := by rw [← hl]; exact Nat.log2_self_le (by omega)
    have hl2 : k < 2 ^ (l + 1) := by rw [← hl]; exact Nat.lt_log2_self
    have hl3 : l ≤ 52 := by
      rcases Nat.lt_or_ge l 53 with h | h
      · omega
      · have := Nat.pow_le_pow_right (show 1 ≤ 2 by omega) h
        have e : (2 : Nat) ^ 53 = 9007199254740992 := by decide
        omega
    have hLl : L = l + j := by
      rw [← hL]
      have a : 2 ^ (l + j) ≤ k * 2 ^ j := by rw [Nat.pow_add]; exact Nat.mul_le_mul_right _ hl1
      have b : k * 2 ^ j < 2 ^ (l + j + 1) := by
        rw [show l + j + 1 = (l + 1) + j by omega, Nat.pow_add]
        exact Nat.mul_lt_mul_of_pos_right hl2 (Nat.two_pow_pos _)
      have a' := (Nat.le_log2 h0).2 a
      have b' := (Nat.log2_lt h0).2 b
      omega
    unfold Format.nearest
    rw [if_neg h0, hL]
    simp only [leastPlace_d, binade_d, infRung_d]
    rw [show ((double.fractionBits : Nat) : Int) = 52 from rfl]
    by_cases c1 : place + L - 52 < -1074
    · rw [show max (place + (L : Int) - 52) (-1074) = -1074 by omega]
      have hd0 : (-1074 - place).toNat = 0 := by omega
      rw [hd0, cut_exact _ _ _ 0 ⟨_, by simp; rfl⟩ (by rw [Nat.shiftLeft_eq]; exact Nat.mul_pos (by omega) (Nat.two_pow_pos _)), Nat.shiftLeft_eq]
      have hkb : k * 2 ^ j * 2 ^ (place - -1074).toNat < 4503599627370496 := by
        have b : k * 2 ^ j < 2 ^ (L + 1) := by rw [← hL]; exact Nat.lt_log2_self
        have c : k * 2 ^ j * 2 ^ (place - -1074).toNat < 2 ^ (L + 1) * 2 ^ (place - -1074).toNat := Nat.mul_lt_mul_of_pos_right b (Nat.two_pow_pos _)
        rw [← Nat.pow_add] at c
        have d := Nat.pow_le_pow_right (show 1 ≤ 2 by omega) (show L + 1 + (place - -1074).toNat ≤ 52 by omega)
        have e : (2 : Nat) ^ 52 = 4503599627370496 := by decide
        omega
      refine ⟨k * 2 ^ j * 2 ^ (place - -1074).toNat, -1074, ?_, ?_⟩
      · rw [show ((-1074 : Int) - -1074).toNat = 0 by omega, Nat.pow_zero, Nat.div_one, Nat.zero_mul, Nat.zero_add, Nat.min_eq_left (by omega)]
        exact read_low hkb
      · rw [show ((-1074 : Int) + 1074).toNat = 0 by omega, Nat.pow_zero, Nat.mul_one, show (place - -1074).toNat = (place + 1074).toNat by omega]
    · rw [show max (place + (L : Int) - 52) (-1074) = place + L - 52 by omega]
      obtain ⟨q, hq⟩ : ∃ q : Nat, place + (L : Int) - 52 = -1074 + q := ⟨(place + L - 52 + 1074).toNat, by omega⟩
      have hdiv : ∃ r, (k * 2 ^ j) <<< (place - (place + L - 52)).toNat = r * 2 ^ (place + L - 52 - place).toNat := by
        rw [Nat.shiftLeft_eq]
        by_cases c2 : 52 ≤ L
        · refine ⟨k * 2 ^ (52 - l), ?_⟩
          rw [show (place - (place + (L : Int) - 52)).toNat = 0 by omega, Nat.pow_zero, Nat.mul_one, Nat.mul_assoc, ← Nat.pow_add, show 52 - l + (place + (L : Int) - 52 - place).toNat = j by omega]
        · refine ⟨k * 2 ^ j * 2 ^ (place - (place + (L : Int) - 52)).toNat, ?_⟩
          rw [show (place + (L : Int) - 52 - place).toNat = 0 by omega, Nat.pow_zero, Nat.mul_one]
      have hpos : 0 < (k * 2 ^ j) <<< (place - (place + L - 52)).toNat := by rw [Nat.shiftLeft_eq]; exact Nat.mul_pos (by omega) (Nat.two_pow_pos _)
      rw [cut_exact _ _ _ _ hdiv hpos]
      have hkept : (k * 2 ^ j) <<< (place - (place + L - 52)).toNat / 2 ^ (place + L - 52 - place).toNat = k * 2 ^ (52 - l) := by
        rw [Nat.shiftLeft_eq]
        by_cases c2 : 52 ≤ L
        · rw [show (place - (place + (L : Int) - 52)).toNat = 0 by omega, Nat.pow_zero, Nat.mul_one]
          refine Nat.div_eq_of_eq_mul_left (Nat.two_pow_pos _) ?_
          rw [Nat.mul_assoc, ← Nat.pow_add, show 52 - l + (place + (L : Int) - 52 - place).toNat = j by omega]
        · rw [show (place + (L : Int) - 52 - place).toNat = 0 by omega, Nat.pow_zero, Nat.div_one, Nat.mul_assoc, ← Nat.pow_add, show j + (place - (place + (L : Int) - 52)).toNat = 52 - l by omega]
      rw [hkept]
      have k1 : 4503599627370496 ≤ k * 2 ^ (52 - l) := by
        have := Nat.mul_le_mul_right (2 ^ (52 - l)) hl1
        rw [← Nat.pow_add, show l + (52 - l) = 52 by omega] at this
        exact this
      have k2 : k * 2 ^ (52 - l) < 9007199254740992 := by
        have := Nat.mul_lt_mul_of_pos_right hl2 (Nat.two_pow_pos (52 - l))
        rw [← Nat.pow_add, show l + 1 + (52 - l) = 53 by omega] at this
        exact this
      refine ⟨k * 2 ^ (52 - l), place + L - 52, ?_, ?_⟩
      · rw [hq, show (-1074 + (q : Int) - -1074).toNat = q by omega, Nat.min_eq_left (by omega)]
        exact read_high k1 k2 (by omega)
      · rw [Nat.mul_assoc, ← Nat.pow_add, Nat.mul_assoc, ← Nat.pow_add]
        congr 2
        omega
#print axioms nearest_exact
#print axioms order_V
end Go.Proofs.YtpjbobbmldplbaaGreatDoor
/- Floats: whole numbers as floats, floors, and back to whole numbers. No Go text here. -/
namespace Go.Proofs.YtpjbobbmldplbaaGreatDoor
open Ieee

theorem pow_place {e : Int} (h : 0 ≤ e) : 2 ^ (e + 1074).toNat = 2 ^ e.toNat * D := by
  rw [D_eq, ← Nat.pow_add, dBits_eq]
  congr 1
  omega
theorem pow_split {d : Nat} (h : d ≤ 1074) : D = 2 ^ (1074 - d) * 2 ^ d := by
  rw [D_eq, ← Nat.pow_add, dBits_eq]
  congr 1
  omega
theorem DI_pos : (0 : Int) < (D : Int) := by have := D_pos; omega

/-- A sign and a magnitude as an Int. -/
theorem signed_eq (s : Bool) (m k : Nat) : signed s m k = (if s then -1 else 1) * ((m * 2 ^ k : Nat) : Int) := by
  unfold signed
  rw [Nat.shiftLeft_eq]
  cases s <;> simp

theorem V_number {x : Nat} {s : Bool} {m : Nat} {e : Int} (h : double.read x = .number s m e) : V x = (if s then -1 else 1) * ((m * 2 ^ (e + 1074).toNat : Nat) : Int) := by
  unfold V
  rw [h]
  exact signed_eq s m _

theorem fin_exact (s : Bool) (k j : Nat) (hk : k < 9007199254740992) (hj : j ≤ 971) : Fin (double.nearest s (k * 2 ^ j) 0) ∧ V (double.nearest s (k * 2 ^ j) 0) = (if s then -1 else 1) * ((k * 2 ^ j : Nat) : Int) * (D : Int) := by
  obtain ⟨m, e, h1, h2⟩ := nearest_exact s k j 0 hk (by omega) (by omega)
  refine ⟨⟨_, _, _, h1⟩, ?_⟩
  rw [V_number h1, h2, pow_place (Int.le_refl 0)]
  simp [Int.mul_assoc]

/-- A whole number that a float has. -/
theorem ofInt_V (n : Int) (h1 : -9007199254740992 ≤ n) (h2 : n ≤ 9007199254740992) : Fin (FloatKind.f64.nearest n) ∧ V (FloatKind.f64.nearest n) = n * (D : Int) := by
  show Fin (double.nearest (decide (n < 0)) n.natAbs 0) ∧ V (double.nearest (decide (n < 0)) n.natAbs 0) = _
  by_cases hc : n.natAbs = 9007199254740992
  · have h := fin_exact (decide (n < 0)) 4503599627370496 1 (by omega) (by omega)
    rw [show 4503599627370496 * 2 ^ 1 = n.natAbs by omega] at h
    refine ⟨h.1, h.2.trans ?_⟩
    congr 1
    by_cases hn : n < 0
    · simp [hn]; omega
    · simp [hn]; omega
  · have h := fin_exact (decide (n < 0)) n.natAbs 0 (by omega) (by omega)
    rw [Nat.pow_zero, Nat.mul_one] at h
    refine ⟨h.1, h.2.trans ?_⟩
    congr 1
    by_cases hn : n < 0
    · simp [hn]; omega
    · simp [hn]; omega

theorem cut_zero (way : Toward) (neg : Bool) (n : Nat) : way.cut neg n 0 = n := by
  unfold Toward.cut
  have h : n % 1 = 0 := Nat.mod_one n
  cases way <;> simp [h]

/-- The floor of what is a float, as a whole number. -/
def fl (x : Nat) : Int := V x / (D : Int)

theorem cut_parts (n d : Nat) : ∃ gap, gap = 1 <<< min d (n.log2 + 2) ∧ n / gap = n / 2 ^ d ∧ n % gap = n % 2 ^ d := by
  refine ⟨_, rfl, ?_⟩
  rw [Nat.one_shiftLeft]
  by_cases h : d ≤ n.log2 + 2
  · rw [Nat.min_eq_left h]; exact ⟨rfl, rfl⟩
  · rw [Nat.min_eq_right (by omega)]
    have h1 : n < 2 ^ (n.log2 + 2) := Nat.lt_of_lt_of_le Nat.lt_log2_self (Nat.pow_le_pow_right (by omega) (by omega))
    have h2 : n < 2 ^ d := Nat.lt_of_lt_of_le h1 (Nat.pow_le_pow_right (by omega) (by omega))
    rw [Nat.div_eq_of_lt h1, Nat.div_eq_of_lt h2, Nat.mod_eq_of_lt h1, Nat.mod_eq_of_lt h2]
    exact ⟨rfl, rfl⟩
theorem cut_down (s : Bool) (n d : Nat) : Toward.down.cut s n d = n / 2 ^ d + (s && n % 2 ^ d != 0).toNat := by
  obtain ⟨gap, hg, h1, h2⟩ := cut_parts n d
  unfold Toward.cut
  simp only [← hg, h1, h2]
theorem cut_toward (s : Bool) (n d : Nat) : Toward.zero.cut s n d = n / 2 ^ d := by
  obtain ⟨gap, hg, h1, h2⟩ := cut_parts n d
  unfold Toward.cut
  simp only [← hg, h1]
  simp

theorem ediv_of {a q r : Int} (h : a = (D : Int) * q + r) (h0 : 0 ≤ r) (h1 : r < (D : Int)) : a / (D : Int) = q :=
  ((Int.ediv_emod_unique DI_pos).2 ⟨by omega, h0, h1⟩).1

/-- A number with places behind the point: in parts. -/
theorem V_frac {s : Bool} {m d : Nat} (hd : d ≤ 1074) : ∃ K : Nat, 0 < K ∧ D = K * 2 ^ d ∧ m * 2 ^ (1074 - d) = D * (m / 2 ^ d) + K * (m % 2 ^ d) ∧ K * (m % 2 ^ d) < D ∧ ((if s then -1 else 1) * ((m * 2 ^ (1074 - d) : Nat) : Int)) = (if s then -1 else 1) * ((m * K : Nat) : Int) := by
  refine ⟨2 ^ (1074 - d), Nat.two_pow_pos _, pow_split hd, ?_, ?_, rfl⟩
  · rw [pow_split hd]
    conv => lhs; rw [← Nat.div_add_mod m (2 ^ d)]
    rw [Nat.add_mul, Nat.mul_comm (m % 2 ^ d), Nat.mul_comm (2 ^ (1074 - d)) (2 ^ d), Nat.mul_assoc, Nat.mul_assoc, Nat.mul_comm (m / 2 ^ d)]
  · rw [pow_split hd]
    exact Nat.mul_lt_mul_of_pos_left (Nat.mod_lt _ (Nat.two_pow_pos _)) (Nat.two_pow_pos _)

theorem floor_V {x : Nat} (hx : Fin x) : Fin (double.write ((double.read x).integral .down)) ∧ V (double.write ((double.read x).integral .down)) = fl x * (D : Int) := by
  obtain ⟨s, m, i, hr⟩ := hx
  obtain ⟨b1, b2, b3⟩ := read_number hr
  have hV := V_number hr
  unfold fl
  rw [hr]
  simp only [Datum.integral]
  show Fin (double.nearest s (Toward.down.cut s (m <<< i.toNat) (-i).toNat) 0) ∧ V (double.nearest s (Toward.down.cut s (m <<< i.toNat) (-i).toNat) 0) = _
  by_cases hi : 0 ≤ i
  · rw [show (-i).toNat = 0 by omega, cut_zero, Nat.shiftLeft_eq]
    obtain ⟨h1, h2⟩ := fin_exact s m i.toNat b3 (by omega)
    refine ⟨h1, h2.trans ?_⟩
    rw [hV, pow_place hi, ← Nat.mul_assoc, Int.natCast_mul (m * 2 ^ i.toNat) D, ← Int.mul_assoc, Int.mul_ediv_cancel _ (by have := DI_pos; omega)]
  · obtain ⟨d, hd⟩ : ∃ d : Nat, i = -(d : Int) := ⟨(-i).toNat, by omega⟩
    subst hd
    rw [show (-(d : Int)).toNat = 0 by omega, Nat.shiftLeft_zero, show (-(-(d : Int))).toNat = d by omega, cut_down]
    rw [show (-(d : Int) + 1074).toNat = 1074 - d by omega] at hV
    obtain ⟨K, hK, hDK, hparts, hlt, _⟩ := V_frac (s := s) (m := m) (d := d) (by omega)
    have hd1 : 2 ≤ 2 ^ d := by
      have := Nat.pow_le_pow_right (show 1 ≤ 2 by omega) (show 1 ≤ d by omega)
      simpa using this
    have hq : m / 2 ^ d ≤ m / 2 := Nat.div_le_div_left hd1 (by omega)
    have hbt : (s && m % 2 ^ d != 0).toNat ≤ 1 := Bool.toNat_le _
    obtain ⟨h1, h2⟩ := fin_exact s (m / 2 ^ d + (s && m % 2 ^ d != 0).toNat) 0 (by omega) (by omega)
    rw [Nat.pow_zero, Nat.mul_one] at h1 h2
    refine ⟨h1, h2.trans ?_⟩
    refine congrArg (fun z : Int => z * (D : Int)) ?_
    rw [hparts] at hV
    obtain ⟨q, hq'⟩ : ∃ q, m / 2 ^ d = q := ⟨_, rfl⟩
    obtain ⟨t, ht⟩ : ∃ t, K * (m % 2 ^ d) = t := ⟨_, rfl⟩
    rw [hq', ht] at hV
    rw [ht] at hlt
    rw [hq']
    cases s with
    | false =>
      simp only [Bool.false_and, Bool.toNat_false, Nat.add_zero] at *
      rw [hV]
      refine (ediv_of (r := (t : Int)) ?_ (by omega) (by omega)).symm
      simp
    | true =>
      by_cases hr0 : m % 2 ^ d = 0
      · have ht0 : t = 0 := by rw [← ht, hr0, Nat.mul_zero]
        rw [hr0, hV, ht0]
        refine (ediv_of (r := 0) ?_ (by omega) DI_pos).symm
        simp [Int.mul_neg]
      · have ht0 : 0 < t := by rw [← ht]; exact Nat.mul_pos hK (by omega)
        have hb : (true && m % 2 ^ d != 0) = true := by simp [hr0]
        rw [hb, hV]
        refine (ediv_of (r := (D : Int) - (t : Int)) ?_ (by omega) (by omega)).symm
        simp [Int.mul_add, Int.mul_neg]
        omega

/-- A float that is whole, turned into an int. -/
theorem toInt_V {x : Nat} {n : Int} (hx : Fin x) (hV : V x = n * (D : Int)) (h1 : -9223372036854775808 ≤ n) (h2 : n ≤ 9223372036854775807) : floatToIntVal .f64 x .i64 = some n := by
  obtain ⟨s, m, i, hr⟩ := hx
  obtain ⟨b1, b2, b3⟩ := read_number hr
  have hv := V_number hr
  rw [hV] at hv
  have ht : (FloatKind.f64.decode x).toInt .zero = some n := by
    show (double.read x).toInt .zero = some n
    rw [hr]
    simp only [Datum.toInt, Datum.integral, signed_eq, Nat.pow_zero, Nat.mul_one]
    congr 1
    by_cases hi : 0 ≤ i
    · rw [show (-i).toNat = 0 by omega, cut_zero, Nat.shiftLeft_eq]
      rw [pow_place hi, ← Nat.mul_assoc, Int.natCast_mul (m * 2 ^ i.toNat) D, ← Int.mul_assoc] at hv
      exact (Int.eq_of_mul_eq_mul_right (by have := DI_pos; omega) hv).symm
    · obtain ⟨d, hd⟩ : ∃ d : Nat, i = -(d : Int) := ⟨(-i).toNat, by omega⟩
      subst hd
      rw [show (-(d : Int)).toNat = 0 by omega, Nat.shiftLeft_zero, show (-(-(d : Int))).toNat = d by omega, cut_toward]
      rw [show (-(d : Int) + 1074).toNat = 1074 - d by omega] at hv
      obtain ⟨K, hK, hDK, hparts, hlt, _⟩ := V_frac (s := s) (m := m) (d := d) (by omega)
      rw [hparts] at hv
      obtain ⟨q, hq'⟩ : ∃ q, m / 2 ^ d = q := ⟨_, rfl⟩
      obtain ⟨t, ht⟩ : ∃ t, K * (m % 2 ^ d) = t := ⟨_, rfl⟩
      rw [hq', ht] at hv
      rw [ht] at hlt
      rw [hq']
      cases s with
      | false =>
        have e := ediv_of (a := n * (D : Int)) (q := (q : Int)) (r := (t : Int)) (by rw [hv]; simp) (by omega) (by omega)
        rw [Int.mul_ediv_cancel _ (by have := DI_pos; omega)] at e
        simp [e]
      | true =>
        have e := ediv_of (a := -n * (D : Int)) (q := (q : Int)) (r := (t : Int)) (by rw [Int.neg_mul, hv]; simp) (by omega) (by omega)
        rw [Int.mul_ediv_cancel _ (by have := DI_pos; omega)] at e
        simp
        omega
  unfold floatToIntVal
  rw [ht]
  simp only [show IntKind.i64.min = -9223372036854775808 from rfl, show IntKind.i64.max = 9223372036854775807 from rfl]
  rw [if_pos ⟨h1, h2⟩]

theorem cmp_ints (a b : Int) : compare (a * (D : Int)) (b * (D : Int)) = compare a b := compare_mul a b D D_pos
#print axioms floor_V
#print axioms toInt_V
end Go.Proofs.YtpjbobbmldplbaaGreatDoor
