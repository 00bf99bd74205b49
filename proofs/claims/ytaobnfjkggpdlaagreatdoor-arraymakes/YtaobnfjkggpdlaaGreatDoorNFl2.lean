/- Floats: whole numbers as floats, floors, and back to whole numbers. No Go text here. -/
import Derived.Test.YtaobnfjkggpdlaaGreatDoorNFlt
namespace Go.Proofs.YtaobnfjkggpdlaaGreatDoor
open Ieee

theorem pow_place {e : Int} (h : 0 ≤ e) : 2 ^ (e + 1074).toNat = 2 ^ e.toNat * D := by
  rw [D_eq, ← Nat.pow_add, dBits_eq]
  congr 1
  omega
theorem pow_split {d : Nat} (h : d ≤ 1074) : D = 2 ^ (1074 - d) * 2 ^ d := by
  rw [D_eq, ← Nat.pow_add, dBits_eq]
  congr 1
  omega
theorem DI_pos : (0 : Int) < (D : Int) := by have := D_pos; omega

/-- A sign and a magnitude as an Int. -/
theorem signed_eq (s : Bool) (m k : Nat) : signed s m k = (if s then -1 else 1) * ((m * 2 ^ k : Nat) : Int) := by
  unfold signed
  rw [Nat.shiftLeft_eq]
  cases s <;> simp

theorem V_number {x : Nat} {s : Bool} {m : Nat} {e : Int} (h : double.read x = .number s m e) : V x = (if s then -1 else 1) * ((m * 2 ^ (e + 1074).toNat : Nat) : Int) := by
  unfold V
  rw [h]
  exact signed_eq s m _

theorem fin_exact (s : Bool) (k j : Nat) (hk : k < 9007199254740992) (hj : j ≤ 971) : Fin (double.nearest s (k * 2 ^ j) 0) ∧ V (double.nearest s (k * 2 ^ j) 0) = (if s then -1 else 1) * ((k * 2 ^ j : Nat) : Int) * (D : Int) := by
  obtain ⟨m, e, h1, h2⟩ := nearest_exact s k j 0 hk (by omega) (by omega)
  refine ⟨⟨_, _, _, h1⟩, ?_⟩
  rw [V_number h1, h2, pow_place (Int.le_refl 0)]
  simp [Int.mul_assoc]

/-- A whole number that a float has. -/
theorem ofInt_V (n : Int) (h1 : -9007199254740992 ≤ n) (h2 : n ≤ 9007199254740992) : Fin (FloatKind.f64.nearest n) ∧ V (FloatKind.f64.nearest n) = n * (D : Int) := by
  show Fin (double.nearest (decide (n < 0)) n.natAbs 0) ∧ V (double.nearest (decide (n < 0)) n.natAbs 0) = _
  by_cases hc : n.natAbs = 9007199254740992
  · have h := fin_exact (decide (n < 0)) 4503599627370496 1 (by omega) (by omega)
    rw [show 4503599627370496 * 2 ^ 1 = n.natAbs by omega] at h
    refine ⟨h.1, h.2.trans ?_⟩
    congr 1
    by_cases hn : n < 0
    · simp [hn]; omega
    · simp [hn]; omega
  · have h := fin_exact (decide (n < 0)) n.natAbs 0 (by omega) (by omega)
    rw [Nat.pow_zero, Nat.mul_one] at h
    refine ⟨h.1, h.2.trans ?_⟩
    congr 1
    by_cases hn : n < 0
    · simp [hn]; omega
    · simp [hn]; omega

theorem cut_zero (way : Toward) (neg : Bool) (n : Nat) : way.cut neg n 0 = n := by
  unfold Toward.cut
  have h : n % 1 = 0 := Nat.mod_one n
  cases way <;> simp [h]

/-- The floor of what is a float, as a whole number. -/
def fl (x : Nat) : Int := V x / (D : Int)

theorem cut_parts (n d : Nat) : ∃ gap, gap = 1 <<< min d (n.log2 + 2) ∧ n / gap = n / 2 ^ d ∧ n % gap = n % 2 ^ d := by
  refine ⟨_, rfl, ?_⟩
  rw [Nat.one_shiftLeft]
  by_cases h : d ≤ n.log2 + 2
  · rw [Nat.min_eq_left h]; exact ⟨rfl, rfl⟩
  · rw [Nat.min_eq_right (by omega)]
    have h1 : n < 2 ^ (n.log2 + 2) := Nat.lt_of_lt_of_le Nat.lt_log2_self (Nat.pow_le_pow_right (by omega) (by omega))
    have h2 : n < 2 ^ d := Nat.lt_of_lt_of_le h1 (Nat.pow_le_pow_right (by omega) (by omega))
    rw [Nat.div_eq_of_lt h1, Nat.div_eq_of_lt h2, Nat.mod_eq_of_lt h1, Nat.mod_eq_of_lt h2]
    exact ⟨rfl, rfl⟩
theorem cut_down (s : Bool) (n d : Nat) : Toward.down.cut s n d = n / 2 ^ d + (s && n % 2 ^ d != 0).toNat := by
  obtain ⟨gap, hg, h1, h2⟩ := cut_parts n d
  unfold Toward.cut
  simp only [← hg, h1, h2]
theorem cut_toward (s : Bool) (n d : Nat) : Toward.zero.cut s n d = n / 2 ^ d := by
  obtain ⟨gap, hg, h1, h2⟩ := cut_parts n d
  unfold Toward.cut
  simp only [← hg, h1]
  simp

theorem ediv_of {a q r : Int} (h : a = (D : Int) * q + r) (h0 : 0 ≤ r) (h1 : r < (D : Int)) : a / (D : Int) = q :=
  ((Int.ediv_emod_unique DI_pos).2 ⟨by omega, h0, h1⟩).1

/-- A number with places behind the point: in parts. -/
theorem V_frac {s : Bool} {m d : Nat} (hd : d ≤ 1074) : ∃ K : Nat, 0 < K ∧ D = K * 2 ^ d ∧ m * 2 ^ (1074 - d) = D * (m / 2 ^ d) + K * (m % 2 ^ d) ∧ K * (m % 2 ^ d) < D ∧ ((if s then -1 else 1) * ((m * 2 ^ (1074 - d) : Nat) : Int)) = (if s then -1 else 1) * ((m * K : Nat) : Int) := by
  refine ⟨2 ^ (1074 - d), Nat.two_pow_pos _, pow_split hd, ?_, ?_, rfl⟩
  · rw [pow_split hd]
    conv => lhs; rw [← Nat.div_add_mod m (2 ^ d)]
    rw [Nat.add_mul, Nat.mul_comm (m % 2 ^ d), Nat.mul_comm (2 ^ (1074 - d)) (2 ^ d), Nat.mul_assoc, Nat.mul_assoc, Nat.mul_comm (m / 2 ^ d)]
  · rw [pow_split hd]
    exact Nat.mul_lt_mul_of_pos_left (Nat.mod_lt _ (Nat.two_pow_pos _)) (Nat.two_pow_pos _)

theorem floor_V {x : Nat} (hx : Fin x) : Fin (double.write ((double.read x).integral .down)) ∧ V (double.write ((double.read x).integral .down)) = fl x * (D : Int) := by
  obtain ⟨s, m, i, hr⟩ := hx
  obtain ⟨b1, b2, b3⟩ := read_number hr
  have hV := V_number hr
  unfold fl
  rw [hr]
  simp only [Datum.integral]
  show Fin (double.nearest s (Toward.down.cut s (m <<< i.toNat) (-i).toNat) 0) ∧ V (double.nearest s (Toward.down.cut s (m <<< i.toNat) (-i).toNat) 0) = _
  by_cases hi : 0 ≤ i
  · rw [show (-i).toNat = 0 by omega, cut_zero, Nat.shiftLeft_eq]
    obtain ⟨h1, h2⟩ := fin_exact s m i.toNat b3 (by omega)
    refine ⟨h1, h2.trans ?_⟩
    rw [hV, pow_place hi, ← Nat.mul_assoc, Int.natCast_mul (m * 2 ^ i.toNat) D, ← Int.mul_assoc, Int.mul_ediv_cancel _ (by have := DI_pos; omega)]
  · obtain ⟨d, hd⟩ : ∃ d : Nat, i = -(d : Int) := ⟨(-i).toNat, by omega⟩
    subst hd
    rw [show (-(d : Int)).toNat = 0 by omega, Nat.shiftLeft_zero, show (-(-(d : Int))).toNat = d by omega, cut_down]
    rw [show (-(d : Int) + 1074).toNat = 1074 - d by omega] at hV
    obtain ⟨K, hK, hDK, hparts, hlt, _⟩ := V_frac (s := s) (m := m) (d := d) (by omega)
    have hd1 : 2 ≤ 2 ^ d := by
      have := Nat.pow_le_pow_right (show 1 ≤ 2 by omega) (show 1 ≤ d by omega)
      simpa using this
    have hq : m / 2 ^ d ≤ m / 2 := Nat.div_le_div_left hd1 (by omega)
    have hbt : (s && m % 2 ^ d != 0).toNat ≤ 1 := Bool.toNat_le _
    obtain ⟨h1, h2⟩ := fin_exact s (m / 2 ^ d + (s && m % 2 ^ d != 0).toNat) 0 (by omega) (by omega)
    rw [Nat.pow_zero, Nat.mul_one] at h1 h2
    refine ⟨h1, h2.trans ?_⟩
    refine congrArg (fun z : Int => z * (D : Int)) ?_
    rw [hparts] at hV
    obtain ⟨q, hq'⟩ : ∃ q, m / 2 ^ d = q := ⟨_, rfl⟩
    obtain ⟨t, ht⟩ : ∃ t, K * (m % 2 ^ d) = t := ⟨_, rfl⟩
    rw [hq', ht] at hV
    rw [ht] at hlt
    rw [hq']
    cases s with
    | false =>
      simp only [Bool.false_and, Bool.toNat_false, Nat.add_zero] at *
      rw [hV]
      refine (ediv_of (r := (t : Int)) ?_ (by omega) (by omega)).symm
      simp
    | true =>
      by_cases hr0 : m % 2 ^ d = 0
      · have ht0 : t = 0 := by rw [← ht, hr0, Nat.mul_zero]
        rw [hr0, hV, ht0]
        refine (ediv_of (r := 0) ?_ (by omega) DI_pos).symm
        simp [Int.mul_neg]
      · have ht0 : 0 < t := by rw [← ht]; exact Nat.mul_pos hK (by omega)
        have hb : (true && m % 2 ^ d != 0) = true := by simp [hr0]
        rw [hb, hV]
        refine (ediv_of (r := (D : Int) - (t : Int)) ?_ (by omega) (by omega)).symm
        simp [Int.mul_add, Int.mul_neg]
        omega

/-- A float that is whole, turned into an int. -/
theorem toInt_V {x : Nat} {n : Int} (hx : Fin x) (hV : V x = n * (D : Int)) (h1 : -9223372036854775808 ≤ n) (h2 : n ≤ 9223372036854775807) : floatToIntVal .f64 x .i64 = some n := by
  obtain ⟨s, m, i, hr⟩ := hx
  obtain ⟨b1, b2, b3⟩ := read_number hr
  have hv := V_number hr
  rw [hV] at hv
  have ht : (FloatKind.f64.decode x).toInt .zero = some n := by
    show (double.read x).toInt .zero = some n
    rw [hr]
    simp only [Datum.toInt, Datum.integral, signed_eq, Nat.pow_zero, Nat.mul_one]
    congr 1
    by_cases hi : 0 ≤ i
    · rw [show (-i).toNat = 0 by omega, cut_zero, Nat.shiftLeft_eq]
      rw [pow_place hi, ← Nat.mul_assoc, Int.natCast_mul (m * 2 ^ i.toNat) D, ← Int.mul_assoc] at hv
      exact (Int.eq_of_mul_eq_mul_right (by have := DI_pos; omega) hv).symm
    · obtain ⟨d, hd⟩ : ∃ d : Nat, i = -(d : Int) := ⟨(-i).toNat, by omega⟩
      subst hd
      rw [show (-(d : Int)).toNat = 0 by omega, Nat.shiftLeft_zero, show (-(-(d : Int))).toNat = d by omega, cut_toward]
      rw [show (-(d : Int) + 1074).toNat = 1074 - d by omega] at hv
      obtain ⟨K, hK, hDK, hparts, hlt, _⟩ := V_frac (s := s) (m := m) (d := d) (by omega)
      rw [hparts] at hv
      obtain ⟨q, hq'⟩ : ∃ q, m / 2 ^ d = q := ⟨_, rfl⟩
      obtain ⟨t, ht⟩ : ∃ t, K * (m % 2 ^ d) = t := ⟨_, rfl⟩
      rw [hq', ht] at hv
      rw [ht] at hlt
      rw [hq']
      cases s with
      | false =>
        have e := ediv_of (a := n * (D : Int)) (q := (q : Int)) (r := (t : Int)) (by rw [hv]; simp) (by omega) (by omega)
        rw [Int.mul_ediv_cancel _ (by have := DI_pos; omega)] at e
        simp [e]
      | true =>
        have e := ediv_of (a := -n * (D : Int)) (q := (q : Int)) (r := (t : Int)) (by rw [Int.neg_mul, hv]; simp) (by omega) (by omega)
        rw [Int.mul_ediv_cancel _ (by have := DI_pos; omega)] at e
        simp
        omega
  unfold floatToIntVal
  rw [ht]
  simp only [show IntKind.i64.min = -9223372036854775808 from rfl, show IntKind.i64.max = 9223372036854775807 from rfl]
  rw [if_pos ⟨h1, h2⟩]

theorem cmp_ints (a b : Int) : compare (a * (D : Int)) (b * (D : Int)) = compare a b := compare_mul a b D D_pos
#print axioms floor_V
#print axioms toInt_V
end Go.Proofs.YtaobnfjkggpdlaaGreatDoor
