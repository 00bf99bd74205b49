/- A number of seconds as a number of days: the quotient, how near it is. No Go text here. -/
import Derived.Test.YtfoclhpnlemmnaaGreatDoorTFlt
namespace Go.Proofs.YtfoclhpnlemmnaaGreatDoor
open Ieee

theorem read_86400 : double.read 4680673776000565248 = .number false 5937362789990400 (-36) := by decide
theorem nearest_word (n : Nat) : FloatKind.f64.nearest (n : Int) = double.nearest false n 0 := by
  show double.write (.number (decide ((n : Int) < 0)) (n : Int).natAbs 0) = _
  rw [show decide ((n : Int) < 0) = false by simp]
  simp [Format.write]
theorem log_d : Nat.log2 5937362789990400 = 52 := by decide

/-- THE QUOTIENT of a float above nought by 86400. -/
theorem div_near {x : Nat} {m : Nat} {i : Int} (hr : double.read x = .number false m i) (hm : 0 < m) (hi1 : -150 ≤ i) (c : Nat) (hc : 100 ≤ c) (hc2 : c ≤ 2000) (hV : m * 2 ^ (i + 1074).toNat < 86400 * 2 ^ c) :
    ∃ (r X : Nat), floatBits .quo .f64 x 4680673776000565248 = some r ∧ Fin r ∧ V r = (X : Int) ∧ 0 < X ∧ 86400 * X ≤ m * 2 ^ (i + 1074).toNat + 86400 * 2 ^ (c - 52) ∧ m * 2 ^ (i + 1074).toNat ≤ 86400 * X + 86400 * 2 ^ (c - 52) := by
  obtain ⟨_, hi2, hm2⟩ := read_number hr
  obtain ⟨L, hL⟩ : ∃ L, m.log2 = L := ⟨_, rfl⟩
  have hl1 : 2 ^ L ≤ m := by rw [← hL]; exact Nat.log2_self_le (by omega)
  have hL53 : L < 53 := by
    have : 2 ^ L < 2 ^ 53 := Nat.lt_of_le_of_lt hl1 (by simpa using hm2)
    exact (Nat.pow_lt_pow_iff_right (show 1 < 2 by omega)).1 this
  obtain ⟨k, hk⟩ : ∃ k, 54 + 52 - L = k := ⟨_, rfl⟩
  have hk2 : 54 ≤ k ∧ k ≤ 106 := by omega
  obtain ⟨dv, hdv⟩ : ∃ dv, m * 2 ^ k = dv := ⟨_, rfl⟩
  have hdb : 81129638414606681695789005144064 ≤ dv := by
    have a : 2 ^ L * 2 ^ k ≤ m * 2 ^ k := Nat.mul_le_mul_right _ hl1
    rw [← Nat.pow_add, show L + k = 106 by omega, hdv] at a
    simpa using a
  obtain ⟨mag, hmag⟩ : ∃ mag, 2 * (dv / 5937362789990400) + (dv % 5937362789990400 != 0).toNat = mag := ⟨_, rfl⟩
  have hb01 : (dv % 5937362789990400 != 0).toNat = if dv % 5937362789990400 = 0 then 0 else 1 := by
    by_cases h : dv % 5937362789990400 = 0
    · rw [if_pos h, h]; rfl
    · rw [if_neg h, show (dv % 5937362789990400 != 0) = true by simpa using h]; rfl
  rw [hb01] at hmag
  have hmg1 : 5937362789990400 * mag ≤ 2 * dv + 5937362789990400 := by split at hmag <;> omega
  have hmg2 : 2 * dv ≤ 5937362789990400 * mag + 5937362789990400 := by split at hmag <;> omega
  have hmgb : 18014398509481984 ≤ mag := by split at hmag <;> omega
  obtain ⟨P, hP⟩ : ∃ P : Nat, i - -36 - (k : Int) - 1 = (P : Int) - 1074 := ⟨(i - -36 - (k : Int) - 1 + 1074).toNat, by omega⟩
  have hq : floatBits .quo .f64 x 4680673776000565248 = some (double.nearest false mag ((P : Int) - 1074)) := by
    show double.div x 4680673776000565248 = _
    unfold Format.div
    rw [hr, read_86400]
    simp only [Datum.quotient]
    rw [if_neg (by omega), hL, log_d, show double.fractionBits + 2 + 52 - L = k by rw [← hk]; rfl, Nat.shiftLeft_eq, hdv, hb01, hmag, hP]
    rfl
  obtain ⟨I, hI⟩ : ∃ I : Nat, i = (I : Int) - 1074 := ⟨(i + 1074).toNat, by omega⟩
  rw [show (i + 1074).toNat = I by omega] at hV ⊢
  -- the exact quotient and the number
  obtain ⟨A, hA⟩ : ∃ A, m * 2 ^ I = A := ⟨_, rfl⟩
  rw [hA] at hV ⊢
  have hscale : 2 * dv * 2 ^ P = A * 68719476736 := by
    rw [← hdv, ← hA, show (68719476736 : Nat) = 2 ^ 36 from rfl, Nat.mul_assoc m, ← Nat.pow_add, Nat.mul_comm 2, Nat.mul_assoc m, Nat.mul_assoc m, ← Nat.pow_succ, ← Nat.pow_add]
    congr 2
    omega
  obtain ⟨E, hE⟩ : ∃ E, mag * 2 ^ P = E := ⟨_, rfl⟩
  obtain ⟨U, hU⟩ : ∃ U, 2 ^ P = U := ⟨_, rfl⟩
  have e1 : 86400 * E ≤ A + 86400 * U := by
    have := Nat.mul_le_mul_right (2 ^ P) hmg1
    rw [Nat.add_mul, hscale, Nat.mul_assoc, hE, hU] at this
    omega
  have e2 : A ≤ 86400 * E + 86400 * U := by
    have := Nat.mul_le_mul_right (2 ^ P) hmg2
    rw [Nat.add_mul, hscale, Nat.mul_assoc, hE, hU] at this
    omega
  have e3 : 18014398509481984 * U ≤ E := by
    have := Nat.mul_le_mul_right (2 ^ P) hmgb
    rwa [hE, hU] at this
  have hcc : 2 ^ c = 4503599627370496 * 2 ^ (c - 52) := by
    rw [show (4503599627370496 : Nat) = 2 ^ 52 from rfl, ← Nat.pow_add]; congr 1; omega
  have hc1 : 2 ^ (c + 1) = 2 * 2 ^ c := by rw [Nat.pow_succ, Nat.mul_comm]
  have hEc : E < 2 ^ (c + 1) := by omega
  obtain ⟨X, h1, h2, h3, h4, h5⟩ := near_V false mag ((P : Int) - 1074) c (Or.inr (by omega)) (by omega) hc2 (by rw [show ((P : Int) - 1074 + 1074).toNat = P by omega, hE]; exact hEc)
  rw [show ((P : Int) - 1074 + 1074).toNat = P by omega, hE] at h3 h4
  refine ⟨_, X, hq, h1, by rw [h2]; simp, h5 (by omega), ?_, ?_⟩
  · omega
  · omega

theorem nearest_pos (n : Nat) (h0 : 0 < n) (hn : n < 144115188075855872) : ∃ m i, double.read (FloatKind.f64.nearest (n : Int)) = .number false m i ∧ 0 < m ∧ -150 ≤ i ∧ m * 2 ^ (i + 1074).toNat < 2 ^ 1200 := by
  have hn57 : n < 2 ^ 57 := by simpa using hn
  obtain ⟨g, hg⟩ : ∃ g : Nat, g = 1074 := ⟨_, rfl⟩
  obtain ⟨c, hc⟩ : ∃ c : Nat, c = 1131 := ⟨_, rfl⟩
  have hgz : ((0 : Int) + 1074).toNat = g := by omega
  have hE : n * 2 ^ ((0 : Int) + 1074).toNat < 2 ^ (c + 1) := by
    rw [hgz]
    have := Nat.mul_lt_mul_of_pos_right hn57 (Nat.two_pow_pos g)
    rw [← Nat.pow_add] at this
    exact Nat.lt_of_lt_of_le this (Nat.pow_le_pow_right (by omega) (by omega))
  obtain ⟨X, h1, h2, h3, h4, h5⟩ := near_V false n 0 c (Or.inr (by omega)) (by omega) (by omega) hE
  rw [← nearest_word] at h1 h2
  obtain ⟨s, m, i, hr⟩ := h1
  rw [V_number hr] at h2
  have hX := h5 h0
  obtain ⟨_, _, hm2⟩ := read_number hr
  have hs : s = false ∧ m * 2 ^ (i + 1074).toNat = X := by
    cases s with
    | false => simp at h2; exact ⟨rfl, by have h2' : ((m * 2 ^ (i + 1074).toNat : Nat) : Int) = (X : Int) := by simpa using h2
                                          omega⟩
    | true =>
      exfalso
      have h2' : -((m * 2 ^ (i + 1074).toNat : Nat) : Int) = (X : Int) := by simpa using h2
      omega
  obtain ⟨rfl, hv⟩ := hs
  rw [hgz] at h3 h4 hE
  have hD : 2 ^ g ≤ n * 2 ^ g := Nat.le_mul_of_pos_left _ h0
  have hm0 : 0 < m := by
    rcases Nat.eq_zero_or_pos m with h | h
    · subst h; omega
    · exact h
  have hlow : 2 ^ g ≤ X := by
    by_cases hc9 : n ≤ 9007199254740992
    · obtain ⟨_, hV⟩ := ofInt_V (n : Int) (by omega) (by omega)
      rw [V_number hr, hv] at hV
      have hV' : (X : Int) = (n : Int) * (D : Int) := by simpa using hV
      have : X = n * D := by exact_mod_cast hV'
      rw [this, D_eq, dBits_eq, ← hg]
      exact hD
    · have h1 := Nat.mul_le_mul_right (2 ^ g) (show 9007199254740992 ≤ n by omega)
      have d2 : (2 : Nat) ^ (c - 52) = 32 * 2 ^ g := by rw [show (32 : Nat) = 2 ^ 5 from rfl, ← Nat.pow_add]; congr 1; omega
      rw [d2] at h4
      clear d2 hE h3 hD h2 hv
      generalize 2 ^ g = G at *
      generalize n * G = H at *
      omega
  refine ⟨m, i, hr, hm0, ?_, ?_⟩
  · rcases Int.lt_or_le i (-150) with hlt | hle
    · exfalso
      have hm3 : m ≤ 2 ^ 53 := Nat.le_of_lt (by simpa using hm2)
      obtain ⟨u, hu⟩ : ∃ u : Nat, u = 1020 := ⟨_, rfl⟩
      have a : m * 2 ^ (i + 1074).toNat ≤ 2 ^ 53 * 2 ^ u := Nat.mul_le_mul hm3 (Nat.pow_le_pow_right (by omega) (by omega))
      rw [← Nat.pow_add, hv] at a
      have b : (2 : Nat) ^ (53 + u) < 2 ^ g := Nat.pow_lt_pow_right (by omega) (by omega)
      exact absurd (Nat.le_trans hlow a) (Nat.not_le_of_lt b)
    · exact hle
  · rw [hv]
    have d : (2 : Nat) ^ 1200 = 295147905179352825856 * 2 ^ (c + 1) := by rw [show (295147905179352825856 : Nat) = 2 ^ 68 from rfl, ← Nat.pow_add]; congr 1; omega
    have d2 : (2 : Nat) ^ (c - 52) ≤ 2 ^ (c + 1) := Nat.pow_le_pow_right (by omega) (by omega)
    rw [d]
    clear d hlow hD h2 hv
    generalize 2 ^ (c + 1) = G at *
    generalize 2 ^ (c - 52) = H at *
    generalize n * 2 ^ g = K at *
    omega
/-- Seconds as days. -/
def dayQ (n : Nat) : Nat := (floatBits .quo .f64 (FloatKind.f64.nearest (n : Int)) 4680673776000565248).getD 0
theorem dayQ_zero : floatBits .quo .f64 (FloatKind.f64.nearest ((0 : Nat) : Int)) 4680673776000565248 = some 0 := by decide +kernel
theorem dayQ_spec (n : Nat) (hn : n < 144115188075855872) : floatBits .quo .f64 (FloatKind.f64.nearest (n : Int)) 4680673776000565248 = some (dayQ n) ∧ Fin (dayQ n) ∧ (V (dayQ n) = 0 ↔ n = 0) := by
  by_cases h0 : n = 0
  · subst h0
    have e : dayQ 0 = 0 := by unfold dayQ; rw [dayQ_zero]; rfl
    rw [e]
    refine ⟨dayQ_zero, ⟨false, 0, -1074, by decide⟩, ?_⟩
    simp [V, show double.read 0 = .number false 0 (-1074) by decide, vOf, signed]
  · obtain ⟨m, i, hr, hm, hi, hb⟩ := nearest_pos n (by omega) hn
    have hb' : m * 2 ^ (i + 1074).toNat < 86400 * 2 ^ 1200 := by
      generalize 2 ^ 1200 = G at *
      omega
    obtain ⟨r, X, h1, h2, h3, h4, _⟩ := div_near hr hm hi 1200 (by omega) (by omega) hb'
    have e : dayQ n = r := by unfold dayQ; rw [h1]; rfl
    rw [e, h3]
    exact ⟨h1, h2, by omega⟩
theorem dayQ_0 : dayQ 0 = 0 := by unfold dayQ; rw [dayQ_zero]; rfl
/-- A whole number and nought: the sum is that number, to the bit. -/
theorem add_nought (n : Int) (h1 : -9007199254740992 ≤ n) (h2 : n ≤ 9007199254740992) : floatBits .add .f64 (FloatKind.f64.nearest n) 0 = some (FloatKind.f64.nearest n) := by
  obtain ⟨⟨s, m, i, hr⟩, hV⟩ := ofInt_V n h1 h2
  obtain ⟨b1, b2, b3⟩ := read_number hr
  have hwd : ∀ d, double.write d < 18446744073709551616 := fun d => (show (2 : Nat) ^ double.width = 18446744073709551616 by decide) ▸ double.write_lt d
  have hlt : FloatKind.f64.nearest n < 18446744073709551616 := hwd (.number (decide (n < 0)) n.natAbs 0)
  show double.add _ 0 = _
  unfold Format.add
  rw [hr, show double.read 0 = .number false 0 (-1074) by decide]
  simp only [Datum.sum]
  rw [show min i (-1074 : Int) = -1074 by omega, show ((-1074 : Int) - -1074).toNat = 0 by omega, show signed false 0 0 = 0 from rfl, Int.add_zero, show (i - -1074).toNat = (i + 1074).toNat by omega]
  rw [V_number hr] at hV
  rw [signed_eq]
  obtain ⟨A, hA⟩ : ∃ A, m * 2 ^ (i + 1074).toNat = A := ⟨_, rfl⟩
  rw [hA] at hV ⊢
  rw [Option.map_some]
  congr 1
  show double.nearest _ _ _ = _
  by_cases h0 : m = 0
  · have : A = 0 := by rw [← hA, h0, Nat.zero_mul]
    subst this
    have hn0 : n = 0 := by
      have : n * (D : Int) = 0 := by rw [← hV]; simp
      rcases Int.mul_eq_zero.1 this with h | h
      · exact h
      · have := D_pos; omega
    subst hn0
    have hs : s = false := by
      rw [show FloatKind.f64.nearest 0 = 0 by decide, show double.read 0 = .number false 0 (-1074) by decide] at hr
      injection hr with e1 _ _
      exact e1.symm
    subst hs
    simp
    decide
  · have hA0 : 0 < A := by rw [← hA]; exact Nat.mul_pos (by omega) (Nat.two_pow_pos _)
    have ht : ((if s then -1 else 1) * (A : Int) : Int) ≠ 0 := by cases s <;> simp <;> omega
    rw [if_neg ht]
    have hs : decide ((if s then -1 else 1) * (A : Int) < 0) = s := by cases s <;> simp <;> omega
    have ha : ((if s then -1 else 1) * (A : Int) : Int).natAbs = A := by cases s <;> simp
    rw [hs, ha]
    obtain ⟨m', e', g1, g2⟩ := nearest_exact s m (i + 1074).toNat (-1074) b3 (by omega) (by omega)
    rw [hA] at g1 g2
    refine word_inj (hwd (.number s A (-1074))) hlt g1 hr ?_
    rw [g2, hA]
    simp
#print axioms dayQ_spec
#print axioms add_nought
end Go.Proofs.YtfoclhpnlemmnaaGreatDoor
