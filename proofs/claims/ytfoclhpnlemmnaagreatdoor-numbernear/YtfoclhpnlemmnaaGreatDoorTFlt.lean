/- Floats, rounded: how near they are to what is exact. No Go text here. -/
import Derived.Test.YtfoclhpnlemmnaaGreatDoorNFl2
namespace Go.Proofs.YtfoclhpnlemmnaaGreatDoor
open Ieee

theorem cut_even_near (s : Bool) (n d : Nat) : 2 * (Toward.even.cut s n d * 2 ^ d) ≤ 2 * n + 2 ^ d ∧ 2 * n ≤ 2 * (Toward.even.cut s n d * 2 ^ d) + 2 ^ d := by
  obtain ⟨gap, hg, h1, h2⟩ := cut_parts n d
  have hle : gap ≤ 2 ^ d := by
    rw [hg, Nat.one_shiftLeft]
    exact Nat.pow_le_pow_right (by omega) (Nat.min_le_left _ _)
  have hbig : gap = 2 ^ d ∨ 2 * (n % 2 ^ d) < gap := by
    by_cases hd : d ≤ n.log2 + 2
    · left
      rw [hg, Nat.one_shiftLeft, Nat.min_eq_left hd]
    · right
      have hlt : n < 2 ^ (n.log2 + 1) := Nat.lt_log2_self
      have hm := Nat.mod_le n (2 ^ d)
      have e : (2 : Nat) ^ (n.log2 + 2) = 2 * 2 ^ (n.log2 + 1) := by rw [Nat.pow_succ, Nat.mul_comm]
      rw [hg, Nat.one_shiftLeft, Nat.min_eq_right (by omega)]
      omega
  have hdm := Nat.div_add_mod n (2 ^ d)
  have hml := Nat.mod_lt n (Nat.two_pow_pos d)
  have hc : Toward.even.cut s n d = n / 2 ^ d + (decide (gap < 2 * (n % 2 ^ d)) || (gap == 2 * (n % 2 ^ d) && n / 2 ^ d % 2 == 1)).toNat := by
    unfold Toward.cut
    simp only [← hg, h1, h2]
  rw [hc, Nat.add_mul, Nat.mul_comm (n / 2 ^ d)]
  generalize 2 ^ d * (n / 2 ^ d) = A at *
  generalize n % 2 ^ d = R at *
  generalize 2 ^ d = G at *
  by_cases c1 : gap < 2 * R
  · rw [decide_eq_true c1]
    simp only [Bool.true_or, Bool.toNat_true, Nat.one_mul]
    omega
  · rw [decide_eq_false c1, Bool.false_or]
    by_cases c2 : gap = 2 * R
    · rcases hbig with hb | hb
      · have : ∀ b : Bool, b.toNat * G = 0 ∨ b.toNat * G = G := by intro b; cases b <;> simp
        rcases this (gap == 2 * R && n / G % 2 == 1) with h | h
        · rw [h]; omega
        · rw [h]; omega
      · omega
    · rw [show (gap == 2 * R) = false by simpa using c2]
      simp only [Bool.false_and, Bool.toNat_false, Nat.zero_mul]
      omega

/-- HOW NEAR a number is to what is written of it: half of a unit of its last place. -/
theorem near_V (s : Bool) (mag : Nat) (place : Int) (c : Nat) (hp : mag = 0 ∨ -1074 ≤ place) (hc : 52 ≤ c) (hc2 : c ≤ 2000) (hE : mag * 2 ^ (place + 1074).toNat < 2 ^ (c + 1)) :
    ∃ X : Nat, Fin (double.nearest s mag place) ∧ V (double.nearest s mag place) = (if s then -1 else 1) * (X : Int) ∧ 2 * X ≤ 2 * (mag * 2 ^ (place + 1074).toNat) + 2 ^ (c - 52) ∧ 2 * (mag * 2 ^ (place + 1074).toNat) ≤ 2 * X + 2 ^ (c - 52) ∧ (0 < mag → 0 < X) := by
  by_cases h0 : mag = 0
  · subst h0
    refine ⟨0, ?_, ?_, Nat.zero_le _, by rw [Nat.zero_mul]; exact Nat.zero_le _, fun h => absurd h (by omega)⟩
    all_goals
      unfold Format.nearest
      rw [if_pos rfl]
    · exact ⟨s, 0, -1074, read_low (by omega)⟩
    · rw [V_number (read_low (s := s) (k := 0) (by omega))]
      simp
  have hp' : -1074 ≤ place := by omega
  obtain ⟨L, hL⟩ : ∃ L, mag.log2 = L := ⟨_, rfl⟩
  have hl1 : 2 ^ L ≤ mag := by rw [← hL]; exact Nat.log2_self_le h0
  have hl2 : mag < 2 ^ (L + 1) := by rw [← hL]; exact Nat.lt_log2_self
  obtain ⟨P, hP⟩ : ∃ P : Nat, place = (P : Int) - 1074 := ⟨(place + 1074).toNat, by omega⟩
  subst hP
  rw [show ((P : Int) - 1074 + 1074).toNat = P by omega] at hE ⊢
  have hLP : L + P ≤ c := by
    have a : 2 ^ L * 2 ^ P ≤ mag * 2 ^ P := Nat.mul_le_mul_right _ hl1
    rw [← Nat.pow_add] at a
    have b : 2 ^ (L + P) < 2 ^ (c + 1) := by omega
    have := (Nat.pow_lt_pow_iff_right (show 1 < 2 by omega)).1 b
    omega
  have key : ∀ (q kept : Nat), q ≤ 2000 → kept ≤ 9007199254740992 → (q = 0 ∨ 4503599627370496 ≤ kept) → ∃ m e, double.read (double.word s (min (q * 4503599627370496 + kept) (2047 * 4503599627370496))) = .number s m e ∧ m * 2 ^ (e + 1074).toNat = kept * 2 ^ q := by
    intro q kept hq hk hk2
    rw [Nat.min_eq_left (by omega)]
    by_cases k1 : kept < 4503599627370496
    · have : q = 0 := by omega
      subst this
      rw [Nat.zero_mul, Nat.zero_add]
      exact ⟨kept, -1074, read_low k1, by simp⟩
    · by_cases k2 : kept < 9007199254740992
      · exact ⟨kept, -1074 + (q : Int), read_high (by omega) k2 (by omega), by rw [show (-1074 + (q : Int) + 1074).toNat = q by omega]⟩
      · have : kept = 9007199254740992 := by omega
        subst this
        refine ⟨4503599627370496, -1074 + ((q + 1 : Nat) : Int), ?_, ?_⟩
        · rw [show q * 4503599627370496 + 9007199254740992 = (q + 1) * 4503599627370496 + 4503599627370496 by omega]
          exact read_high (by omega) (by omega) (by omega)
        · rw [show (-1074 + ((q + 1 : Nat) : Int) + 1074).toNat = q + 1 by omega, Nat.pow_succ]
          omega
  have fin : ∀ (q kept : Nat), q ≤ 2000 → kept ≤ 9007199254740992 → (q = 0 ∨ 4503599627370496 ≤ kept) → q ≤ c - 52 → 2 * (kept * 2 ^ q) ≤ 2 * (mag * 2 ^ P) + 2 ^ q → 2 * (mag * 2 ^ P) ≤ 2 * (kept * 2 ^ q) + 2 ^ q → double.nearest s mag ((P : Int) - 1074) = double.word s (min (q * 4503599627370496 + kept) (2047 * 4503599627370496)) → 0 < kept → ∃ X : Nat, Fin (double.nearest s mag ((P : Int) - 1074)) ∧ V (double.nearest s mag ((P : Int) - 1074)) = (if s then -1 else 1) * (X : Int) ∧ 2 * X ≤ 2 * (mag * 2 ^ P) + 2 ^ (c - 52) ∧ 2 * (mag * 2 ^ P) ≤ 2 * X + 2 ^ (c - 52) ∧ (0 < mag → 0 < X) := by
    intro q kept hq hk hk2 hqc n1 n2 hw hk0
    obtain ⟨m, e, hr, hv⟩ := key q kept hq hk hk2
    rw [hw]
    have hpq : 2 ^ q ≤ 2 ^ (c - 52) := Nat.pow_le_pow_right (by omega) hqc
    refine ⟨kept * 2 ^ q, ⟨s, m, e, hr⟩, by rw [V_number hr, hv], by omega, by omega, fun _ => Nat.mul_pos hk0 (Nat.two_pow_pos _)⟩
  have hn : double.nearest s mag ((P : Int) - 1074) = double.word s (min ((max ((P : Int) - 1074 + L - 52) (-1074) - -1074).toNat * 4503599627370496 + Toward.even.cut s (mag <<< ((P : Int) - 1074 - max ((P : Int) - 1074 + L - 52) (-1074)).toNat) (max ((P : Int) - 1074 + L - 52) (-1074) - ((P : Int) - 1074)).toNat) (2047 * 4503599627370496)) := by
    unfold Format.nearest
    rw [if_neg h0, hL]
    rfl
  have hmagP : 0 < mag * 2 ^ P := Nat.mul_pos (by omega) (Nat.two_pow_pos _)
  by_cases c1 : P + L < 52
  · have e0 : max ((P : Int) - 1074 + L - 52) (-1074) = -1074 := by omega
    rw [e0, show ((-1074 : Int) - -1074).toNat = 0 by omega, show ((-1074 : Int) - ((P : Int) - 1074)).toNat = 0 by omega, cut_zero, show ((P : Int) - 1074 - -1074).toNat = P by omega, Nat.shiftLeft_eq] at hn
    have hb : mag * 2 ^ P < 4503599627370496 := by
      have a : mag * 2 ^ P < 2 ^ (L + 1) * 2 ^ P := Nat.mul_lt_mul_of_pos_right hl2 (Nat.two_pow_pos _)
      rw [← Nat.pow_add] at a
      have b := Nat.pow_le_pow_right (show 1 ≤ 2 by omega) (show L + 1 + P ≤ 52 by omega)
      have e : (2 : Nat) ^ 52 = 4503599627370496 := by decide
      omega
    exact fin 0 (mag * 2 ^ P) (by omega) (by omega) (Or.inl rfl) (by omega) (by simp) (by simp) hn hmagP
  · obtain ⟨q, hq⟩ : ∃ q, P + L = 52 + q := ⟨P + L - 52, by omega⟩
    have e0 : max ((P : Int) - 1074 + L - 52) (-1074) = (q : Int) - 1074 := by omega
    rw [e0, show ((q : Int) - 1074 - -1074).toNat = q by omega, show ((P : Int) - 1074 - ((q : Int) - 1074)).toNat = P - q by omega, show ((q : Int) - 1074 - ((P : Int) - 1074)).toNat = q - P by omega, Nat.shiftLeft_eq] at hn
    obtain ⟨k, hk⟩ : ∃ k, Toward.even.cut s (mag * 2 ^ (P - q)) (q - P) = k := ⟨_, rfl⟩
    obtain ⟨n1, n2⟩ := cut_even_near s (mag * 2 ^ (P - q)) (q - P)
    rw [hk] at n1 n2 hn
    -- the number that is cut lies between 2^52 and 2^53 of its unit
    have s1 : 4503599627370496 * 2 ^ (q - P) ≤ mag * 2 ^ (P - q) := by
      have a : 2 ^ L * 2 ^ (P - q) ≤ mag * 2 ^ (P - q) := Nat.mul_le_mul_right _ hl1
      rw [← Nat.pow_add, show L + (P - q) = 52 + (q - P) by omega, Nat.pow_add] at a
      exact a
    have s2 : mag * 2 ^ (P - q) < 9007199254740992 * 2 ^ (q - P) := by
      have a : mag * 2 ^ (P - q) < 2 ^ (L + 1) * 2 ^ (P - q) := Nat.mul_lt_mul_of_pos_right hl2 (Nat.two_pow_pos _)
      rw [← Nat.pow_add, show L + 1 + (P - q) = 53 + (q - P) by omega, Nat.pow_add] at a
      exact a
    have hg := Nat.two_pow_pos (q - P)
    have k1 : 4503599627370496 ≤ k := by
      rcases Nat.lt_or_ge k 4503599627370496 with h | h
      · have : k * 2 ^ (q - P) ≤ 4503599627370495 * 2 ^ (q - P) := Nat.mul_le_mul_right _ (by omega)
        omega
      · exact h
    have k2 : k ≤ 9007199254740992 := by
      rcases Nat.lt_or_ge 9007199254740992 k with h | h
      · have : 9007199254740993 * 2 ^ (q - P) ≤ k * 2 ^ (q - P) := Nat.mul_le_mul_right _ (by omega)
        omega
      · exact h
    refine fin q k (by omega) k2 (Or.inr k1) (by omega) ?_ ?_ hn (by omega)
    all_goals
      by_cases hqP : P ≤ q
      · rw [show P - q = 0 by omega, Nat.pow_zero, Nat.mul_one] at n1 n2
        have ep : 2 ^ q = 2 ^ (q - P) * 2 ^ P := by rw [← Nat.pow_add]; congr 1; omega
        have t1 := Nat.mul_le_mul_right (2 ^ P) n1
        have t2 := Nat.mul_le_mul_right (2 ^ P) n2
        rw [ep, ← Nat.mul_assoc]
        rw [Nat.add_mul, Nat.mul_assoc, Nat.mul_assoc, Nat.mul_assoc] at t1 t2
        rw [Nat.mul_assoc]
        omega
      · have ep : mag * 2 ^ P = mag * 2 ^ (P - q) * 2 ^ q := by rw [Nat.mul_assoc, ← Nat.pow_add]; congr 2; omega
        rw [ep]
        rw [show q - P = 0 by omega, Nat.pow_zero] at n1 n2
        clear s1 s2 hn hk
        generalize mag * 2 ^ (P - q) = A at *
        have t1 := Nat.mul_le_mul_right (2 ^ q) n1
        have t2 := Nat.mul_le_mul_right (2 ^ q) n2
        simp only [Nat.add_mul, Nat.mul_assoc, Nat.one_mul] at t1 t2
        omega

/-- Two words that read as the same number are one. -/
theorem word_inj {x y : Nat} {s : Bool} {m n : Nat} {i j : Int} (hx : x < 18446744073709551616) (hy : y < 18446744073709551616) (h1 : double.read x = .number s m i) (h2 : double.read y = .number s n j) (hv : m * 2 ^ (i + 1074).toNat = n * 2 ^ (j + 1074).toNat) : x = y := by
  have form : ∀ (x m : Nat) (i : Int), x < 18446744073709551616 → double.read x = .number s m i → (x / 9223372036854775808 = s.toNat) ∧ ((x % 9223372036854775808 < 4503599627370496 ∧ m = x % 9223372036854775808 ∧ i = -1074) ∨ ∃ q : Nat, i = -1074 + (q : Int) ∧ 4503599627370496 ≤ m ∧ m < 9007199254740992 ∧ x % 9223372036854775808 = q * 4503599627370496 + m) := by
    intro x m i hx h
    unfold Format.read at h
    dsimp only at h
    rw [signWeight_d, binade_d, infRung_d, leastPlace_d] at h
    have hs : ∀ b : Bool, (x / 9223372036854775808 % 2 == 1) = b → x / 9223372036854775808 = b.toNat := by
      intro b hb
      cases b with
      | false =>
        have : ¬ x / 9223372036854775808 % 2 = 1 := by simpa using hb
        show _ = 0
        omega
      | true =>
        have : x / 9223372036854775808 % 2 = 1 := by simpa using hb
        show _ = 1
        omega
    split at h
    · rename_i c
      injection h with e1 e2 e3
      exact ⟨hs _ e1, Or.inl ⟨c, e2.symm, e3.symm⟩⟩
    · split at h
      · rename_i c1 c2
        injection h with e1 e2 e3
        exact ⟨hs _ e1, Or.inr ⟨x % 9223372036854775808 / 4503599627370496 - 1, e3.symm, by omega, by omega, by omega⟩⟩
      · split at h <;> cases h
  obtain ⟨a1, a2⟩ := form x m i hx h1
  obtain ⟨b1, b2⟩ := form y n j hy h2
  have big : ∀ (a b k : Nat), 4503599627370496 ≤ b → b * 2 ^ (k + 1) = a → a < 9007199254740992 → False := by
    intro a b k hb he ha
    have : 1 ≤ 2 ^ k := Nat.two_pow_pos k
    have h3 : b * 1 ≤ b * 2 ^ k := Nat.mul_le_mul_left b this
    rw [Nat.pow_succ, ← Nat.mul_assoc] at he
    omega
  have hmod : x % 9223372036854775808 = y % 9223372036854775808 := by
    rcases a2 with ⟨c1, rfl, rfl⟩ | ⟨q, rfl, c1, c2, c3⟩
    · rcases b2 with ⟨d1, rfl, rfl⟩ | ⟨r, rfl, d1, d2, d3⟩
      · simpa using hv
      · rw [show ((-1074 : Int) + 1074).toNat = 0 by omega, Nat.pow_zero, Nat.mul_one, show (-1074 + (r : Int) + 1074).toNat = r by omega] at hv
        cases r with
        | zero => rw [Nat.pow_zero] at hv; omega
        | succ r => exact absurd (big _ _ _ d1 hv.symm (by omega)) id
    · rcases b2 with ⟨d1, rfl, rfl⟩ | ⟨r, rfl, d1, d2, d3⟩
      · rw [show ((-1074 : Int) + 1074).toNat = 0 by omega, Nat.pow_zero, Nat.mul_one, show (-1074 + (q : Int) + 1074).toNat = q by omega] at hv
        cases q with
        | zero => rw [Nat.pow_zero] at hv; omega
        | succ q => exact absurd (big _ _ _ c1 hv (by omega)) id
      · rw [show (-1074 + (r : Int) + 1074).toNat = r by omega, show (-1074 + (q : Int) + 1074).toNat = q by omega] at hv
        rcases Nat.lt_trichotomy q r with h | h | h
        · obtain ⟨k, rfl⟩ : ∃ k, r = q + (k + 1) := ⟨r - q - 1, by omega⟩
          rw [Nat.pow_add, ← Nat.mul_assoc, Nat.mul_right_comm] at hv
          exact absurd (big _ _ _ d1 (Nat.eq_of_mul_eq_mul_right (Nat.two_pow_pos q) hv).symm c2) id
        · subst h
          have := Nat.eq_of_mul_eq_mul_right (Nat.two_pow_pos q) hv
          omega
        · obtain ⟨k, rfl⟩ : ∃ k, q = r + (k + 1) := ⟨q - r - 1, by omega⟩
          rw [Nat.pow_add, ← Nat.mul_assoc, Nat.mul_right_comm] at hv
          exact absurd (big _ _ _ c1 (Nat.eq_of_mul_eq_mul_right (Nat.two_pow_pos r) hv) d2) id
  have e1 := Nat.div_add_mod x 9223372036854775808
  have e2 := Nat.div_add_mod y 9223372036854775808
  rw [a1, hmod] at e1
  rw [b1] at e2
  omega
#print axioms near_V
#print axioms word_inj
end Go.Proofs.YtfoclhpnlemmnaaGreatDoor
