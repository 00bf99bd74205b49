/- The seconds of a day and a second, and how near they are: the numbers of NumberNear. -/
import Derived.Test.YtfoclhpnlemmnaaGreatDoorTPtR
import Derived.Test.YtfoclhpnlemmnaaGreatDoorTNea
namespace Go.Proofs.YtfoclhpnlemmnaaGreatDoor
open Go.RowKit Ieee

/-- A unit, and the powers that are met. -/
theorem units : ∃ g : Nat, g = 991 ∧ 0 < 2 ^ g ∧ D = 9671406556917033397649408 * 2 ^ g ∧ ∀ k, 2 ^ (g + k) = 2 ^ k * 2 ^ g := by
  obtain ⟨g, hg⟩ : ∃ g : Nat, g = 991 := ⟨_, rfl⟩
  have hp : ∀ k, 2 ^ (g + k) = 2 ^ k * 2 ^ g := fun k => by rw [Nat.pow_add, Nat.mul_comm]
  refine ⟨g, hg, Nat.two_pow_pos _, ?_, hp⟩
  rw [D_eq, show dBits = g + 83 by rw [dBits_eq]; omega, hp]
/-- The quotient of so many seconds by 86400, near. -/
theorem dayQ_near (n : Nat) (hn : n ≤ 9007199254740992) (c : Nat) (hc : 100 ≤ c) (hc2 : c ≤ 2000) (hV : n * D < 86400 * 2 ^ c) :
    ∃ X : Nat, Fin (dayQ n) ∧ V (dayQ n) = (X : Int) ∧ 86400 * X ≤ n * D + 86400 * 2 ^ (c - 52) ∧ n * D ≤ 86400 * X + 86400 * 2 ^ (c - 52) := by
  by_cases h0 : n = 0
  · subst h0
    obtain ⟨_, h1, h2⟩ := dayQ_spec 0 (by omega)
    exact ⟨0, h1, by rw [h2.2 rfl]; rfl, Nat.zero_le _, by rw [Nat.zero_mul]; exact Nat.zero_le _⟩
  · obtain ⟨m, i, hr, hm, hi, _⟩ := nearest_pos n (by omega) (by omega)
    obtain ⟨_, hVn⟩ := ofInt_V (n : Int) (by omega) (by omega)
    rw [V_number hr] at hVn
    have hVn' : ((m * 2 ^ (i + 1074).toNat : Nat) : Int) = ((n * D : Nat) : Int) := by simpa using hVn
    have hmn : m * 2 ^ (i + 1074).toNat = n * D := Int.ofNat_inj.1 hVn'
    rw [← hmn] at hV ⊢
    obtain ⟨r, X, h1, h2, h3, h4, h5, h6⟩ := div_near hr hm hi c hc hc2 hV
    have e : dayQ n = r := by unfold dayQ; rw [h1]; rfl
    rw [e]
    exact ⟨X, h2, h3, h5, h6⟩
theorem half_V : ∃ H : Int, V 4602678819172646912 = H ∧ 2 * H = (D : Int) ∧ Fin 4602678819172646912 := by
  obtain ⟨g, hg, _, hD, hp⟩ := units
  refine ⟨_, V_number read_half, ?_, ⟨_, _, _, read_half⟩⟩
  rw [show ((-53 : Int) + 1074).toNat = g + 30 by omega, hp, hD]
  simp only [Bool.false_eq_true, if_false, Int.one_mul]
  generalize 2 ^ g = u
  omega
set_option maxRecDepth 100000 in
/-- THE SECONDS of a day and a second are these; the number lies near to them. -/
theorem near_sec (d c : Nat) (hd : d < 2000000) (hc : c < 86400) : Fin (sumF d c) ∧ 0 ≤ V (sumF d c) ∧ Fin (secQ (sumF d c)) ∧ fl (secQ (sumF d c)) = ((d * 86400 + c : Nat) : Int) ∧
    ∃ u : Nat, 0 < u ∧ D = 9671406556917033397649408 * u ∧ 86400 * V (sumF d c) ≤ ((d * 86400 + c : Nat) : Int) * (D : Int) + 86400 * (2251799813685248 * (u : Int)) ∧ ((d * 86400 + c : Nat) : Int) * (D : Int) ≤ 86400 * V (sumF d c) + 86400 * (2251799813685248 * (u : Int)) := by
  obtain ⟨g, hg, hu0, hD, hp⟩ := units
  obtain ⟨ha, hVa⟩ := ofInt_V (d : Int) (by omega) (by omega)
  obtain ⟨X, hb, hVb, b1, b2⟩ := dayQ_near c (by omega) (g + 83) (by omega) (by omega) (by
    rw [hp 83]
    have e : (2 : Nat) ^ 83 = 9671406556917033397649408 := by decide
    rw [e, ← hD]
    exact Nat.mul_lt_mul_of_pos_right hc D_pos)
  rw [show g + 83 - 52 = g + 31 by omega, hp 31, show (2 : Nat) ^ 31 = 2147483648 by decide] at b1 b2
  obtain ⟨u, hu⟩ : ∃ u, 2 ^ g = u := ⟨_, rfl⟩
  rw [hu] at hu0 hD b1 b2 hp
  obtain ⟨du, hdu⟩ : ∃ du, d * u = du := ⟨_, rfl⟩
  obtain ⟨cu, hcu⟩ : ∃ cu, c * u = cu := ⟨_, rfl⟩
  have hdD : d * D = 9671406556917033397649408 * du := by rw [hD, ← hdu, Nat.mul_left_comm]
  have hcD : c * D = 9671406556917033397649408 * cu := by rw [hD, ← hcu, Nat.mul_left_comm]
  have hdu2 : du ≤ 1999999 * u := by rw [← hdu]; exact Nat.mul_le_mul_right _ (by omega)
  have hcu2 : cu ≤ 86399 * u := by rw [← hcu]; exact Nat.mul_le_mul_right _ (by omega)
  have hVa' : V (FloatKind.f64.nearest (d : Int)) = 9671406556917033397649408 * (du : Int) := by
    rw [hVa, ← Int.natCast_mul, hdD, Int.natCast_mul]
    rfl
  rw [hcD] at b1 b2
  have hN : ((d * 86400 + c : Nat) : Int) * (D : Int) = 9671406556917033397649408 * (86400 * (du : Int) + (cu : Int)) := by
    rw [← Int.natCast_mul, Nat.add_mul, Nat.mul_right_comm, hdD, hcD]
    omega
  -- the sum
  obtain ⟨x, hx1, hx2, hx3, hx4⟩ := add_near ha hb (g + 103) (by omega) (by omega) (by
    rw [hVa', hVb, show g + 103 + 1 = g + 104 by omega, hp 104, show (2 : Nat) ^ 104 = 20282409603651670423947251286016 by decide]; omega) (by
    rw [hVa', hVb, show g + 103 + 1 = g + 104 by omega, hp 104, show (2 : Nat) ^ 104 = 20282409603651670423947251286016 by decide]; omega)
  rw [show g + 103 - 52 = g + 51 by omega, hp 51, show (2 : Nat) ^ 51 = 2251799813685248 by decide, hVa', hVb] at hx3 hx4
  have hsx : sumF d c = x := by unfold sumF; rw [hx1]; rfl
  rw [hsx]
  have k1 : 86400 * V x ≤ 9671406556917033397649408 * (86400 * (du : Int) + (cu : Int)) + 86400 * (2251799813685248 * (u : Int)) := by omega
  have k2 : 9671406556917033397649408 * (86400 * (du : Int) + (cu : Int)) ≤ 86400 * V x + 86400 * (2251799813685248 * (u : Int)) := by omega
  -- its form
  obtain ⟨m, i, hr, hmi⟩ : ∃ m i, double.read x = .number false m i ∧ (m = 0 ∨ -1000 ≤ i) := by
    by_cases hz : d = 0 ∧ c = 0
    · obtain ⟨rfl, rfl⟩ := hz
      have : x = 0 := by
        have h1 : floatBits .add .f64 (FloatKind.f64.nearest ((0 : Nat) : Int)) (dayQ 0) = some 0 := by rw [dayQ_0]; decide
        rw [h1] at hx1
        exact (Option.some.inj hx1).symm
      exact ⟨0, -1074, by rw [this]; decide, Or.inl rfl⟩
    · have hpos : 36893488147419103232 * (u : Int) ≤ V x := by
        by_cases hd0 : d = 0
        · have hc1 : u ≤ cu := by rw [← hcu]; exact Nat.le_mul_of_pos_left _ (by omega)
          omega
        · have hd1 : u ≤ du := by rw [← hdu]; exact Nat.le_mul_of_pos_left _ (by omega)
          omega
      obtain ⟨s, m, i, hr⟩ := hx2
      have hv := V_number hr
      obtain ⟨_, _, hm53⟩ := read_number hr
      have hs : s = false := by
        cases s with
        | false => rfl
        | true =>
          exfalso
          have hv' : V x = -((m * 2 ^ (i + 1074).toNat : Nat) : Int) := by rw [hv]; simp
          omega
      subst hs
      refine ⟨m, i, hr, Or.inr ?_⟩
      have hv' : V x = ((m * 2 ^ (i + 1074).toNat : Nat) : Int) := by rw [hv]; simp
      rcases Int.lt_or_le i (-1000) with h | h
      · exfalso
        have a : m * 2 ^ (i + 1074).toNat ≤ m * 2 ^ g := Nat.mul_le_mul_left _ (Nat.pow_le_pow_right (by omega) (by omega))
        rw [hu] at a
        have b : m * u ≤ 9007199254740992 * u := Nat.mul_le_mul_right _ (by omega)
        rw [hv'] at hpos
        omega
      · exact h
  have hV0 : 0 ≤ V x := by rw [V_number hr]; simp only [Bool.false_eq_true, if_false, Int.one_mul]; exact Int.natCast_nonneg _
  -- the product
  obtain ⟨p, hp1, hp2, hp3, hp4⟩ := mul_near hr hmi (g + 120) (by omega) (by omega) (by
    rw [show g + 120 + 1 = g + 121 by omega, hp 121, show (2 : Nat) ^ 121 = 2658455991569831745807614120560689152 by decide]; omega)
  rw [show g + 120 - 52 = g + 68 by omega, hp 68, show (2 : Nat) ^ 68 = 295147905179352825856 by decide] at hp3 hp4
  -- and a half
  obtain ⟨H, hH1, hH2, hH3⟩ := half_V
  have hH2' : 2 * H = 9671406556917033397649408 * (u : Int) := by rw [hH2, hD, Int.natCast_mul]; rfl
  obtain ⟨q, hq1, hq2, hq3, hq4⟩ := add_near hp2 hH3 (g + 120) (by omega) (by omega) (by
    rw [hH1, show g + 120 + 1 = g + 121 by omega, hp 121, show (2 : Nat) ^ 121 = 2658455991569831745807614120560689152 by decide]; omega) (by
    rw [hH1, show g + 120 + 1 = g + 121 by omega, hp 121, show (2 : Nat) ^ 121 = 2658455991569831745807614120560689152 by decide]; omega)
  rw [show g + 120 - 52 = g + 68 by omega, hp 68, show (2 : Nat) ^ 68 = 295147905179352825856 by decide, hH1] at hq3 hq4
  have hsq : secQ x = q := by
    unfold secQ
    rw [hp1]
    show (floatBits .add .f64 p 4602678819172646912).getD 0 = q
    rw [hq1]
    rfl
  rw [hsq]
  refine ⟨hx2, hV0, hq2, ?_, u, hu0, hD, by rw [hN]; exact k1, by rw [hN]; exact k2⟩
  unfold fl
  have hDI : (D : Int) = 9671406556917033397649408 * (u : Int) := by rw [hD, Int.natCast_mul]; rfl
  refine ediv_of (r := V q - (D : Int) * ((d * 86400 + c : Nat) : Int)) (by omega) ?_ ?_
  · rw [Int.mul_comm, hN]
    omega
  · rw [Int.mul_comm, hN, hDI]
    omega
theorem read_near : double.read 4528446166978940095 = .number false 6832141098962111 (-70) := by decide
/-- Nearer than near. -/
theorem near_lt {r : Nat} {u : Nat} (hr : Fin r) (hu : D = 9671406556917033397649408 * u) (h : V r < 36893488147419103232 * (u : Int)) : (FloatKind.f64.format.order r 4528446166978940095 == some .lt) = true := by
  obtain ⟨g, hg, hu0, hD, hp⟩ := units
  have hug : 2 ^ g = u := by rw [hD] at hu; omega
  have hn : V 4528446166978940095 = 6832141098962111 * (8192 * (u : Int)) := by
    rw [V_number read_near, show ((-70 : Int) + 1074).toNat = g + 13 by omega, hp 13, hug]
    simp
  show (double.order r 4528446166978940095 == some .lt) = true
  rw [order_V hr ⟨_, _, _, read_near⟩, hn, cmp_lt]
  exact decide_eq_true (by omega)
/-- A day's number and its seconds' number are near. -/
theorem near_dif (d c : Nat) (hd : d < 2000000) (hc : c < 86400) : (∃ r, floatBits .sub .f64 (sumF d c) (dayQ (d * 86400 + c)) = some r ∧ (FloatKind.f64.format.order r 4528446166978940095 == some .lt) = true) ∧ (∃ r, floatBits .sub .f64 (dayQ (d * 86400 + c)) (sumF d c) = some r ∧ (FloatKind.f64.format.order r 4528446166978940095 == some .lt) = true) := by
  obtain ⟨hx, _, _, _, u, hu0, hD, k1, k2⟩ := near_sec d c hd hc
  obtain ⟨g, hg, _, hD', hp⟩ := units
  have hug : 2 ^ g = u := by rw [hD'] at hD; omega
  have hND : (d * 86400 + c) * D < 86400 * 2 ^ (g + 104) := by
    rw [hp 104, hug, show (2 : Nat) ^ 104 = 20282409603651670423947251286016 by decide, hD]
    have : (d * 86400 + c) * (9671406556917033397649408 * u) ≤ 172800000000 * (9671406556917033397649408 * u) := Nat.mul_le_mul_right _ (by omega)
    omega
  obtain ⟨Z, hz, hVz, z1, z2⟩ := dayQ_near (d * 86400 + c) (by omega) (g + 104) (by omega) (by omega) hND
  rw [show g + 104 - 52 = g + 52 by omega, hp 52, hug, show (2 : Nat) ^ 52 = 4503599627370496 by decide] at z1 z2
  generalize dayQ (d * 86400 + c) = z at *
  generalize sumF (d : Int) c = x at *
  obtain ⟨ND, hNN⟩ : ∃ ND : Nat, (d * 86400 + c) * D = ND := ⟨_, rfl⟩
  rw [← Int.natCast_mul, hNN] at k1 k2
  rw [hNN] at z1 z2
  have w1 : V x - V z ≤ 9007199254740992 * (u : Int) := by rw [hVz]; omega
  have w2 : V z - V x ≤ 9007199254740992 * (u : Int) := by rw [hVz]; omega
  have e54 : ((2 ^ (g + 53 + 1) : Nat) : Int) = 18014398509481984 * (u : Int) := by
    rw [show g + 53 + 1 = g + 54 by omega, hp 54, hug, Int.natCast_mul]; rfl
  have e1 : ((2 ^ (g + 53 - 52) : Nat) : Int) = 2 * (u : Int) := by
    rw [show g + 53 - 52 = g + 1 by omega, hp 1, hug, Int.natCast_mul]; rfl
  constructor
  · obtain ⟨r, h1, h2, h3, h4⟩ := sub_near hx hz (g + 53) (by omega) (by omega) (by rw [e54]; omega) (by rw [e54]; omega)
    rw [e1] at h3 h4
    exact ⟨r, h1, near_lt h2 hD (by omega)⟩
  · obtain ⟨r, h1, h2, h3, h4⟩ := sub_near hz hx (g + 53) (by omega) (by omega) (by rw [e54]; omega) (by rw [e54]; omega)
    rw [e1] at h3 h4
    exact ⟨r, h1, near_lt h2 hD (by omega)⟩
theorem near_zero : (FloatKind.f64.format.order 0 4528446166978940095 == some .lt) = true := by decide +kernel
#print axioms near_sec
#print axioms near_dif
end Go.Proofs.YtfoclhpnlemmnaaGreatDoor
