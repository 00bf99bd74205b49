/- Floats: a number less itself, cut towards nought, exact differences, products that are no NaN. No Go text here. -/
import Derived.Test.YtpjbobbmldplbaaGreatDoorK05
namespace Go.Proofs.YtpjbobbmldplbaaGreatDoor
open Ieee

theorem sub_self {x : Nat} (hx : Fin x) : floatBits .sub .f64 x x = some 0 := by
  obtain ⟨s, m, e, hr⟩ := hx
  show double.sub x x = some 0
  unfold Format.sub
  rw [hr]
  simp only [Datum.opposite, Datum.sum, Option.map_some, Option.some.injEq]
  have ht : signed s m (e - min e e).toNat + signed (!s) m (e - min e e).toNat = 0 := by
    rw [signed_eq, signed_eq]
    cases s <;> simp <;> omega
  rw [ht]
  have hs : (s && !s) = false := by cases s <;> rfl
  simp only [if_true, hs, Int.natAbs_zero]
  rfl
theorem sub_none {x : Nat} (hx : finB x = false) : floatBits .sub .f64 x x = none := by
  show double.sub x x = none
  unfold Format.sub
  unfold finB at hx
  cases hr : double.read x with
  | number s m e => rw [hr] at hx; cases hx
  | infinity s => cases s <;> rfl
  | nan s t => rfl

/-- What is written is no NaN. -/
theorem write_num (s : Bool) (m : Nat) (e : Int) : (∃ s' m' e', double.read (double.write (.number s m e)) = .number s' m' e') ∨ double.read (double.write (.number s m e)) = .infinity s := by
  obtain ⟨r, hr, hle⟩ : ∃ r, double.write (.number s m e) = double.word s r ∧ r ≤ 9218868437227405312 := by
    show ∃ r, double.nearest s m e = double.word s r ∧ r ≤ 9218868437227405312
    unfold Format.nearest
    split
    · exact ⟨0, rfl, by omega⟩
    · exact ⟨_, rfl, Nat.le_trans (Nat.min_le_right _ _) (by rw [infRung_d]; omega)⟩
  rw [hr]
  obtain ⟨h1, h2⟩ := read_word (s := s) (r := r) (by omega)
  unfold Format.read
  simp only [leastPlace_d, binade_d, infRung_d, signWeight_d, h1, h2]
  split
  · exact Or.inl ⟨_, _, _, rfl⟩
  · split
    · exact Or.inl ⟨_, _, _, rfl⟩
    · rw [if_pos (by omega)]
      right
      cases s <;> rfl
/-- A number or an infinity. -/
def NoNaN (x : Nat) : Prop := Fin x ∨ ∃ s, double.read x = .infinity s
theorem mul_fin {x y : Nat} (hx : Fin x) (hy : Fin y) : ∃ r, floatBits .mul .f64 x y = some r ∧ NoNaN r := by
  obtain ⟨s, m, e, hr⟩ := hx
  obtain ⟨t, n, f, hq⟩ := hy
  refine ⟨double.write (.number (s ^^ t) (m * n) (e + f)), ?_, ?_⟩
  · show double.mul x y = _
    unfold Format.mul
    rw [hr, hq]
    rfl
  · rcases write_num (s ^^ t) (m * n) (e + f) with h | h
    · exact Or.inl h
    · exact Or.inr ⟨_, h⟩
theorem add_fin {x y : Nat} (hx : NoNaN x) (hy : Fin y) : ∃ r, floatBits .add .f64 x y = some r ∧ NoNaN r := by
  obtain ⟨t, n, f, hq⟩ := hy
  rcases hx with ⟨s, m, e, hr⟩ | ⟨s, hr⟩
  · obtain ⟨b, M, E, hb⟩ : ∃ b M E, (Datum.number s m e).sum (.number t n f) = some (.number b M E) := ⟨_, _, _, rfl⟩
    refine ⟨double.write (.number b M E), ?_, ?_⟩
    · show double.add x y = _
      unfold Format.add
      rw [hr, hq, hb]
      rfl
    · rcases write_num b M E with h | h
      · exact Or.inl h
      · exact Or.inr ⟨_, h⟩
  · refine ⟨double.write (.infinity s), ?_, Or.inr ⟨s, by cases s <;> decide⟩⟩
    show double.add x y = _
    unfold Format.add
    rw [hr, hq]
    rfl

/-- A float cut towards nought. -/
def tr (x : Nat) : Int := (V x).tdiv (D : Int)
theorem toInt_tr {x : Nat} (hx : Fin x) (h1 : -9223372036854775808 ≤ tr x) (h2 : tr x ≤ 9223372036854775807) : floatToIntVal .f64 x .i64 = some (tr x) := by
  obtain ⟨s, m, i, hr⟩ := hx
  obtain ⟨b1, b2, b3⟩ := read_number hr
  have hv := V_number hr
  have hD := DI_pos
  have ht : (FloatKind.f64.decode x).toInt .zero = some (tr x) := by
    show (double.read x).toInt .zero = some (tr x)
    rw [hr]
    simp only [Datum.toInt, Datum.integral, signed_eq, Nat.pow_zero, Nat.mul_one]
    congr 1
    unfold tr
    by_cases hi : 0 ≤ i
    · rw [show (-i).toNat = 0 by omega, cut_zero, Nat.shiftLeft_eq, hv]
      rw [pow_place hi, ← Nat.mul_assoc, Int.natCast_mul (m * 2 ^ i.toNat) D, ← Int.mul_assoc, Int.mul_tdiv_cancel _ (by omega)]
    · obtain ⟨d, hd⟩ : ∃ d : Nat, i = -(d : Int) := ⟨(-i).toNat, by omega⟩
      subst hd
      rw [show (-(d : Int)).toNat = 0 by omega, Nat.shiftLeft_zero, show (-(-(d : Int))).toNat = d by omega, cut_toward]
      rw [show (-(d : Int) + 1074).toNat = 1074 - d by omega] at hv
      obtain ⟨K, hK, hDK, hparts, hlt, _⟩ := V_frac (s := s) (m := m) (d := d) (by omega)
      rw [hparts] at hv
      obtain ⟨q, hq'⟩ : ∃ q, m / 2 ^ d = q := ⟨_, rfl⟩
      obtain ⟨t, ht⟩ : ∃ t, K * (m % 2 ^ d) = t := ⟨_, rfl⟩
      rw [hq', ht] at hv
      rw [ht] at hlt
      rw [hq', hv]
      have e := ediv_of (a := ((D * q + t : Nat) : Int)) (q := (q : Int)) (r := (t : Int)) (by simp) (by omega) (by omega)
      have e2 : ((D * q + t : Nat) : Int).tdiv (D : Int) = (q : Int) := by rw [Int.tdiv_eq_ediv_of_nonneg (by omega), e]
      cases s with
      | false => simp only [Bool.false_eq_true, if_false, Int.one_mul, e2]
      | true => simp only [if_true]; rw [Int.neg_one_mul, Int.neg_one_mul, Int.neg_tdiv, e2]
  unfold floatToIntVal
  rw [ht]
  simp only [show IntKind.i64.min = -9223372036854775808 from rfl, show IntKind.i64.max = 9223372036854775807 from rfl]
  rw [if_pos ⟨h1, h2⟩]
/-- What is cut towards nought, and the floor. -/
theorem tr_fl (x : Nat) : (tr x * (D : Int) ≤ V x → fl x = tr x) ∧ (V x < tr x * (D : Int) → fl x = tr x - 1) := by
  have hD := DI_pos
  unfold fl tr
  rcases (by omega : V x < 0 ∨ 0 ≤ V x) with h | h
  · have e1 : (V x).tdiv (D : Int) = -((-V x) / (D : Int)) := by
      conv => lhs; rw [← Int.neg_neg (V x)]
      rw [Int.neg_tdiv, Int.tdiv_eq_ediv_of_nonneg (by omega)]
    rw [e1]
    have e2 := Int.mul_ediv_add_emod (-V x) (D : Int)
    have e3 := Int.emod_nonneg (-V x) (show (D : Int) ≠ 0 by omega)
    have e4 := Int.emod_lt_of_pos (-V x) hD
    generalize -V x / (D : Int) = q at *
    generalize -V x % (D : Int) = r at *
    have e5 : -q * (D : Int) = -((D : Int) * q) := by rw [Int.neg_mul, Int.mul_comm]
    rw [e5]
    constructor
    · intro h1
      refine ediv_of (r := -r) ?_ (by omega) (by omega)
      rw [Int.mul_neg]; omega
    · intro h1
      refine ediv_of (r := (D : Int) - r) ?_ (by omega) (by omega)
      rw [Int.mul_sub, Int.mul_neg]; omega
  · rw [Int.tdiv_eq_ediv_of_nonneg h]
    have e2 := Int.mul_ediv_add_emod (V x) (D : Int)
    have e3 := Int.emod_nonneg (V x) (show (D : Int) ≠ 0 by omega)
    refine ⟨fun _ => rfl, fun h1 => ?_⟩
    rw [Int.mul_comm] at h1
    omega
theorem tr_bounds {x : Nat} {N : Int} (h1 : -(N * (D : Int)) < V x) (h2 : V x < N * (D : Int)) : -N < tr x ∧ tr x < N := by
  have hD := DI_pos
  unfold tr
  rcases (by omega : V x < 0 ∨ 0 ≤ V x) with h | h
  · have e1 : (V x).tdiv (D : Int) = -((-V x) / (D : Int)) := by
      conv => lhs; rw [← Int.neg_neg (V x)]
      rw [Int.neg_tdiv, Int.tdiv_eq_ediv_of_nonneg (by omega)]
    rw [e1]
    have e2 : (-V x) / (D : Int) < N := Int.ediv_lt_of_lt_mul hD (by omega)
    have e3 : 0 ≤ (-V x) / (D : Int) := Int.ediv_nonneg (by omega) (by omega)
    omega
  · rw [Int.tdiv_eq_ediv_of_nonneg h]
    have e2 : V x / (D : Int) < N := Int.ediv_lt_of_lt_mul hD (by omega)
    have e3 : 0 ≤ V x / (D : Int) := Int.ediv_nonneg (by omega) (by omega)
    omega

theorem read_one : double.read 4607182418800017408 = .number false 4503599627370496 (-52) := by decide
theorem V_one : V 4607182418800017408 = (D : Int) := by
  obtain ⟨a, ha⟩ : ∃ a : Nat, ((-52 : Int) + 1074).toNat = a := ⟨_, rfl⟩
  have hb := dBits_eq
  have hD : D = 4503599627370496 * 2 ^ a := by
    rw [D_eq, show dBits = a + 52 by omega, Nat.pow_add, Nat.mul_comm]
  rw [V_number read_one, ha, hD]
  simp only [Bool.false_eq_true, if_false, Int.one_mul]
/-- One less. -/
theorem sub_one {y : Nat} {n : Int} (hy : Fin y) (hV : V y = n * (D : Int)) (h1 : -9007199254740992 < n) (h2 : n ≤ 9007199254740992) : ∃ r, floatBits .sub .f64 y 4607182418800017408 = some r ∧ Fin r ∧ V r = (n - 1) * (D : Int) := by
  obtain ⟨s, m, i, hr⟩ := hy
  obtain ⟨b1, b2, b3⟩ := read_number hr
  have hv := V_number hr
  rw [hV] at hv
  obtain ⟨base, hbase⟩ : ∃ base, min i (-52 : Int) = base := ⟨_, rfl⟩
  obtain ⟨T, hT⟩ : ∃ T, signed s m (i - base).toNat + signed true 4503599627370496 ((-52 : Int) - base).toNat = T := ⟨_, rfl⟩
  have hTV : T * ((2 ^ (base + 1074).toNat : Nat) : Int) = (n - 1) * (D : Int) := by
    have e1 : signed s m (i - base).toNat * ((2 ^ (base + 1074).toNat : Nat) : Int) = n * (D : Int) := by
      rw [← signed_mul, show (i - base).toNat + (base + 1074).toNat = (i + 1074).toNat by omega, signed_eq, hv]
    have e2 : signed true 4503599627370496 ((-52 : Int) - base).toNat * ((2 ^ (base + 1074).toNat : Nat) : Int) = -(D : Int) := by
      rw [← signed_mul, show ((-52 : Int) - base).toNat + (base + 1074).toNat = ((-52 : Int) + 1074).toNat by omega, signed_eq]
      have := V_one
      rw [V_number read_one] at this
      simp only [Bool.false_eq_true, if_false, Int.one_mul] at this
      rw [this]
      simp
    rw [← hT, Int.add_mul, e1, e2, Int.sub_mul]
    omega
  obtain ⟨j, hj⟩ : ∃ j : Nat, base = -(j : Int) := ⟨(-base).toNat, by omega⟩
  have hTn : T = (n - 1) * ((2 ^ j : Nat) : Int) := by
    have hp : (0 : Int) < ((2 ^ (base + 1074).toNat : Nat) : Int) := by have := Nat.two_pow_pos (base + 1074).toNat; omega
    refine Int.eq_of_mul_eq_mul_right (Int.ne_of_gt hp) ?_
    rw [hTV, pow_split (show j ≤ 1074 by omega), show (base + 1074).toNat = 1074 - j by omega, Int.natCast_mul, Int.mul_assoc, Int.mul_comm ((2 ^ (1074 - j) : Nat) : Int)]
  have hTa : T.natAbs = (n - 1).natAbs * 2 ^ j := by rw [hTn, Int.natAbs_mul, Int.natAbs_natCast]
  refine ⟨double.write (.number (if T = 0 then s && true else T < 0) T.natAbs base), ?_, ?_⟩
  · show double.sub y 4607182418800017408 = _
    unfold Format.sub
    rw [hr, read_one]
    simp only [Datum.opposite, Datum.sum, Bool.not_false, hbase, hT]
    rfl
  · have hsg : ∀ b : Bool, (T ≠ 0 → b = decide (T < 0)) → Fin (double.write (.number b T.natAbs base)) ∧ V (double.write (.number b T.natAbs base)) = (n - 1) * (D : Int) := by
      intro b hb
      show Fin (double.nearest b T.natAbs base) ∧ V (double.nearest b T.natAbs base) = _
      have key : ∀ k jj : Nat, k < 9007199254740992 → k * 2 ^ jj = T.natAbs → base + jj ≤ 971 → Fin (double.nearest b T.natAbs base) ∧ V (double.nearest b T.natAbs base) = (n - 1) * (D : Int) := by
        intro k jj hk he hjj
        obtain ⟨m', e', g1, g2⟩ := nearest_exact b k jj base hk (by omega) hjj
        rw [he] at g1 g2
        refine ⟨⟨_, _, _, g1⟩, ?_⟩
        rw [V_number g1, g2, ← hTV, Int.natCast_mul, ← Int.mul_assoc]
        congr 1
        by_cases hz : T = 0
        · rw [hz]; simp
        · rw [hb hz]
          by_cases hn : T < 0
          · simp [hn]; omega
          · simp [hn]; omega
      by_cases hc : (n - 1).natAbs = 9007199254740992
      · exact key 4503599627370496 (j + 1) (by omega) (by rw [hTa, hc, Nat.pow_succ, Nat.mul_comm (2 ^ j) 2, ← Nat.mul_assoc]) (by omega)
      · exact key (n - 1).natAbs j (by omega) hTa.symm (by omega)
    refine hsg _ (fun hz => by rw [if_neg hz])
/-- A great float is whole. -/
theorem great_whole {x : Nat} (hx : Fin x) (h : 9007199254740992 * (D : Int) ≤ V x ∨ V x ≤ -(9007199254740992 * (D : Int))) : V x = fl x * (D : Int) := by
  obtain ⟨s, m, i, hr⟩ := hx
  obtain ⟨b1, b2, b3⟩ := read_number hr
  have hv := V_number hr
  have hD := D_pos
  have hi : 0 ≤ i := by
    rcases (by omega : i < 0 ∨ 0 ≤ i) with hi | hi
    · exfalso
      have h3 : m * 2 ^ (i + 1074).toNat < 9007199254740992 * D := by
        have hb := dBits_eq
        have hle : (i + 1074).toNat ≤ dBits := by omega
        rw [D_eq]
        exact Nat.lt_of_lt_of_le (Nat.mul_lt_mul_of_pos_right b3 (Nat.two_pow_pos _)) (Nat.mul_le_mul_left _ (Nat.pow_le_pow_right (by omega) hle))
      have h4 : ((m * 2 ^ (i + 1074).toNat : Nat) : Int) < 9007199254740992 * (D : Int) := by
        have := Int.ofNat_lt.2 h3
        simpa using this
      have h5 : (0 : Int) ≤ ((m * 2 ^ (i + 1074).toNat : Nat) : Int) := Int.natCast_nonneg _
      generalize ((m * 2 ^ (i + 1074).toNat : Nat) : Int) = q at *
      generalize 9007199254740992 * (D : Int) = p at *
      cases s with
      | false => simp at hv; omega
      | true => simp at hv; omega
    · exact hi
  unfold fl
  rw [pow_place hi, ← Nat.mul_assoc, Int.natCast_mul (m * 2 ^ i.toNat) D, ← Int.mul_assoc] at hv
  rw [hv, Int.mul_ediv_cancel _ (by omega)]
#print axioms sub_one
#print axioms great_whole
#print axioms toInt_tr
#print axioms tr_fl
end Go.Proofs.YtpjbobbmldplbaaGreatDoor
