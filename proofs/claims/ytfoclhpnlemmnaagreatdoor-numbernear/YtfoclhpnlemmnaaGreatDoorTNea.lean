/- A number of days and seconds, rounded at each step: its seconds are the same, and it is near to them. No Go text here. -/
import Derived.Test.YtfoclhpnlemmnaaGreatDoorTDiv
namespace Go.Proofs.YtfoclhpnlemmnaaGreatDoor
open Ieee

/-- A SUM, rounded: how near. -/
theorem sum_near {s t : Bool} {m n : Nat} {i j : Int} (hi : -1074 ≤ i) (hj : -1074 ≤ j) (c : Nat) (hc : 52 ≤ c) (hc2 : c ≤ 2000) (A : Int)
    (hA : A = (if s then -1 else 1) * ((m * 2 ^ (i + 1074).toNat : Nat) : Int) + (if t then -1 else 1) * ((n * 2 ^ (j + 1074).toNat : Nat) : Int)) (hlt : A < ((2 ^ (c + 1) : Nat) : Int)) (hgt : -((2 ^ (c + 1) : Nat) : Int) < A) :
    ∃ r, ((Datum.number s m i).sum (.number t n j)).map double.write = some r ∧ Fin r ∧ 2 * (V r - A) ≤ ((2 ^ (c - 52) : Nat) : Int) ∧ 2 * (A - V r) ≤ ((2 ^ (c - 52) : Nat) : Int) := by
  obtain ⟨base, hbase⟩ : ∃ base, min i j = base := ⟨_, rfl⟩
  obtain ⟨T, hT⟩ : ∃ T, signed s m (i - base).toNat + signed t n (j - base).toNat = T := ⟨_, rfl⟩
  have hTV : T * ((2 ^ (base + 1074).toNat : Nat) : Int) = A := by
    have e1 : signed s m (i - base).toNat * ((2 ^ (base + 1074).toNat : Nat) : Int) = (if s then -1 else 1) * ((m * 2 ^ (i + 1074).toNat : Nat) : Int) := by
      rw [← signed_mul, show (i - base).toNat + (base + 1074).toNat = (i + 1074).toNat by omega, signed_eq]
    have e2 : signed t n (j - base).toNat * ((2 ^ (base + 1074).toNat : Nat) : Int) = (if t then -1 else 1) * ((n * 2 ^ (j + 1074).toNat : Nat) : Int) := by
      rw [← signed_mul, show (j - base).toNat + (base + 1074).toNat = (j + 1074).toNat by omega, signed_eq]
    rw [← hT, Int.add_mul, e1, e2, hA]
  obtain ⟨sg, hsg⟩ : ∃ sg : Bool, (if T = 0 then s && t else decide (T < 0)) = sg := ⟨_, rfl⟩
  refine ⟨double.nearest sg T.natAbs base, ?_, ?_⟩
  · simp only [Datum.sum, hbase, hT, Option.map_some, hsg]
    rfl
  · have hp : 0 < 2 ^ (base + 1074).toNat := Nat.two_pow_pos _
    have hab : ((T.natAbs * 2 ^ (base + 1074).toNat : Nat) : Int) = A ∨ ((T.natAbs * 2 ^ (base + 1074).toNat : Nat) : Int) = -A := by
      rw [Int.natCast_mul, ← hTV]
      rcases Int.natAbs_eq T with h | h
      · left; rw [← h]
      · right; rw [show ((T.natAbs : Nat) : Int) = -T by omega, Int.neg_mul]
    have hEl : T.natAbs * 2 ^ (base + 1074).toNat < 2 ^ (c + 1) := by
      have : ((T.natAbs * 2 ^ (base + 1074).toNat : Nat) : Int) < ((2 ^ (c + 1) : Nat) : Int) := by rcases hab with h | h <;> rw [h] <;> omega
      exact Int.ofNat_lt.1 this
    obtain ⟨X, h1, h2, h3, h4, _⟩ := near_V sg T.natAbs base c (Or.inr (by omega)) hc hc2 hEl
    refine ⟨h1, ?_⟩
    rw [h2]
    obtain ⟨E, hE⟩ : ∃ E, T.natAbs * 2 ^ (base + 1074).toNat = E := ⟨_, rfl⟩
    rw [hE] at h3 h4 hab
    by_cases hT0 : T = 0
    · have hA0 : A = 0 := by rw [← hTV, hT0, Int.zero_mul]
      have hE0 : E = 0 := by rw [← hE, hT0]; simp
      rw [hA0]
      rw [hE0] at h3
      generalize 2 ^ (c - 52) = U at *
      cases sg <;> simp <;> omega
    · rw [if_neg hT0] at hsg
      have hsA : (sg = true ∧ (E : Int) = -A) ∨ (sg = false ∧ (E : Int) = A) := by
        by_cases hn : T < 0
        · left
          refine ⟨by rw [← hsg]; exact decide_eq_true hn, ?_⟩
          rw [← hE, Int.natCast_mul, ← hTV, show ((T.natAbs : Nat) : Int) = -T by omega, Int.neg_mul]
        · right
          refine ⟨by rw [← hsg]; exact decide_eq_false hn, ?_⟩
          rw [← hE, Int.natCast_mul, ← hTV, show ((T.natAbs : Nat) : Int) = T by omega]
      generalize 2 ^ (c - 52) = U at *
      rcases hsA with ⟨rfl, he⟩ | ⟨rfl, he⟩
      · simp only [if_true]
        omega
      · simp only [Bool.false_eq_true, if_false]
        omega
theorem add_near {x y : Nat} (hx : Fin x) (hy : Fin y) (c : Nat) (hc : 52 ≤ c) (hc2 : c ≤ 2000) (hlt : V x + V y < ((2 ^ (c + 1) : Nat) : Int)) (hgt : -((2 ^ (c + 1) : Nat) : Int) < V x + V y) :
    ∃ r, floatBits .add .f64 x y = some r ∧ Fin r ∧ 2 * (V r - (V x + V y)) ≤ ((2 ^ (c - 52) : Nat) : Int) ∧ 2 * (V x + V y - V r) ≤ ((2 ^ (c - 52) : Nat) : Int) := by
  obtain ⟨s, m, i, hr⟩ := hx
  obtain ⟨t, n, j, hq⟩ := hy
  obtain ⟨r, h1, h2⟩ := sum_near (read_number hr).1 (read_number hq).1 c hc hc2 (V x + V y) (by rw [V_number hr, V_number hq]) hlt hgt
  refine ⟨r, ?_, h2⟩
  show double.add x y = _
  unfold Format.add
  rw [hr, hq]
  exact h1
theorem sub_near {x y : Nat} (hx : Fin x) (hy : Fin y) (c : Nat) (hc : 52 ≤ c) (hc2 : c ≤ 2000) (hlt : V x - V y < ((2 ^ (c + 1) : Nat) : Int)) (hgt : -((2 ^ (c + 1) : Nat) : Int) < V x - V y) :
    ∃ r, floatBits .sub .f64 x y = some r ∧ Fin r ∧ 2 * (V r - (V x - V y)) ≤ ((2 ^ (c - 52) : Nat) : Int) ∧ 2 * (V x - V y - V r) ≤ ((2 ^ (c - 52) : Nat) : Int) := by
  obtain ⟨s, m, i, hr⟩ := hx
  obtain ⟨t, n, j, hq⟩ := hy
  obtain ⟨r, h1, h2⟩ := sum_near (s := s) (m := m) (i := i) (t := !t) (n := n) (j := j) (read_number hr).1 (read_number hq).1 c hc hc2 (V x - V y) (by
    rw [V_number hr, V_number hq]
    cases t <;> simp <;> omega) hlt hgt
  refine ⟨r, ?_, h2⟩
  show double.sub x y = _
  unfold Format.sub
  rw [hr, hq]
  exact h1
/-- A product by 86400, rounded. -/
theorem mul_near {x : Nat} {m : Nat} {i : Int} (hr : double.read x = .number false m i) (hi : m = 0 ∨ -1000 ≤ i) (c : Nat) (hc : 52 ≤ c) (hc2 : c ≤ 2000) (hlt : 86400 * V x < ((2 ^ (c + 1) : Nat) : Int)) :
    ∃ r, floatBits .mul .f64 x 4680673776000565248 = some r ∧ Fin r ∧ 2 * (V r - 86400 * V x) ≤ ((2 ^ (c - 52) : Nat) : Int) ∧ 2 * (86400 * V x - V r) ≤ ((2 ^ (c - 52) : Nat) : Int) := by
  have hb := (read_number hr).1
  have hV : V x = ((m * 2 ^ (i + 1074).toNat : Nat) : Int) := by rw [V_number hr]; simp
  have hE : m * 5937362789990400 * 2 ^ (i + -36 + 1074).toNat = 86400 * (m * 2 ^ (i + 1074).toNat) := by
    rcases hi with h | h
    · rw [h]; simp
    · rw [show (5937362789990400 : Nat) = 86400 * 2 ^ 36 from rfl, show (i + 1074).toNat = 36 + (i + -36 + 1074).toNat by omega, Nat.pow_add]
      rw [← Nat.mul_assoc, Nat.mul_comm m 86400, Nat.mul_assoc, Nat.mul_assoc]
  have hEl : m * 5937362789990400 * 2 ^ (i + -36 + 1074).toNat < 2 ^ (c + 1) := by
    rw [hE]
    rw [hV] at hlt
    have : ((86400 * (m * 2 ^ (i + 1074).toNat) : Nat) : Int) < ((2 ^ (c + 1) : Nat) : Int) := by rw [Int.natCast_mul]; exact hlt
    exact Int.ofNat_lt.1 this
  obtain ⟨X, h1, h2, h3, h4, _⟩ := near_V false (m * 5937362789990400) (i + -36) c (by rcases hi with h | h; exact Or.inl (by rw [h, Nat.zero_mul]); exact Or.inr (by omega)) hc hc2 hEl
  refine ⟨_, ?_, h1, ?_⟩
  · show double.mul x 4680673776000565248 = _
    unfold Format.mul
    rw [hr, read_86400]
    simp only [Datum.product, Bool.xor_false, Option.map_some]
    rfl
  · rw [h2, hV]
    rw [hE] at h3 h4
    simp only [Bool.false_eq_true, if_false, Int.one_mul]
    generalize m * 2 ^ (i + 1074).toNat = A at *
    generalize 2 ^ (c - 52) = U at *
    omega
#print axioms sum_near
#print axioms mul_near
end Go.Proofs.YtfoclhpnlemmnaaGreatDoor
