/- Plain mathematics of reading one symbol off bits. No Go text here. -/
import Derived.Test.YthgnhcdodfildaaDoorDecM
import Derived.Test.YthgnhcdodfildaaDoorK08
namespace Go.Proofs.YthgnhcdodfildaaDoor

/-- Bit i of the bytes B, as a number. -/
def bitQ (B : List Nat) (i : Nat) : Nat := (bitAt B i).toNat
theorem bitQ_le (B : List Nat) (i : Nat) : bitQ B i ≤ 1 := by unfold bitQ; cases bitAt B i <;> simp
theorem numAt_one (B : List Nat) (p : Nat) : numAt B p 1 = bitQ B p := by simp [numAt, ofB, bitQ]
/-- The number of k bits from p on, the first one the highest. -/
def msb (B : List Nat) (p : Nat) : Nat → Nat
  | 0 => 0
  | k + 1 => 2 * msb B p k + bitQ B (p + k)
theorem msb_lt (B : List Nat) (p k : Nat) : msb B p k < 2 ^ k := by
  induction k with
  | zero => simp [msb]
  | succ k ih => have := bitQ_le B (p + k); unfold msb; rw [Nat.pow_succ]; omega
/-- The answer of Read: the symbol, the error, the bit behind it; k bits are taken, and no code is found among them. -/
def rdT (M B : List Nat) (p : Nat) : Nat → Nat → Nat × Nat × Nat
  | 0, k => (0, 22, p + k)
  | f + 1, k => if longM M ≤ k then (0, 22, p + k) else if 8 * B.length ≤ p + k then (0, 11, p + k) else
      if hitB M (k + 1) (msb B p (k + 1)) = true then (symC M (k + 1) (msb B p (k + 1)), 0, p + (k + 1)) else rdT M B p f (k + 1)
/-- The answer of Read. -/
def rdA (M B : List Nat) (p : Nat) : Nat × Nat × Nat := rdT M B p 16 0
theorem rdT_over (M B : List Nat) (p f k : Nat) (h : longM M ≤ k) : rdT M B p (f + 1) k = (0, 22, p + k) := by
  unfold rdT; rw [if_pos h]
theorem rdT_ends (M B : List Nat) (p f k : Nat) (h : ¬ longM M ≤ k) (h2 : 8 * B.length ≤ p + k) : rdT M B p (f + 1) k = (0, 11, p + k) := by
  unfold rdT; rw [if_neg h, if_pos h2]
theorem rdT_hit (M B : List Nat) (p f k : Nat) (h : ¬ longM M ≤ k) (h2 : ¬ 8 * B.length ≤ p + k) (h3 : hitB M (k + 1) (msb B p (k + 1)) = true) : rdT M B p (f + 1) k = (symC M (k + 1) (msb B p (k + 1)), 0, p + (k + 1)) := by
  unfold rdT; rw [if_neg h, if_neg h2, if_pos h3]
theorem rdT_miss (M B : List Nat) (p f k : Nat) (h : ¬ longM M ≤ k) (h2 : ¬ 8 * B.length ≤ p + k) (h3 : hitB M (k + 1) (msb B p (k + 1)) = false) : rdT M B p (f + 1) k = rdT M B p f (k + 1) := by
  rw [rdT, if_neg h, if_neg h2, h3]; rfl
/-- Behind a miss the bits are not below the codes of that length. -/
theorem miss_ge (M : List Nat) (l c : Nat) (h : hitB M l c = false) : firstN (cntN M) l + cntN M l ≤ c := by
  unfold hitB at h; simp at h; omega
theorem hit_lt (M : List Nat) (l c : Nat) (h : hitB M l c = true) : c < firstN (cntN M) l + cntN M l := by
  unfold hitB at h; simpa using h
theorem msb_first (M B : List Nat) (p k : Nat) (h : firstN (cntN M) k + cntN M k ≤ msb B p k) : firstN (cntN M) (k + 1) ≤ msb B p (k + 1) := by
  unfold firstN msb; omega
/-- A symbol that was read lies among M's, and ends within the bytes. -/
theorem rdT_ok (M B : List Nat) (p : Nat) (f k : Nat) (h : (rdT M B p f k).2.1 = 0) : p + k < (rdT M B p f k).2.2 ∧ (rdT M B p f k).2.2 ≤ 8 * B.length := by
  induction f generalizing k with
  | zero => simp [rdT] at h
  | succ f ih =>
    by_cases h1 : longM M ≤ k
    · rw [rdT_over M B p f k h1] at h; simp at h
    by_cases h2 : 8 * B.length ≤ p + k
    · rw [rdT_ends M B p f k h1 h2] at h; simp at h
    cases h3 : hitB M (k + 1) (msb B p (k + 1))
    · rw [rdT_miss M B p f k h1 h2 h3] at h ⊢
      have := ih (k + 1) h
      omega
    · rw [rdT_hit M B p f k h1 h2 h3]
      show p + k < p + (k + 1) ∧ p + (k + 1) ≤ 8 * B.length
      omega
#print axioms rdT_ok
end Go.Proofs.YthgnhcdodfildaaDoor
