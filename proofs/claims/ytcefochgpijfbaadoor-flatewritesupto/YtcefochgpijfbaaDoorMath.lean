/- Plain mathematics of bits: numbers made of bits, and the u32 and u8 operations over them. No Go text here. -/
import Derived.Laws.BitsAllLaws
namespace Go.Proofs.YtcefochgpijfbaaDoor

/-- The number whose bit k is f k, for k below n. -/
def ofB (f : Nat → Bool) : Nat → Nat
  | 0 => 0
  | n + 1 => ofB f n + (f n).toNat * 2 ^ n

/-- Bit k of v, as a number. -/
def bitN (v k : Nat) : Nat := (v.testBit k).toNat

theorem bitN_eq (v k : Nat) : bitN v k = v / 2 ^ k % 2 := Nat.toNat_testBit v k
theorem bitN_le (v k : Nat) : bitN v k ≤ 1 := by unfold bitN; cases v.testBit k <;> simp

theorem ofB_lt (f : Nat → Bool) (n : Nat) : ofB f n < 2 ^ n := by
  induction n with
  | zero => simp [ofB]
  | succ n ih => unfold ofB; rw [Nat.pow_succ]; cases f n <;> simp <;> omega

theorem ofB_congr (f g : Nat → Bool) (n : Nat) (h : ∀ k, k < n → f k = g k) : ofB f n = ofB g n := by
  induction n with
  | zero => rfl
  | succ n ih => unfold ofB; rw [ih (fun k hk => h k (by omega)), h n (by omega)]

theorem testBit_ofB (f : Nat → Bool) (n j : Nat) : (ofB f n).testBit j = (decide (j < n) && f j) := by
  induction n with
  | zero => simp [ofB]
  | succ n ih =>
    unfold ofB
    rw [Nat.add_comm, Nat.mul_comm, Nat.testBit_two_pow_mul_add _ (ofB_lt f n)]
    by_cases h : j < n
    · rw [if_pos h, ih]; simp [h, Nat.lt_succ_of_lt h]
    · rw [if_neg h]
      by_cases e : j = n
      · subst e; cases f j <;> simp
      · have : ¬ j < n + 1 := by omega
        have h1 : j - n ≠ 0 := by omega
        simp only [this, decide_false, Bool.false_and]
        cases f n
        · simp
        · exact Nat.testBit_lt_two_pow (Nat.one_lt_two_pow h1)

theorem ofB_testBit (v n : Nat) : ofB v.testBit n = v % 2 ^ n := by
  apply Nat.eq_of_testBit_eq; intro i
  rw [testBit_ofB, Nat.testBit_mod_two_pow]

theorem ofB_set (f : Nat → Bool) (n p : Nat) (b : Bool) (hp : p < n) (hf : f p = false) :
    ofB (fun i => if i = p then b else f i) n = ofB f n + b.toNat * 2 ^ p := by
  induction n with
  | zero => omega
  | succ n ih =>
    unfold ofB
    by_cases e : n = p
    · subst e
      rw [ofB_congr _ f n (fun k hk => by rw [if_neg (by omega)])]
      simp [hf]
    · rw [ih (by omega), if_neg e]; omega

theorem ofB_more (f : Nat → Bool) (m n : Nat) (h : m ≤ n) (hf : ∀ k, m ≤ k → k < n → f k = false) : ofB f n = ofB f m := by
  induction n with
  | zero => have : m = 0 := by omega
            subst this; rfl
  | succ n ih =>
    by_cases e : m = n + 1
    · subst e; rfl
    · unfold ofB; rw [hf n (by omega) (by omega), ih (by omega) (fun k a b => hf k a (by omega))]; cases m <;> simp [ofB]

theorem pow_lt_32 (k : Nat) (hk : k < 32) : 2 ^ k ≤ 2147483648 := by
  have : 2 ^ k ≤ 2 ^ 31 := Nat.pow_le_pow_right (by decide) (by omega)
  omega

theorem bit_mul_le (b k : Nat) (hb : b ≤ 1) : b * 2 ^ k ≤ 2 ^ k := by
  rcases (show b = 0 ∨ b = 1 by omega) with rfl | rfl <;> simp

theorem shl_u32 (b k : Nat) (hb : b ≤ 1) (hk : k < 32) : IntKind.u32.wrap ((b : Int) * 2 ^ k) = ((b * 2 ^ k : Nat) : Int) := by
  rw [IntKind.wrap_u32']
  have h1 := pow_lt_32 k hk
  have h2 := bit_mul_le b k hb
  have h3 : ((b : Int) * 2 ^ k) = ((b * 2 ^ k : Nat) : Int) := by simp
  rw [h3]; omega

theorem or_step (a b k : Nat) (ha : a < 2 ^ k) (hb : b ≤ 1) (hk : k < 32) : bits .or .u32 (a : Int) (IntKind.u32.wrap ((b : Int) * 2 ^ k)) = ((a + b * 2 ^ k : Nat) : Int) := by
  have h1 := pow_lt_32 k hk
  have h2 := bit_mul_le b k hb
  rw [shl_u32 b k hb hk, u32_or_nat _ _ (by omega) (by omega), Nat.or_comm, nat_join k (b * 2 ^ k) a (by simp) ha, Nat.add_comm]

theorem or_step' (a b k : Nat) (ha : a < 2 ^ k) (hb : b ≤ 1) (hk : k < 32) : bits .or .u32 (a : Int) ((b : Int) * 2 ^ k % 4294967296) = ((a + b * 2 ^ k : Nat) : Int) := by
  have h := or_step a b k ha hb hk
  rwa [IntKind.wrap_u32'] at h

theorem add_step (a b k : Nat) (ha : a < 2 ^ k) (hb : b ≤ 1) (hk : k < 32) : ((a : Int) + (b : Int) * 2 ^ k % 4294967296) % 4294967296 = ((a + b * 2 ^ k : Nat) : Int) := by
  have h1 := pow_lt_32 k hk
  have h2 := bit_mul_le b k hb
  rw [← IntKind.wrap_u32' (_ * _), shl_u32 b k hb hk]
  omega

theorem and_one (v k : Nat) (hv : v < 4294967296) : bits .and .u32 ((v : Int) / 2 ^ k) 1 = ((bitN v k : Nat) : Int) := by
  have h3 : ((v : Int) / 2 ^ k) = ((v / 2 ^ k : Nat) : Int) := by simp
  have h4 : v / 2 ^ k ≤ v := Nat.div_le_self _ _
  rw [h3, show (1 : Int) = ((1 : Nat) : Int) from rfl, u32_and_nat _ _ (by omega) (by omega), nat_mask1, bitN_eq]

/-- The lowest n bits of v in the other order. -/
def revN (v n : Nat) : Nat := ofB (fun k => v.testBit (n - 1 - k)) n

theorem revN_rev (v n : Nat) : revN (revN v n) n = v % 2 ^ n := by
  rw [← ofB_testBit]
  refine ofB_congr _ _ _ fun k hk => ?_
  rw [revN, testBit_ofB]
  have h1 : n - 1 - k < n := by omega
  have h2 : n - 1 - (n - 1 - k) = k := by omega
  simp [h1, h2]

/-- What the other walk has behind j rounds: the bits from n - j on. -/
def revTo (v n j : Nat) : Nat := ofB (fun i => decide (n - j ≤ i) && v.testBit (n - 1 - i)) n

theorem revTo_zero (v n : Nat) : revTo v n 0 = 0 := by
  unfold revTo
  rw [ofB_more _ 0 n (by omega) (fun k _ hk => by simp; omega)]; rfl

theorem revTo_succ (v n j : Nat) (hj : j < n) : revTo v n (j + 1) = revTo v n j + bitN v j * 2 ^ (n - 1 - j) := by
  unfold revTo bitN
  rw [← ofB_set _ n (n - 1 - j) (v.testBit j) (by omega) (by simp; omega)]
  refine ofB_congr _ _ _ fun k hk => ?_
  by_cases e : k = n - 1 - j
  · subst e
    have h2 : n - 1 - (n - 1 - j) = j := by omega
    have h3 : n - (j + 1) ≤ n - 1 - j := by omega
    simp [h2, h3]
  · rw [if_neg e]
    congr 1
    apply decide_eq_decide.2
    omega

theorem revTo_all (v n : Nat) : revTo v n n = revN v n := by
  unfold revTo revN
  exact ofB_congr _ _ _ fun k _ => by simp

theorem revTo_lt (v n j : Nat) : revTo v n j < 2 ^ n := ofB_lt _ _

theorem pow_le_32 (n : Nat) (hn : n ≤ 32) : 2 ^ n ≤ 4294967296 := by
  have : 2 ^ n ≤ 2 ^ 32 := Nat.pow_le_pow_right (by decide) (by omega)
  omega

theorem tmod_bit (v k : Nat) : ((v : Int) / 2 ^ k).tmod 2 = ((bitN v k : Nat) : Int) := by
  have h3 : ((v : Int) / 2 ^ k) = ((v / 2 ^ k : Nat) : Int) := by simp
  rw [h3, Int.tmod_eq_emod_of_nonneg (Int.natCast_nonneg _), bitN_eq]
  generalize v / 2 ^ k = x
  omega

theorem ref_step (v n k : Nat) (hk : k < n) (hn : n ≤ 32) : ((revTo v n k : Int) + ((v : Int) / 2 ^ k).tmod 2 * 2 ^ (n - 1 - k) % 4294967296) % 4294967296 = ((revTo v n (k + 1) : Nat) : Int) := by
  have h1 := revTo_lt v n (k + 1)
  have h2 := pow_le_32 n hn
  rw [tmod_bit, ← IntKind.wrap_u32' (_ * _), shl_u32 _ _ (bitN_le _ _) (by omega), revTo_succ v n k hk]
  rw [revTo_succ v n k hk] at h1
  omega

theorem revN_lt (v n : Nat) (hn : n ≤ 32) : revN v n < 4294967296 := by
  have h := ofB_lt (fun k => v.testBit (n - 1 - k)) n
  have h2 := pow_le_32 n hn
  unfold revN; omega

#print axioms revTo_all
end Go.Proofs.YtcefochgpijfbaaDoor
