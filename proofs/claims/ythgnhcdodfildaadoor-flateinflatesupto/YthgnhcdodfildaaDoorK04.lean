/- Plain mathematics of bits: numbers made of bits, and the u32 and u8 operations over them. No Go text here. -/
import Derived.Laws.BitsAllLaws
namespace Go.Proofs.YthgnhcdodfildaaDoor

/-- The number whose bit k is f k, for k below n. -/
def ofB (f : Nat → Bool) : Nat → Nat
  | 0 => 0
  | n + 1 => ofB f n + (f n).toNat * 2 ^ n

/-- Bit k of v, as a number. -/
def bitN (v k : Nat) : Nat := (v.testBit k).toNat

theorem bitN_eq (v k : Nat) : bitN v k = v / 2 ^ k % 2 := Nat.toNat_testBit v k
theorem bitN_le (v k : Nat) : bitN v k ≤ 1 := by unfold bitN; cases v.testBit k <;> simp

theorem ofB_lt (f : Nat → Bool) (n : Nat) : ofB f n < 2 ^ n := by
  induction n with
  | zero => simp [ofB]
  | succ n ih => unfold ofB; rw [Nat.pow_succ]; cases f n <;> simp <;> omega

theorem ofB_congr (f g : Nat → Bool) (n : Nat) (h : ∀ k, k < n → f k = g k) : ofB f n = ofB g n := by
  induction n with
  | zero => rfl
  | succ n ih => unfold ofB; rw [ih (fun k hk => h k (by omega)), h n (by omega)]

theorem testBit_ofB (f : Nat → Bool) (n j : Nat) : (ofB f n).testBit j = (decide (j < n) && f j) := by
  induction n with
  | zero => simp [ofB]
  | succ n ih =>
    unfold ofB
    rw [Nat.add_comm, Nat.mul_comm, Nat.testBit_two_pow_mul_add _ (ofB_lt f n)]
    by_cases h : j < n
    · rw [if_pos h, ih]; simp [h, Nat.lt_succ_of_lt h]
    · rw [if_neg h]
      by_cases e : j = n
      · subst e; cases f j <;> simp
      · have : ¬ j < n + 1 := by omega
        have h1 : j - n ≠ 0 := by omega
        simp only [this, decide_false, Bool.false_and]
        cases f n
        · simp
        · exact Nat.testBit_lt_two_pow (Nat.one_lt_two_pow h1)

theorem ofB_testBit (v n : Nat) : ofB v.testBit n = v % 2 ^ n := by
  apply Nat.eq_of_testBit_eq; intro i
  rw [testBit_ofB, Nat.testBit_mod_two_pow]

theorem ofB_set (f : Nat → Bool) (n p : Nat) (b : Bool) (hp : p < n) (hf : f p = false) :
    ofB (fun i => if i = p then b else f i) n = ofB f n + b.toNat * 2 ^ p := by
  induction n with
  | zero => omega
  | succ n ih =>
    unfold ofB
    by_cases e : n = p
    · subst e
      rw [ofB_congr _ f n (fun k hk => by rw [if_neg (by omega)])]
      simp [hf]
    · rw [ih (by omega), if_neg e]; omega

theorem ofB_more (f : Nat → Bool) (m n : Nat) (h : m ≤ n) (hf : ∀ k, m ≤ k → k < n → f k = false) : ofB f n = ofB f m := by
  induction n with
  | zero => have : m = 0 := by omega
            subst this; rfl
  | succ n ih =>
    by_cases e : m = n + 1
    · subst e; rfl
    · unfold ofB; rw [hf n (by omega) (by omega), ih (by omega) (fun k a b => hf k a (by omega))]; cases m <;> simp [ofB]

theorem pow_lt_32 (k : Nat) (hk : k < 32) : 2 ^ k ≤ 2147483648 := by
  have : 2 ^ k ≤ 2 ^ 31 := Nat.pow_le_pow_right (by decide) (by omega)
  omega

theorem bit_mul_le (b k : Nat) (hb : b ≤ 1) : b * 2 ^ k ≤ 2 ^ k := by
  rcases (show b = 0 ∨ b = 1 by omega) with rfl | rfl <;> simp

theorem shl_u32 (b k : Nat) (hb : b ≤ 1) (hk : k < 32) : IntKind.u32.wrap ((b : Int) * 2 ^ k) = ((b * 2 ^ k : Nat) : Int) := by
  rw [IntKind.wrap_u32']
  have h1 := pow_lt_32 k hk
  have h2 := bit_mul_le b k hb
  have h3 : ((b : Int) * 2 ^ k) = ((b * 2 ^ k : Nat) : Int) := by simp
  rw [h3]; omega

theorem or_step (a b k : Nat) (ha : a < 2 ^ k) (hb : b ≤ 1) (hk : k < 32) : bits .or .u32 (a : Int) (IntKind.u32.wrap ((b : Int) * 2 ^ k)) = ((a + b * 2 ^ k : Nat) : Int) := by
  have h1 := pow_lt_32 k hk
  have h2 := bit_mul_le b k hb
  rw [shl_u32 b k hb hk, u32_or_nat _ _ (by omega) (by omega), Nat.or_comm, nat_join k (b * 2 ^ k) a (by simp) ha, Nat.add_comm]

theorem or_step' (a b k : Nat) (ha : a < 2 ^ k) (hb : b ≤ 1) (hk : k < 32) : bits .or .u32 (a : Int) ((b : Int) * 2 ^ k % 4294967296) = ((a + b * 2 ^ k : Nat) : Int) := by
  have h := or_step a b k ha hb hk
  rwa [IntKind.wrap_u32'] at h

theorem add_step (a b k : Nat) (ha : a < 2 ^ k) (hb : b ≤ 1) (hk : k < 32) : ((a : Int) + (b : Int) * 2 ^ k % 4294967296) % 4294967296 = ((a + b * 2 ^ k : Nat) : Int) := by
  have h1 := pow_lt_32 k hk
  have h2 := bit_mul_le b k hb
  rw [← IntKind.wrap_u32' (_ * _), shl_u32 b k hb hk]
  omega

theorem and_one (v k : Nat) (hv : v < 4294967296) : bits .and .u32 ((v : Int) / 2 ^ k) 1 = ((bitN v k : Nat) : Int) := by
  have h3 : ((v : Int) / 2 ^ k) = ((v / 2 ^ k : Nat) : Int) := by simp
  have h4 : v / 2 ^ k ≤ v := Nat.div_le_self _ _
  rw [h3, show (1 : Int) = ((1 : Nat) : Int) from rfl, u32_and_nat _ _ (by omega) (by omega), nat_mask1, bitN_eq]

/-- The lowest n bits of v in the other order. -/
def revN (v n : Nat) : Nat := ofB (fun k => v.testBit (n - 1 - k)) n

theorem revN_rev (v n : Nat) : revN (revN v n) n = v % 2 ^ n := by
  rw [← ofB_testBit]
  refine ofB_congr _ _ _ fun k hk => ?_
  rw [revN, testBit_ofB]
  have h1 : n - 1 - k < n := by omega
  have h2 : n - 1 - (n - 1 - k) = k := by omega
  simp [h1, h2]

/-- What the other walk has behind j rounds: the bits from n - j on. -/
def revTo (v n j : Nat) : Nat := ofB (fun i => decide (n - j ≤ i) && v.testBit (n - 1 - i)) n

theorem revTo_zero (v n : Nat) : revTo v n 0 = 0 := by
  unfold revTo
  rw [ofB_more _ 0 n (by omega) (fun k _ hk => by simp; omega)]; rfl

theorem revTo_succ (v n j : Nat) (hj : j < n) : revTo v n (j + 1) = revTo v n j + bitN v j * 2 ^ (n - 1 - j) := by
  unfold revTo bitN
  rw [← ofB_set _ n (n - 1 - j) (v.testBit j) (by omega) (by simp; omega)]
  refine ofB_congr _ _ _ fun k hk => ?_
  by_cases e : k = n - 1 - j
  · subst e
    have h2 : n - 1 - (n - 1 - j) = j := by omega
    have h3 : n - (j + 1) ≤ n - 1 - j := by omega
    simp [h2, h3]
  · rw [if_neg e]
    congr 1
    apply decide_eq_decide.2
    omega

theorem revTo_all (v n : Nat) : revTo v n n = revN v n := by
  unfold revTo revN
  exact ofB_congr _ _ _ fun k _ => by simp

theorem revTo_lt (v n j : Nat) : revTo v n j < 2 ^ n := ofB_lt _ _

theorem pow_le_32 (n : Nat) (hn : n ≤ 32) : 2 ^ n ≤ 4294967296 := by
  have : 2 ^ n ≤ 2 ^ 32 := Nat.pow_le_pow_right (by decide) (by omega)
  omega

theorem tmod_bit (v k : Nat) : ((v : Int) / 2 ^ k).tmod 2 = ((bitN v k : Nat) : Int) := by
  have h3 : ((v : Int) / 2 ^ k) = ((v / 2 ^ k : Nat) : Int) := by simp
  rw [h3, Int.tmod_eq_emod_of_nonneg (Int.natCast_nonneg _), bitN_eq]
  generalize v / 2 ^ k = x
  omega

theorem ref_step (v n k : Nat) (hk : k < n) (hn : n ≤ 32) : ((revTo v n k : Int) + ((v : Int) / 2 ^ k).tmod 2 * 2 ^ (n - 1 - k) % 4294967296) % 4294967296 = ((revTo v n (k + 1) : Nat) : Int) := by
  have h1 := revTo_lt v n (k + 1)
  have h2 := pow_le_32 n hn
  rw [tmod_bit, ← IntKind.wrap_u32' (_ * _), shl_u32 _ _ (bitN_le _ _) (by omega), revTo_succ v n k hk]
  rw [revTo_succ v n k hk] at h1
  omega

theorem revN_lt (v n : Nat) (hn : n ≤ 32) : revN v n < 4294967296 := by
  have h := ofB_lt (fun k => v.testBit (n - 1 - k)) n
  have h2 := pow_le_32 n hn
  unfold revN; omega

#print axioms revTo_all
end Go.Proofs.YthgnhcdodfildaaDoor
/- Plain mathematics: bits packed into bytes, the lowest bit of a byte first. No Go text here. -/
namespace Go.Proofs.YthgnhcdodfildaaDoor

/-- Byte i of the bits l; noughts behind their end. -/
def byteOf (l : List Bool) (i : Nat) : Nat := ofB (fun k => l.getD (8 * i + k) false) 8
/-- The bits as bytes. -/
def packB (l : List Bool) : List Nat := (List.range ((l.length + 7) / 8)).map (byteOf l)

@[simp] theorem packB_length (l : List Bool) : (packB l).length = (l.length + 7) / 8 := by simp [packB]
theorem packB_get (l : List Bool) (i : Nat) (h : i < (l.length + 7) / 8) : (packB l)[i]'(by simpa using h) = byteOf l i := by simp [packB]
theorem byteOf_lt (l : List Bool) (i : Nat) : byteOf l i < 256 := ofB_lt _ 8
theorem packB_lt (l : List Bool) : ∀ x ∈ packB l, x < 256 := by
  intro x hx
  simp only [packB, List.mem_map] at hx
  obtain ⟨i, _, rfl⟩ := hx
  exact byteOf_lt l i

theorem getD_false (l : List Bool) (i : Nat) (h : l.length ≤ i) : l.getD i false = false := by
  have : ¬ i < l.length := by omega
  simp [this]
theorem getD_snoc (l : List Bool) (b : Bool) (i : Nat) : (l ++ [b]).getD i false = if i = l.length then b else l.getD i false := by
  by_cases h : i < l.length
  · rw [if_neg (by omega)]; simp [h, List.getElem?_append_left h]
  · by_cases e : i = l.length
    · subst e; simp
    · rw [if_neg e, getD_false l i (by omega), getD_false (l ++ [b]) i (by simp; omega)]

theorem byteOf_other (l : List Bool) (b : Bool) (i : Nat) (h : i ≠ l.length / 8) : byteOf (l ++ [b]) i = byteOf l i := by
  unfold byteOf
  refine ofB_congr _ _ _ fun k hk => ?_
  rw [getD_snoc, if_neg (by omega)]

theorem byteOf_at (l : List Bool) (b : Bool) : byteOf (l ++ [b]) (l.length / 8) = byteOf l (l.length / 8) + b.toNat * 2 ^ (l.length % 8) := by
  unfold byteOf
  rw [← ofB_set _ 8 (l.length % 8) b (by omega) (by rw [getD_false]; omega)]
  refine ofB_congr _ _ _ fun k hk => ?_
  rw [getD_snoc]
  by_cases e : k = l.length % 8
  · rw [if_pos (by omega), if_pos e]
  · rw [if_neg (by omega), if_neg e]

theorem byteOf_last (l : List Bool) : byteOf l (l.length / 8) < 2 ^ (l.length % 8) := by
  unfold byteOf
  rw [ofB_more _ (l.length % 8) 8 (by omega) (fun k h1 h2 => getD_false _ _ (by omega))]
  exact ofB_lt _ _

theorem packB_grow (l : List Bool) (b : Bool) (h : l.length % 8 = 0) : packB (l ++ [b]) = packB l ++ [b.toNat] := by
  apply List.ext_getElem
  · simp; omega
  · intro i h1 h2
    have hi : i < (l.length + 1 + 7) / 8 := by simpa using h1
    rw [packB_get _ _ (by simpa using hi)]
    by_cases e : i < (l.length + 7) / 8
    · rw [List.getElem_append_left (by simpa using e), packB_get _ _ e, byteOf_other _ _ _ (by omega)]
    · have e2 : i = l.length / 8 := by omega
      rw [List.getElem_append_right (by simp; omega)]
      simp only [List.getElem_singleton]
      rw [e2, byteOf_at]
      have := byteOf_last l
      rw [h] at this ⊢
      simp at this ⊢
      exact this

theorem packB_stay (l : List Bool) (b : Bool) (h : ¬ l.length % 8 = 0) : packB (l ++ [b]) = (packB l).set (l.length / 8) (byteOf l (l.length / 8) + b.toNat * 2 ^ (l.length % 8)) := by
  apply List.ext_getElem
  · simp; omega
  · intro i h1 h2
    have hi : i < (l.length + 1 + 7) / 8 := by simpa using h1
    rw [packB_get _ _ (by simpa using hi), List.getElem_set]
    by_cases e : l.length / 8 = i
    · rw [if_pos e, ← e, byteOf_at]
    · rw [if_neg e, packB_get _ _ (by omega), byteOf_other _ _ _ (by omega)]

/-- Bits of 0 up to a whole byte. -/
def alignB (l : List Bool) : List Bool := l ++ List.replicate ((8 - l.length % 8) % 8) false
theorem alignB_length (l : List Bool) : (alignB l).length = 8 * ((l.length + 7) / 8) := by simp [alignB]; omega
theorem getD_align (l : List Bool) (i : Nat) : (alignB l).getD i false = l.getD i false := by
  by_cases h : i < l.length
  · simp [alignB, h, List.getElem?_append_left h]
  · rw [getD_false l i (by omega)]
    by_cases h2 : i < (alignB l).length
    · have h3 : i - l.length < (8 - l.length % 8) % 8 := by simp [alignB] at h2; omega
      simp [alignB, List.getElem?_append_right (show l.length ≤ i by omega), h3]
    · exact getD_false _ _ (by omega)
theorem packB_align (l : List Bool) : packB (alignB l) = packB l := by
  have e : ((alignB l).length + 7) / 8 = (l.length + 7) / 8 := by rw [alignB_length]; omega
  unfold packB
  rw [e]
  refine List.map_congr_left fun i _ => ?_
  unfold byteOf
  exact ofB_congr _ _ _ fun k _ => getD_align l _

/-- The bits of bytes. -/
def bitsOf (D : List Nat) : List Bool := (List.range (8 * D.length)).map fun i => (D.getD (i / 8) 0).testBit (i % 8)
@[simp] theorem bitsOf_length (D : List Nat) : (bitsOf D).length = 8 * D.length := by simp [bitsOf]
theorem getD_bitsOf (D : List Nat) (i : Nat) : (bitsOf D).getD i false = (D.getD (i / 8) 0).testBit (i % 8) := by
  by_cases h : i < 8 * D.length
  · simp [bitsOf, h]
  · rw [getD_false _ _ (by simp; omega)]
    have : ¬ i / 8 < D.length := by omega
    simp [this]
theorem byteOf_whole (l : List Bool) (D : List Nat) (i : Nat) (hl : l.length % 8 = 0) (hD : ∀ x ∈ D, x < 256) (h : l.length / 8 ≤ i) (h2 : i < l.length / 8 + D.length) : byteOf (l ++ bitsOf D) i = D.getD (i - l.length / 8) 0 := by
  unfold byteOf
  have e : ∀ k, k < 8 → (l ++ bitsOf D).getD (8 * i + k) false = (D.getD (i - l.length / 8) 0).testBit k := by
    intro k hk
    have h3 : l.length ≤ 8 * i + k := by omega
    have h4 : (l ++ bitsOf D).getD (8 * i + k) false = (bitsOf D).getD (8 * i + k - l.length) false := by
      simp [List.getElem?_append_right h3]
    rw [h4, getD_bitsOf]
    rw [show (8 * i + k - l.length) / 8 = i - l.length / 8 from by omega, show (8 * i + k - l.length) % 8 = k from by omega]
  rw [ofB_congr _ _ _ e, ofB_testBit]
  have : D.getD (i - l.length / 8) 0 < 256 := by
    have h5 : i - l.length / 8 < D.length := by omega
    simp [h5]
    exact hD _ (List.getElem_mem h5)
  omega
theorem packB_bytes (l : List Bool) (D : List Nat) (hl : l.length % 8 = 0) (hD : ∀ x ∈ D, x < 256) : packB (l ++ bitsOf D) = packB l ++ D := by
  apply List.ext_getElem
  · simp; omega
  · intro i h1 h2
    have hi : i < (l.length + 8 * D.length + 7) / 8 := by simpa using h1
    rw [packB_get _ _ (by simpa using hi)]
    by_cases e : i < (l.length + 7) / 8
    · rw [List.getElem_append_left (by simpa using e), packB_get _ _ e]
      unfold byteOf
      refine ofB_congr _ _ _ fun k hk => ?_
      have : 8 * i + k < l.length := by omega
      simp [this, List.getElem?_append_left this]
    · rw [List.getElem_append_right (by simp; omega), byteOf_whole l D i hl hD (by omega) (by omega)]
      have h5 : i - l.length / 8 < D.length := by omega
      simp [h5]
      congr 1
      omega
#print axioms packB_bytes
end Go.Proofs.YthgnhcdodfildaaDoor
