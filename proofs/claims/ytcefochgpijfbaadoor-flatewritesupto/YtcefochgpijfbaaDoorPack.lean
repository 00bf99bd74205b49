/- Plain mathematics: bits packed into bytes, the lowest bit of a byte first. No Go text here. -/
import Derived.Test.YtcefochgpijfbaaDoorMath
namespace Go.Proofs.YtcefochgpijfbaaDoor

/-- Byte i of the bits l; noughts behind their end. -/
def byteOf (l : List Bool) (i : Nat) : Nat := ofB (fun k => l.getD (8 * i + k) false) 8
/-- The bits as bytes. -/
def packB (l : List Bool) : List Nat := (List.range ((l.length + 7) / 8)).map (byteOf l)

@[simp] theorem packB_length (l : List Bool) : (packB l).length = (l.length + 7) / 8 := by simp [packB]
theorem packB_get (l : List Bool) (i : Nat) (h : i < (l.length + 7) / 8) : (packB l)[i]'(by simpa using h) = byteOf l i := by simp [packB]
theorem byteOf_lt (l : List Bool) (i : Nat) : byteOf l i < 256 := ofB_lt _ 8
theorem packB_lt (l : List Bool) : ∀ x ∈ packB l, x < 256 := by
  intro x hx
  simp only [packB, List.mem_map] at hx
  obtain ⟨i, _, rfl⟩ := hx
  exact byteOf_lt l i

theorem getD_false (l : List Bool) (i : Nat) (h : l.length ≤ i) : l.getD i false = false := by
  have : ¬ i < l.length := by omega
  simp [this]
theorem getD_snoc (l : List Bool) (b : Bool) (i : Nat) : (l ++ [b]).getD i false = if i = l.length then b else l.getD i false := by
  by_cases h : i < l.length
  · rw [if_neg (by omega)]; simp [h, List.getElem?_append_left h]
  · by_cases e : i = l.length
    · subst e; simp
    · rw [if_neg e, getD_false l i (by omega), getD_false (l ++ [b]) i (by simp; omega)]

theorem byteOf_other (l : List Bool) (b : Bool) (i : Nat) (h : i ≠ l.length / 8) : byteOf (l ++ [b]) i = byteOf l i := by
  unfold byteOf
  refine ofB_congr _ _ _ fun k hk => ?_
  rw [getD_snoc, if_neg (by omega)]

theorem byteOf_at (l : List Bool) (b : Bool) : byteOf (l ++ [b]) (l.length / 8) = byteOf l (l.length / 8) + b.toNat * 2 ^ (l.length % 8) := by
  unfold byteOf
  rw [← ofB_set _ 8 (l.length % 8) b (by omega) (by rw [getD_false]; omega)]
  refine ofB_congr _ _ _ fun k hk => ?_
  rw [getD_snoc]
  by_cases e : k = l.length % 8
  · rw [if_pos (by omega), if_pos e]
  · rw [if_neg (by omega), if_neg e]

theorem byteOf_last (l : List Bool) : byteOf l (l.length / 8) < 2 ^ (l.length % 8) := by
  unfold byteOf
  rw [ofB_more _ (l.length % 8) 8 (by omega) (fun k h1 h2 => getD_false _ _ (by omega))]
  exact ofB_lt _ _

theorem packB_grow (l : List Bool) (b : Bool) (h : l.length % 8 = 0) : packB (l ++ [b]) = packB l ++ [b.toNat] := by
  apply List.ext_getElem
  · simp; omega
  · intro i h1 h2
    have hi : i < (l.length + 1 + 7) / 8 := by simpa using h1
    rw [packB_get _ _ (by simpa using hi)]
    by_cases e : i < (l.length + 7) / 8
    · rw [List.getElem_append_left (by simpa using e), packB_get _ _ e, byteOf_other _ _ _ (by omega)]
    · have e2 : i = l.length / 8 := by omega
      rw [List.getElem_append_right (by simp; omega)]
      simp only [List.getElem_singleton]
      rw [e2, byteOf_at]
      have := byteOf_last l
      rw [h] at this ⊢
      simp at this ⊢
      exact this

theorem packB_stay (l : List Bool) (b : Bool) (h : ¬ l.length % 8 = 0) : packB (l ++ [b]) = (packB l).set (l.length / 8) (byteOf l (l.length / 8) + b.toNat * 2 ^ (l.length % 8)) := by
  apply List.ext_getElem
  · simp; omega
  · intro i h1 h2
    have hi : i < (l.length + 1 + 7) / 8 := by simpa using h1
    rw [packB_get _ _ (by simpa using hi), List.getElem_set]
    by_cases e : l.length / 8 = i
    · rw [if_pos e, ← e, byteOf_at]
    · rw [if_neg e, packB_get _ _ (by omega), byteOf_other _ _ _ (by omega)]

/-- Bits of 0 up to a whole byte. -/
def alignB (l : List Bool) : List Bool := l ++ List.replicate ((8 - l.length % 8) % 8) false
theorem alignB_length (l : List Bool) : (alignB l).length = 8 * ((l.length + 7) / 8) := by simp [alignB]; omega
theorem getD_align (l : List Bool) (i : Nat) : (alignB l).getD i false = l.getD i false := by
  by_cases h : i < l.length
  · simp [alignB, h, List.getElem?_append_left h]
  · rw [getD_false l i (by omega)]
    by_cases h2 : i < (alignB l).length
    · have h3 : i - l.length < (8 - l.length % 8) % 8 := by simp [alignB] at h2; omega
      simp [alignB, List.getElem?_append_right (show l.length ≤ i by omega), h3]
    · exact getD_false _ _ (by omega)
theorem packB_align (l : List Bool) : packB (alignB l) = packB l := by
  have e : ((alignB l).length + 7) / 8 = (l.length + 7) / 8 := by rw [alignB_length]; omega
  unfold packB
  rw [e]
  refine List.map_congr_left fun i _ => ?_
  unfold byteOf
  exact ofB_congr _ _ _ fun k _ => getD_align l _

/-- The bits of bytes. -/
def bitsOf (D : List Nat) : List Bool := (List.range (8 * D.length)).map fun i => (D.getD (i / 8) 0).testBit (i % 8)
@[simp] theorem bitsOf_length (D : List Nat) : (bitsOf D).length = 8 * D.length := by simp [bitsOf]
theorem getD_bitsOf (D : List Nat) (i : Nat) : (bitsOf D).getD i false = (D.getD (i / 8) 0).testBit (i % 8) := by
  by_cases h : i < 8 * D.length
  · simp [bitsOf, h]
  · rw [getD_false _ _ (by simp; omega)]
    have : ¬ i / 8 < D.length := by omega
    simp [this]
theorem byteOf_whole (l : List Bool) (D : List Nat) (i : Nat) (hl : l.length % 8 = 0) (hD : ∀ x ∈ D, x < 256) (h : l.length / 8 ≤ i) (h2 : i < l.length / 8 + D.length) : byteOf (l ++ bitsOf D) i = D.getD (i - l.length / 8) 0 := by
  unfold byteOf
  have e : ∀ k, k < 8 → (l ++ bitsOf D).getD (8 * i + k) false = (D.getD (i - l.length / 8) 0).testBit k := by
    intro k hk
    have h3 : l.length ≤ 8 * i + k := by omega
    have h4 : (l ++ bitsOf D).getD (8 * i + k) false = (bitsOf D).getD (8 * i + k - l.length) false := by
      simp [List.getElem?_append_right h3]
    rw [h4, getD_bitsOf]
    rw [show (8 * i + k - l.length) / 8 = i - l.length / 8 from by omega, show (8 * i + k - l.length) % 8 = k from by omega]
  rw [ofB_congr _ _ _ e, ofB_testBit]
  have : D.getD (i - l.length / 8) 0 < 256 := by
    have h5 : i - l.length / 8 < D.length := by omega
    simp [h5]
    exact hD _ (List.getElem_mem h5)
  omega
theorem packB_bytes (l : List Bool) (D : List Nat) (hl : l.length % 8 = 0) (hD : ∀ x ∈ D, x < 256) : packB (l ++ bitsOf D) = packB l ++ D := by
  apply List.ext_getElem
  · simp; omega
  · intro i h1 h2
    have hi : i < (l.length + 8 * D.length + 7) / 8 := by simpa using h1
    rw [packB_get _ _ (by simpa using hi)]
    by_cases e : i < (l.length + 7) / 8
    · rw [List.getElem_append_left (by simpa using e), packB_get _ _ e]
      unfold byteOf
      refine ofB_congr _ _ _ fun k hk => ?_
      have : 8 * i + k < l.length := by omega
      simp [this, List.getElem?_append_left this]
    · rw [List.getElem_append_right (by simp; omega), byteOf_whole l D i hl hD (by omega) (by omega)]
      have h5 : i - l.length / 8 < D.length := by omega
      simp [h5]
      congr 1
      omega
#print axioms packB_bytes
end Go.Proofs.YtcefochgpijfbaaDoor
