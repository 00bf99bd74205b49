/- Plain mathematics of canonical codes: the first code of each length, each symbol's code. No Go text here. -/
import Derived.Test.YtcefochgpijfbaaDoorCod
namespace Go.Proofs.YtcefochgpijfbaaDoor

/-- The first code of each length, f l of which there are. -/
def firstN (f : Nat → Nat) : Nat → Nat
  | 0 => 0
  | l + 1 => 2 * (firstN f l + f l)
/-- The code of symbol i. -/
def codeN (M : List Nat) (i : Nat) : Nat := if M.getD i 0 = 0 then 0 else firstN (cntN M) (M.getD i 0) + cntN (M.take i) (M.getD i 0)
/-- The codes of all symbols. -/
def codesN (M : List Nat) : List Nat := (List.range M.length).map (codeN M)
@[simp] theorem codesN_length (M : List Nat) : (codesN M).length = M.length := by simp [codesN]
theorem codesN_get (M : List Nat) (i : Nat) (h : i < M.length) : (codesN M)[i]'(by simpa using h) = codeN M i := by simp [codesN]

theorem first_sum (f : Nat → Nat) (l : Nat) (h : l ≤ 15) : firstN f l * 2 ^ (15 - l) = rsum f l := by
  induction l with
  | zero => simp [firstN, rsum]
  | succ l ih =>
    have e : 2 ^ (15 - l) = 2 * 2 ^ (15 - (l + 1)) := by
      rw [show 15 - l = (15 - (l + 1)) + 1 by omega, Nat.pow_succ]; omega
    show 2 * (firstN f l + f l) * 2 ^ (15 - (l + 1)) = rsum f l + f l * 2 ^ (15 - l)
    rw [← ih (by omega), ← Nat.add_mul, e, Nat.mul_comm 2 (_ + _), Nat.mul_assoc]
theorem first_cnt_sum (f : Nat → Nat) (l : Nat) (h : l ≤ 15) : (firstN f l + f l) * 2 ^ (15 - l) = rsum f (l + 1) := by
  show _ = rsum f l + f l * 2 ^ (15 - l)
  rw [← first_sum f l h, Nat.add_mul]
/-- Where the room is no greater than 2^15 the codes of each length fit into it. -/
theorem first_fits (f : Nat → Nat) (hr : rsum f 16 ≤ 32768) (l : Nat) (h : l ≤ 15) : firstN f l + f l ≤ 2 ^ l := by
  have h1 := first_cnt_sum f l h
  have h2 := rsum_mono f (l + 1) 16 (by omega)
  have h3 : 2 ^ l * 2 ^ (15 - l) = 32768 := by rw [← Nat.pow_add, show l + (15 - l) = 15 by omega]
  have h4 : 0 < 2 ^ (15 - l) := Nat.pow_pos (by decide)
  refine Nat.le_of_mul_le_mul_right ?_ h4
  rw [h1, h3]; omega
theorem pow_le_15 (l : Nat) (h : l ≤ 15) : 2 ^ l ≤ 32768 := Nat.pow_le_pow_right (by decide) h

theorem Code.fits {M : List Nat} (h : Code M) (l : Nat) (hl : l ≤ 15) : firstN (cntN M) l + cntN M l ≤ 2 ^ l :=
  first_fits _ (by rw [rsum_all M h.le]; exact h.room) l hl

theorem count_take_le (M : List Nat) (i l : Nat) : cntN (M.take i) l ≤ cntN M l := by
  unfold cntN
  split
  · omega
  · exact (List.take_sublist i M).count_le l
theorem count_take_lt (M : List Nat) (i : Nat) (h : i < M.length) (h0 : 0 < M[i]) : cntN (M.take i) M[i] < cntN M M[i] := by
  have h1 : cntN (M.take (i + 1)) M[i] = cntN (M.take i) M[i] + 1 := by
    rw [take_snoc M i h, cntN_snoc _ _ h0]; simp [upd]
  have h2 := count_take_le M (i + 1) M[i]
  omega
theorem getD_get (M : List Nat) (i : Nat) (h : i < M.length) : M.getD i 0 = M[i] := by simp [h]
theorem codeN_lt {M : List Nat} (hM : Code M) (i : Nat) (h : i < M.length) : codeN M i < 2 ^ M[i] := by
  unfold codeN
  rw [getD_get M i h]
  split
  · exact Nat.pow_pos (by decide)
  · have h1 := count_take_lt M i h (by omega)
    have h2 := hM.fits M[i] (hM.le _ (List.getElem_mem h))
    omega
theorem codeN_lt32 {M : List Nat} (hM : Code M) (i : Nat) (h : i < M.length) : codeN M i < 32768 :=
  Nat.lt_of_lt_of_le (codeN_lt hM i h) (pow_le_15 _ (hM.le _ (List.getElem_mem h)))

/-- What Codes has next of each length behind k symbols. -/
def nextN (M : List Nat) (k : Nat) : Nat → Nat := fun l => firstN (cntN M) l + cntN (M.take k) l
theorem nextN_zero (M : List Nat) : nextN M 0 = firstN (cntN M) := by
  funext l; simp [nextN, cntN_nil]
theorem nextN_snoc (M : List Nat) (k : Nat) (h : k < M.length) (h0 : 0 < M[k]) : nextN M (k + 1) = upd (nextN M k) M[k] (nextN M k M[k] + 1) := by
  funext l
  unfold nextN
  rw [take_snoc M k h, cntN_snoc _ _ h0]
  unfold upd
  split
  · rename_i e; rw [e]; omega
  · rfl
theorem nextN_snoc0 (M : List Nat) (k : Nat) (h : k < M.length) (h0 : M[k] = 0) : nextN M (k + 1) = nextN M k := by
  funext l
  unfold nextN
  rw [take_snoc M k h, h0, cntN_snoc0]
theorem nextN_code (M : List Nat) (k : Nat) (h : k < M.length) (h0 : 0 < M[k]) : codeN M k = nextN M k M[k] := by
  unfold codeN nextN
  rw [getD_get M k h, if_neg (by omega)]
theorem nextN_le {M : List Nat} (hM : Code M) (k l : Nat) (hl : l ≤ 15) : nextN M k l ≤ 32768 := by
  have h1 := hM.fits l hl
  have h2 := count_take_le M k l
  have h3 := pow_le_15 l hl
  unfold nextN; omega

/-- The codes of the symbols that p holds of; 0 of the others. -/
def partN (M : List Nat) (p : Nat → Bool) : List Nat := (List.range M.length).map fun i => if p i then codeN M i else 0
@[simp] theorem partN_length (M : List Nat) (p : Nat → Bool) : (partN M p).length = M.length := by simp [partN]
theorem partN_set (M : List Nat) (p q : Nat → Bool) (k : Nat) (hq : q k = true) (hpq : ∀ i, i ≠ k → i < M.length → q i = p i) : (partN M p).set k (codeN M k) = partN M q := by
  apply List.ext_getElem
  · simp
  · intro i h1 h2
    have hi : i < M.length := by simpa using h2
    rw [List.getElem_set]
    simp only [partN, List.getElem_map, List.getElem_range]
    split
    · rename_i e; subst e; rw [hq]; rfl
    · rw [hpq i (by omega) hi]
theorem partN_same (M : List Nat) (p q : Nat → Bool) (h : ∀ i, i < M.length → codeN M i = 0 ∨ p i = q i) : partN M p = partN M q := by
  apply List.ext_getElem
  · simp
  · intro i h1 h2
    have hi : i < M.length := by simpa using h2
    simp only [partN, List.getElem_map, List.getElem_range]
    rcases h i hi with h | h
    · rw [h]; simp
    · rw [h]
theorem partN_all (M : List Nat) (p : Nat → Bool) (h : ∀ i, i < M.length → codeN M i = 0 ∨ p i = true) : partN M p = codesN M := by
  apply List.ext_getElem
  · simp
  · intro i h1 h2
    have hi : i < M.length := by simpa using h2
    simp only [partN, codesN, List.getElem_map, List.getElem_range]
    rcases h i hi with h | h
    · rw [h]; simp
    · rw [h]; rfl
theorem partN_none (M : List Nat) (p : Nat → Bool) (h : ∀ i, i < M.length → codeN M i = 0 ∨ p i = false) : partN M p = List.replicate M.length 0 := by
  apply List.ext_getElem
  · simp
  · intro i h1 h2
    have hi : i < M.length := by simpa using h1
    simp only [partN, List.getElem_map, List.getElem_range, List.getElem_replicate]
    rcases h i hi with h | h
    · rw [h]; simp
    · rw [h]; simp
theorem codeN_of0 (M : List Nat) (i : Nat) (h : i < M.length) (h0 : M[i] = 0) : codeN M i = 0 := by
  unfold codeN; rw [getD_get M i h, if_pos h0]
#print axioms partN_all
end Go.Proofs.YtcefochgpijfbaaDoor
