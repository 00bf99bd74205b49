/- Plain mathematics: the document's search for a code, and whether one is begun. No Go text here. -/
import Derived.Test.YthgnhcdodfildaaDoorRdM
namespace Go.Proofs.YthgnhcdodfildaaDoor

/-- Is symbol i's code the c of length k? -/
def hitI (M : List Nat) (k c i : Nat) : Prop := M.getD i 0 = k ∧ 0 < k ∧ codeN M i = c
/-- Does a longer code of the first j symbols begin with the c of length k? -/
def begB (M : List Nat) (k c : Nat) : Nat → Bool
  | 0 => false
  | j + 1 => begB M k c j || (decide (k < M.getD j 0) && decide (codeN M j / 2 ^ (M.getD j 0 - k) = c))
theorem begB_iff (M : List Nat) (k c j : Nat) : begB M k c j = true ↔ ∃ i, i < j ∧ k < M.getD i 0 ∧ codeN M i / 2 ^ (M.getD i 0 - k) = c := by
  induction j with
  | zero => simp [begB]
  | succ j ih =>
    unfold begB
    rw [Bool.or_eq_true, ih, Bool.and_eq_true, decide_eq_true_iff, decide_eq_true_iff]
    constructor
    · rintro (⟨i, h1, h2⟩ | ⟨h1, h2⟩)
      · exact ⟨i, by omega, h2⟩
      · exact ⟨j, by omega, h1, h2⟩
    · rintro ⟨i, h1, h2, h3⟩
      by_cases e : i = j
      · subst e; exact Or.inr ⟨h2, h3⟩
      · exact Or.inl ⟨i, by omega, h2, h3⟩
theorem count_pos (M : List Nat) (i : Nat) (h : i < M.length) (h0 : 0 < M[i]) : 0 < cntN M M[i] := by
  have := count_take_lt M i h h0; omega
theorem long_ge {M : List Nat} (h15 : ∀ x ∈ M, x ≤ 15) (i : Nat) (h : i < M.length) : M[i] ≤ longM M := by
  by_cases h0 : M[i] = 0
  · omega
  · have h1 := count_pos M i h (by omega)
    have h2 := h15 _ (List.getElem_mem h)
    rcases Nat.lt_or_ge (longM M) M[i] with h3 | h3
    · have := lgN_top (cntN M) 16 M[i] (by omega) h3; omega
    · exact h3
theorem long_ex {M : List Nat} (h : 0 < longM M) : ∃ i, ∃ hi : i < M.length, M[i] = longM M := by
  have h1 : 0 < cntN M (longM M) := lgN_pos (cntN M) 16 h
  obtain ⟨i, hi, e, _⟩ := rank_ex M (longM M) 0 h h1
  exact ⟨i, hi, e⟩
/-- No code is found: then one is begun just if there are longer ones. -/
theorem begun_iff {M : List Nat} (hM : Code M) (k c : Nat) (hk : k ≤ 15) (h1 : firstN (cntN M) k + cntN M k ≤ c) (h2 : c < 2 ^ k) : begB M k c M.length = true ↔ ¬ longM M ≤ k := by
  rw [begB_iff]
  constructor
  · rintro ⟨i, hi, h3, _⟩
    rw [getD_get M i hi] at h3
    have := long_ge hM.le i hi
    omega
  · intro hlo
    by_cases hk0 : k = 0
    · subst hk0
      obtain ⟨i, hi, e⟩ := long_ex (M := M) (by omega)
      refine ⟨i, hi, by rw [getD_get M i hi]; omega, ?_⟩
      rw [getD_get M i hi]
      have h3 := codeN_lt hM i hi
      rw [Nat.sub_zero, Nat.div_eq_of_lt h3]
      simp at h2
      omega
    · have his := hM.is
      unfold codeB at his
      rw [decide_eq_true_iff] at his
      obtain ⟨i, hi, e⟩ := long_ex (M := M) (by omega)
      have hc := count_pos M i hi (by omega)
      have hl15 := longM_le M
      have hsum := ssum_all M hM.le
      have hm1 := ssum_mono (cntN M) (M[i] + 1) 16 (by omega)
      have hm2 : ssum (cntN M) (M[i] + 1) = ssum (cntN M) M[i] + cntN M M[i] := rfl
      rcases his with h3 | h3 | ⟨h3, h4⟩
      · omega
      · obtain ⟨j, hj, h5, h6⟩ := longer_ex hM.le h3 k c hk h1 h2
        refine ⟨j, hj, by rw [getD_get M j hj]; exact h5, by rw [getD_get M j hj]; exact h6⟩
      · exfalso
        have h5 := (one_of M hM.le h3).1 h4
        have hm3 := ssum_mono (cntN M) 2 M[i] (by omega)
        have hm4 : ssum (cntN M) 2 = 0 + cntN M 0 + cntN M 1 := rfl
        omega
/-- What is still to be answered behind k bits. -/
def rdG (M B : List Nat) (p k : Nat) : Nat × Nat × Nat := if hitB M k (msb B p k) = true then (symC M k (msb B p k), 0, p + k) else rdT M B p (16 - k) k
theorem rdG_zero (M B : List Nat) (p : Nat) : rdG M B p 0 = rdA M B p := by
  have : hitB M 0 (msb B p 0) = false := by simp [hitB, firstN, cntN]
  unfold rdG; rw [this]; rfl
/-- A symbol that is found is the answer. -/
theorem rdG_found {M : List Nat} (h15 : ∀ x ∈ M, x ≤ 15) (B : List Nat) (p k i : Nat) (hi : i < M.length) (h : hitI M k (msb B p k) i) : rdG M B p k = (i, 0, p + k) := by
  obtain ⟨h1, h2, h3⟩ := h
  rw [getD_get M i hi] at h1
  obtain ⟨a, b⟩ := code_in i hi (by omega)
  have e : hitB M k (msb B p k) = true := by unfold hitB; rw [← h3, ← h1]; simpa using b
  unfold rdG
  rw [if_pos e, ← h3]
  have := sym_code h15 i hi (by omega)
  rw [h1] at this
  rw [this]
/-- None is found. -/
theorem rdG_none {M : List Nat} (h15 : ∀ x ∈ M, x ≤ 15) (B : List Nat) (p k : Nat) (hf : firstN (cntN M) k ≤ msb B p k) (h : ∀ i, i < M.length → ¬ hitI M k (msb B p k) i) : hitB M k (msb B p k) = false := by
  cases e : hitB M k (msb B p k) with
  | false => rfl
  | true =>
    exfalso
    have hl := hit_lt M k _ e
    by_cases hk : k = 0
    · subst hk; simp [firstN, cntN] at hl
    · obtain ⟨hs, s1, s2, _⟩ := sym_of h15 k _ (by omega) hf hl
      exact h _ hs ⟨by rw [getD_get M _ hs]; exact s1, by omega, s2⟩
theorem rdG_next (M B : List Nat) (p k : Nat) (h0 : hitB M k (msb B p k) = false) (hk : k ≤ 15) (h : ¬ longM M ≤ k) (h2 : ¬ 8 * B.length ≤ p + k) : rdG M B p k = rdG M B p (k + 1) := by
  unfold rdG
  rw [h0]
  show rdT M B p (16 - k) k = _
  rw [show 16 - k = (16 - (k + 1)) + 1 by omega]
  cases e : hitB M (k + 1) (msb B p (k + 1)) with
  | true => rw [rdT_hit M B p _ k h h2 e]; rfl
  | false => rw [rdT_miss M B p _ k h h2 e]; rfl
theorem rdG_over (M B : List Nat) (p k : Nat) (h0 : hitB M k (msb B p k) = false) (hk : k ≤ 15) (h : longM M ≤ k) : rdG M B p k = (0, 22, p + k) := by
  unfold rdG
  rw [h0]
  show rdT M B p (16 - k) k = _
  rw [show 16 - k = (15 - k) + 1 by omega, rdT_over M B p _ k h]
theorem rdG_ends (M B : List Nat) (p k : Nat) (h0 : hitB M k (msb B p k) = false) (hk : k ≤ 15) (h : ¬ longM M ≤ k) (h2 : 8 * B.length ≤ p + k) : rdG M B p k = (0, 11, p + k) := by
  unfold rdG
  rw [h0]
  show rdT M B p (16 - k) k = _
  rw [show 16 - k = (15 - k) + 1 by omega, rdT_ends M B p _ k h h2]
#print axioms begun_iff
end Go.Proofs.YthgnhcdodfildaaDoor
