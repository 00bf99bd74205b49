/- Plain mathematics of decoding: symbols in the order of their codes; which code the bits begin with. No Go text here. -/
import Derived.Test.YthgnhcdodfildaaDoorK03
namespace Go.Proofs.YthgnhcdodfildaaDoor

/-- The greatest l below n with f l above 0; 0 if there is none. -/
def lgN (f : Nat → Nat) : Nat → Nat
  | 0 => 0
  | n + 1 => if 0 < f n then n else lgN f n
theorem lgN_lt (f : Nat → Nat) (n : Nat) : lgN f n ≤ n - 1 := by
  induction n with
  | zero => simp [lgN]
  | succ n ih => unfold lgN; split <;> omega
theorem lgN_top (f : Nat → Nat) (n l : Nat) (hl : l < n) (h : lgN f n < l) : f l = 0 := by
  induction n with
  | zero => omega
  | succ n ih =>
    unfold lgN at h
    split at h
    · omega
    · by_cases e : l = n
      · subst e; omega
      · exact ih (by omega) h
theorem lgN_pos (f : Nat → Nat) (n : Nat) (h : 0 < lgN f n) : 0 < f (lgN f n) := by
  induction n with
  | zero => simp [lgN] at h
  | succ n ih =>
    unfold lgN at h ⊢
    split
    · assumption
    · rename_i h'; rw [if_neg h'] at h; exact ih h
/-- The longest code's length. -/
def longM (M : List Nat) : Nat := lgN (cntN M) 16
theorem longM_le (M : List Nat) : longM M ≤ 15 := lgN_lt _ 16

/-- Where symbol i stands in the order of codes. -/
def posN (M : List Nat) (i : Nat) : Nat := ssum (cntN M) (M.getD i 0) + cntN (M.take i) (M.getD i 0)
/-- The symbols in the order of codes, as far as the first k of them are put there. -/
def ordN (M : List Nat) : Nat → List Nat
  | 0 => List.replicate (manyN M) 0
  | k + 1 => if M.getD k 0 = 0 then ordN M k else (ordN M k).set (posN M k) k
@[simp] theorem ordN_length (M : List Nat) (k : Nat) : (ordN M k).length = manyN M := by
  induction k with
  | zero => simp [ordN]
  | succ k ih => unfold ordN; split <;> simp [ih]
theorem posN_lt {M : List Nat} (h15 : ∀ x ∈ M, x ≤ 15) (i : Nat) (h : i < M.length) (h0 : 0 < M[i]) : posN M i < manyN M := by
  have h1 := count_take_lt M i h h0
  have h2 := h15 _ (List.getElem_mem h)
  have h3 := ssum_mono (cntN M) (M[i] + 1) 16 (by omega)
  rw [ssum_all M h15] at h3
  have h4 : ssum (cntN M) (M[i] + 1) = ssum (cntN M) M[i] + cntN M M[i] := rfl
  unfold posN
  rw [getD_get M i h]
  omega
theorem count_take_mono (M : List Nat) (i j l : Nat) (h : i ≤ j) : cntN (M.take i) l ≤ cntN (M.take j) l := by
  have := count_take_le (M.take j) i l
  rwa [List.take_take, Nat.min_eq_left h] at this
/-- Two symbols stand in two places. -/
theorem posN_inj {M : List Nat} (i j : Nat) (hi : i < M.length) (hj : j < M.length) (i0 : 0 < M[i]) (j0 : 0 < M[j]) (h : posN M i = posN M j) : i = j := by
  have key : ∀ a b (ha : a < M.length) (hb : b < M.length), 0 < M[a] → 0 < M[b] → M[a] < M[b] → posN M a < posN M b := by
    intro a b ha hb a0 b0 hlt
    unfold posN
    rw [getD_get M a ha, getD_get M b hb]
    have h1 := count_take_lt M a ha a0
    have h2 := ssum_mono (cntN M) (M[a] + 1) M[b] (by omega)
    have h4 : ssum (cntN M) (M[a] + 1) = ssum (cntN M) M[a] + cntN M M[a] := rfl
    omega
  have key2 : ∀ a b (ha : a < M.length) (hb : b < M.length), 0 < M[a] → M[a] = M[b] → a < b → posN M a < posN M b := by
    intro a b ha hb a0 he hlt
    unfold posN
    rw [getD_get M a ha, getD_get M b hb, ← he]
    have h1 : cntN (M.take (a + 1)) M[a] = cntN (M.take a) M[a] + 1 := by
      rw [take_snoc M a ha, cntN_snoc _ _ a0]; simp [upd]
    have h2 := count_take_mono M (a + 1) b M[a] (by omega)
    omega
  rcases Nat.lt_trichotomy M[i] M[j] with h1 | h1 | h1
  · have := key i j hi hj i0 j0 h1; omega
  · rcases Nat.lt_trichotomy i j with h2 | h2 | h2
    · have := key2 i j hi hj i0 h1 h2; omega
    · exact h2
    · have := key2 j i hj hi j0 h1.symm h2; omega
  · have := key j i hj hi j0 i0 h1; omega
theorem ordN_get {M : List Nat} (h15 : ∀ x ∈ M, x ≤ 15) (k i : Nat) (hk : k ≤ M.length) (hi : i < k) (h0 : 0 < M[i]'(by omega)) : (ordN M k)[posN M i]? = some i := by
  induction k with
  | zero => omega
  | succ k ih =>
    unfold ordN
    have hkl : k < M.length := by omega
    rw [getD_get M k hkl]
    by_cases e : i = k
    · subst e
      rw [if_neg (by omega)]
      have := posN_lt h15 i hkl h0
      rw [List.getElem?_set_self (by simpa using this)]
    · have := ih (by omega) (by omega) h0
      split
      · exact this
      · rename_i hx
        rw [List.getElem?_set_ne (fun hp => e (posN_inj i k (by omega) hkl h0 (by omega) hp.symm))]
        exact this

/-- Of each length and each number below how many there are of it, there is the symbol before which just so many stand. -/
theorem rank_ex (M : List Nat) (l r : Nat) (hl : 0 < l) (h : r < cntN M l) : ∃ i, ∃ hi : i < M.length, M[i] = l ∧ cntN (M.take i) l = r := by
  have key : ∀ k, k ≤ M.length → r < cntN (M.take k) l → ∃ i, ∃ hi : i < M.length, M[i] = l ∧ cntN (M.take i) l = r := by
    intro k
    induction k with
    | zero => intro _ h; simp [cntN_nil] at h
    | succ k ih =>
      intro hk h
      by_cases h' : r < cntN (M.take k) l
      · exact ih (by omega) h'
      · rw [take_snoc M k (by omega)] at h
        by_cases e : M[k] = l
        · refine ⟨k, by omega, e, ?_⟩
          rw [e, cntN_snoc _ _ hl] at h
          simp [upd] at h
          omega
        · exfalso
          by_cases e0 : M[k] = 0
          · rw [e0, cntN_snoc0] at h; exact h' h
          · rw [cntN_snoc _ _ (by omega)] at h
            simp [upd, show ¬ l = M[k] by omega] at h
            exact h' h
  exact key M.length (Nat.le_refl _) (by simpa using h)

/-- Is c, a number of l bits, a code of that length? (Where it isn't below the first one.) -/
def hitB (M : List Nat) (l c : Nat) : Bool := decide (c < firstN (cntN M) l + cntN M l)
/-- Where the symbol of the code c of length l stands. -/
def atC (M : List Nat) (l c : Nat) : Nat := ssum (cntN M) l + (c - firstN (cntN M) l)
/-- The symbol that has the code c of length l. -/
def symC (M : List Nat) (l c : Nat) : Nat := (ordN M M.length).getD (atC M l c) 0

theorem sym_of {M : List Nat} (h15 : ∀ x ∈ M, x ≤ 15) (l c : Nat) (hl : 0 < l) (h1 : firstN (cntN M) l ≤ c) (h2 : c < firstN (cntN M) l + cntN M l) :
    ∃ hs : symC M l c < M.length, M[symC M l c] = l ∧ codeN M (symC M l c) = c ∧ atC M l c < manyN M := by
  obtain ⟨i, hi, e1, e2⟩ := rank_ex M l (c - firstN (cntN M) l) hl (by omega)
  have hp : posN M i = atC M l c := by unfold posN atC; rw [getD_get M i hi, e1, e2]
  have hg := ordN_get h15 M.length i (Nat.le_refl _) hi (by omega)
  have hlt := posN_lt h15 i hi (by omega)
  rw [hp] at hg hlt
  have hs : symC M l c = i := by unfold symC; simp [hg]
  rw [hs]
  refine ⟨hi, e1, ?_, hlt⟩
  unfold codeN
  rw [getD_get M i hi, e1, if_neg (by omega), e2]
  omega
/-- Two symbols of one length with one code are one. -/
theorem code_inj {M : List Nat} (i j : Nat) (hi : i < M.length) (hj : j < M.length) (h0 : 0 < M[i]) (hl : M[i] = M[j]) (h : codeN M i = codeN M j) : i = j := by
  refine posN_inj i j hi hj h0 (by omega) ?_
  unfold codeN at h
  rw [getD_get M i hi, getD_get M j hj, if_neg (by omega), if_neg (by omega), hl] at h
  unfold posN
  rw [getD_get M i hi, getD_get M j hj, hl]
  omega
/-- A symbol's code is among those of its length. -/
theorem code_in {M : List Nat} (i : Nat) (hi : i < M.length) (h0 : 0 < M[i]) : firstN (cntN M) M[i] ≤ codeN M i ∧ codeN M i < firstN (cntN M) M[i] + cntN M M[i] := by
  have := count_take_lt M i hi h0
  unfold codeN
  rw [getD_get M i hi, if_neg (by omega)]
  omega
theorem sym_code {M : List Nat} (h15 : ∀ x ∈ M, x ≤ 15) (i : Nat) (hi : i < M.length) (h0 : 0 < M[i]) : symC M M[i] (codeN M i) = i := by
  obtain ⟨h1, h2⟩ := code_in i hi h0
  obtain ⟨hs, e1, e2, _⟩ := sym_of h15 M[i] (codeN M i) h0 h1 h2
  exact code_inj _ i hs hi (by omega) e1 e2

/-- The codes that are longer than l begin with numbers that are none of the shorter ones. -/
theorem prefix_ge {M : List Nat} (i l : Nat) (hi : i < M.length) (hl : l < M[i]) (h15 : M[i] ≤ 15) : firstN (cntN M) l + cntN M l ≤ codeN M i / 2 ^ (M[i] - l) := by
  obtain ⟨h1, _⟩ := code_in i hi (by omega)
  rw [Nat.le_div_iff_mul_le (Nat.pow_pos (by decide))]
  refine Nat.le_trans ?_ h1
  have e1 := first_cnt_sum (cntN M) l (by omega)
  have e2 := first_sum (cntN M) M[i] h15
  have e3 := rsum_mono (cntN M) (l + 1) M[i] (by omega)
  have hp : 2 ^ (M[i] - l) * 2 ^ (15 - M[i]) = 2 ^ (15 - l) := by rw [← Nat.pow_add, show M[i] - l + (15 - M[i]) = 15 - l by omega]
  refine Nat.le_of_mul_le_mul_right ?_ (Nat.pow_pos (n := 15 - M[i]) (show 0 < 2 by decide))
  rw [Nat.mul_assoc, hp, e1, e2]
  exact e3
theorem rsum_find (f : Nat → Nat) (n x a : Nat) (ha : rsum f a ≤ x) (hx : x < rsum f n) : ∃ l, a ≤ l ∧ l < n ∧ rsum f l ≤ x ∧ x < rsum f (l + 1) := by
  induction n with
  | zero => simp [rsum] at hx
  | succ n ih =>
    by_cases h : x < rsum f n
    · obtain ⟨l, h1, h2, h3⟩ := ih h
      exact ⟨l, h1, by omega, h3⟩
    · refine ⟨n, ?_, by omega, by omega, hx⟩
      by_cases hn : a ≤ n
      · exact hn
      · have := rsum_mono f (n + 1) a (by omega)
        omega
/-- Of a whole code: bits that are no code, and begin with none, are begun by a longer one. -/
theorem longer_ex {M : List Nat} (h15 : ∀ x ∈ M, x ≤ 15) (hr : roomN M = 32768) (l c : Nat) (hl : l ≤ 15) (h1 : firstN (cntN M) l + cntN M l ≤ c) (h2 : c < 2 ^ l) :
    ∃ i, ∃ hi : i < M.length, l < M[i] ∧ codeN M i / 2 ^ (M[i] - l) = c := by
  have e1 := first_cnt_sum (cntN M) l hl
  have hpl : 0 < 2 ^ (15 - l) := Nat.pow_pos (by decide)
  have hx1 : rsum (cntN M) (l + 1) ≤ c * 2 ^ (15 - l) := by rw [← e1]; exact Nat.mul_le_mul_right _ h1
  have hx2 : c * 2 ^ (15 - l) < rsum (cntN M) 16 := by
    rw [rsum_all M h15, hr]
    have : 2 ^ l * 2 ^ (15 - l) = 32768 := by rw [← Nat.pow_add, show l + (15 - l) = 15 by omega]
    rw [← this]
    exact Nat.mul_lt_mul_of_pos_right h2 hpl
  obtain ⟨m, m1, m2, m3, m4⟩ := rsum_find (cntN M) 16 _ _ hx1 hx2
  have f1 := first_sum (cntN M) m (by omega)
  have f2 := first_cnt_sum (cntN M) m (by omega)
  have hpm : 0 < 2 ^ (15 - m) := Nat.pow_pos (by decide)
  have g1 : firstN (cntN M) m ≤ c * 2 ^ (15 - l) / 2 ^ (15 - m) := by rw [Nat.le_div_iff_mul_le hpm, f1]; exact m3
  have g2 : c * 2 ^ (15 - l) / 2 ^ (15 - m) < firstN (cntN M) m + cntN M m := by rw [Nat.div_lt_iff_lt_mul hpm, f2]; exact m4
  obtain ⟨hs, s1, s2, _⟩ := sym_of h15 m _ (by omega) g1 g2
  refine ⟨_, hs, by omega, ?_⟩
  rw [s2, s1, Nat.div_div_eq_div_mul, ← Nat.pow_add, show 15 - m + (m - l) = 15 - l by omega]
  exact Nat.mul_div_cancel _ hpl
#print axioms longer_ex
end Go.Proofs.YthgnhcdodfildaaDoor
