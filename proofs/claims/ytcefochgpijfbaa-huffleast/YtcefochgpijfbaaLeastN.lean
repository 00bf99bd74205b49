/- Plain mathematics of package-merge, on: the lightest packages give lengths whose room is just that of a code. No Go text here. -/
import Derived.Test.YtcefochgpijfbaaLeastM
namespace Go.Proofs.Ytcefochgpijfbaa

/-- The worth of how many leaves each level takes, the last level first. -/
def valA : List Nat → Nat
  | [] => 0
  | a :: as => 2 ^ as.length * a + valA as
def occA (s : Nat) (L : List Pk) : List Nat → Nat
  | [] => 0
  | a :: as => occP s (L.take a) + occA s L as

/-- So many leaves of each level are among the m lightest of the last one. -/
theorem chain_ex {L : List Pk} (hu : UpP L) (hpos : ∀ p ∈ L, 0 < p.w) (k : Nat) : ∀ m, m ≤ (levP L k).length →
    ∃ a as, as.length = k ∧ (∀ c ∈ a :: as, c ≤ L.length) ∧ List.Pairwise (fun c d => d ≤ c) (a :: as) ∧ 2 ^ k * m = valA (a :: as) ∧ (∀ s, occP s ((levP L k).take m) = occA s L (a :: as)) ∧ ∀ t (ht : t < L.length), t < a → L[t] ∈ (levP L k).take m := by
  induction k with
  | zero =>
    intro m hm
    have hm0 : m ≤ L.length := hm
    refine ⟨m, [], rfl, by simpa using hm0, by simp, by simp [valA], fun s => by simp [occA, levP], fun t ht hta => ?_⟩
    show L[t] ∈ L.take m
    rw [List.mem_take_iff_getElem]
    exact ⟨t, by omega, rfl⟩
  | succ k ih =>
    intro m hm
    have hlen : (pairsP (levP L k)).length = (levP L k).length / 2 := pairsP_length _
    have hm' : m ≤ L.length + (pairsP (levP L k)).length := by
      have := mergeP_length L (pairsP (levP L k))
      show m ≤ _
      rw [← this]; exact hm
    obtain ⟨x, y, h1, h2, h3, h4, h5⟩ := merge_take L (pairsP (levP L k)) m hu hm'
    obtain ⟨a, as, i1, i2, i3, i4, i5, i6⟩ := ih (2 * y) (by omega)
    have hax : a ≤ x := by
      rcases Nat.lt_or_ge x a with hlt | h
      · exfalso
        have hxl : x < L.length := by have := i2 a (by simp); omega
        have hmem := i6 x hxl hlt
        rw [List.mem_take_iff_getElem] at hmem
        obtain ⟨i, hi, he⟩ := hmem
        have hil : i < (levP L k).length := by omega
        have hp : 2 * (i / 2) + 1 < (levP L k).length := by omega
        have hq := pairsP_get (levP L k) (i / 2) hp
        have hiy : i / 2 < y := by omega
        have hlt2 := h5 (i / 2) hiy (by omega) hxl
        have hge : (pairsP (levP L k))[i / 2] = ⟨(levP L k)[2 * (i / 2)].w + (levP L k)[2 * (i / 2) + 1].w, (levP L k)[2 * (i / 2)].s ++ (levP L k)[2 * (i / 2) + 1].s⟩ := by
          rw [List.getElem?_eq_getElem (by omega)] at hq
          exact Option.some.inj hq
        rw [hge] at hlt2
        have p1 := levP_pos hpos k _ (List.getElem_mem (show 2 * (i / 2) < (levP L k).length by omega))
        have p2 := levP_pos hpos k _ (List.getElem_mem hp)
        have hcase : i = 2 * (i / 2) ∨ i = 2 * (i / 2) + 1 := by omega
        have hew : (levP L k)[i].w = L[x].w := by rw [he]
        simp only at hlt2
        rcases hcase with e | e
        · have : (levP L k)[2 * (i / 2)].w = (levP L k)[i].w := by congr 2; exact e.symm
          omega
        · have : (levP L k)[2 * (i / 2) + 1].w = (levP L k)[i].w := by congr 2; exact e.symm
          omega
      · exact h
    refine ⟨x, a :: as, by simp [i1], ?_, ?_, ?_, ?_, ?_⟩
    · intro c hc
      rcases List.mem_cons.1 hc with rfl | hc
      · exact h2
      · exact i2 c hc
    · refine List.Pairwise.cons (fun c hc => ?_) i3
      rcases List.mem_cons.1 hc with rfl | hc
      · exact hax
      · exact Nat.le_trans ((List.pairwise_cons.1 i3).1 c hc) hax
    · show 2 ^ (k + 1) * m = 2 ^ (a :: as).length * x + valA (a :: as)
      rw [← i4, List.length_cons, i1, ← h1, Nat.pow_succ, Nat.mul_add, Nat.mul_assoc, Nat.mul_assoc]
    · intro s
      show occP s ((mergeP L (pairsP (levP L k))).take m) = occP s (L.take x) + occA s L (a :: as)
      rw [occP_perm s h4, occP_append, occP_pairs s _ y (by omega), i5 s]
    · intro t ht htx
      refine h4.mem_iff.2 (List.mem_append.2 (Or.inl ?_))
      rw [List.mem_take_iff_getElem]
      exact ⟨t, by omega, rfl⟩

/-- How many of as are above t. -/
def gtA (t : Nat) : List Nat → Nat
  | [] => 0
  | a :: as => (if t < a then 1 else 0) + gtA t as
theorem gtA_le (t : Nat) (as : List Nat) : gtA t as ≤ as.length := by
  induction as with
  | nil => simp [gtA]
  | cons a as ih => simp only [gtA, List.length_cons]; split <;> omega
theorem gtA_none (t : Nat) (as : List Nat) (h : ∀ c ∈ as, c ≤ t) : gtA t as = 0 := by
  induction as with
  | nil => rfl
  | cons a as ih =>
    have h1 := h a (by simp)
    simp only [gtA, ih (fun c hc => h c (by simp [hc])), if_neg (show ¬ t < a by omega)]
theorem ssum_congr (f g : Nat → Nat) (n : Nat) (h : ∀ i, i < n → f i = g i) : ssum f n = ssum g n := by
  induction n with
  | zero => rfl
  | succ n ih => show ssum f n + f n = ssum g n + g n; rw [ih (fun i hi => h i (by omega)), h n (by omega)]
theorem ssum_const_split (n a c : Nat) (f : Nat → Nat) (h : a ≤ n) : ssum (fun t => f t + if t < a then 0 else c) n + a * c = ssum f n + n * c := by
  induction n with
  | zero => have : a = 0 := by omega
            subst this; simp [ssum]
  | succ n ih =>
    show ssum _ n + (f n + if n < a then 0 else c) + a * c = ssum f n + f n + (n + 1) * c
    rw [Nat.add_mul, Nat.one_mul]
    by_cases e : a = n + 1
    · subst e
      rw [if_pos (by omega), ssum_congr _ f n (fun i hi => by rw [if_pos (by omega)]; rfl), Nat.add_mul, Nat.one_mul]
      omega
    · have := ih (by omega)
      rw [if_neg (by omega)]
      omega
theorem kraft_val : ∀ (as : List Nat) (n : Nat), List.Pairwise (fun c d => d ≤ c) as → (∀ c ∈ as, c ≤ n) → ssum (fun t => 2 ^ (as.length - gtA t as)) n + valA as = n * 2 ^ as.length
  | [], n, _, _ => by
    show ssum (fun _ => 1) n + 0 = n * 1
    have : ∀ n, ssum (fun _ => 1) n = n := by
      intro n
      induction n with
      | zero => rfl
      | succ n ih => show ssum _ n + 1 = n + 1; rw [ih]
    rw [this]; omega
  | a :: as, n, hp, hn => by
    have ih := kraft_val as n (List.pairwise_cons.1 hp).2 (fun c hc => hn c (by simp [hc]))
    have ha := hn a (by simp)
    have hle := (List.pairwise_cons.1 hp).1
    have e : ssum (fun t => 2 ^ ((a :: as).length - gtA t (a :: as))) n = ssum (fun t => 2 ^ (as.length - gtA t as) + if t < a then 0 else 2 ^ as.length) n := by
      refine ssum_congr _ _ _ fun t ht => ?_
      show 2 ^ (as.length + 1 - ((if t < a then 1 else 0) + gtA t as)) = _
      by_cases hta : t < a
      · rw [if_pos hta, if_pos hta, show as.length + 1 - (1 + gtA t as) = as.length - gtA t as by omega]
        rfl
      · have h0 := gtA_none t as (fun c hc => by have := hle c hc; omega)
        rw [if_neg hta, if_neg hta, h0, Nat.zero_add, Nat.sub_zero, Nat.sub_zero, Nat.pow_succ]
        omega
    rw [e]
    have hs := ssum_const_split n a (2 ^ as.length) (fun t => 2 ^ (as.length - gtA t as)) ha
    show _ + (2 ^ as.length * a + valA as) = n * 2 ^ (as.length + 1)
    rw [Nat.pow_succ, Nat.mul_comm (2 ^ as.length) a]
    have : n * (2 ^ as.length * 2) = n * 2 ^ as.length + n * 2 ^ as.length := by rw [← Nat.mul_assoc]; omega
    omega

/-- The last level has at least so many packages. -/
theorem levP_len (L : List Pk) (k : Nat) : 2 * L.length ≤ (levP L k).length + (L.length + 2 ^ k - 1) / 2 ^ k ∧ L.length ≤ (levP L k).length := by
  induction k with
  | zero => simp [levP]; omega
  | succ k ih =>
    obtain ⟨h1, h2⟩ := ih
    have e : (levP L (k + 1)).length = L.length + (levP L k).length / 2 := by
      show (mergeP L (pairsP (levP L k))).length = _
      rw [mergeP_length, pairsP_length]
    have hp : 0 < 2 ^ k := Nat.pow_pos (by decide)
    have hd : (L.length + 2 ^ (k + 1) - 1) / 2 ^ (k + 1) = ((L.length + 2 ^ k - 1) / 2 ^ k + 1) / 2 := by
      rw [Nat.pow_succ, ← Nat.div_div_eq_div_mul]
      congr 1
      have : L.length + 2 ^ k * 2 - 1 = (L.length + 2 ^ k - 1) + 2 ^ k := by omega
      rw [this, Nat.add_div_right _ hp]
    rw [e, hd]
    omega
theorem enough (L : List Pk) (k : Nat) (h : L.length ≤ 2 ^ (k + 1)) : 2 * L.length - 2 ≤ (levP L k).length := by
  have h1 := (levP_len L k).1
  have hp : 0 < 2 ^ k := Nat.pow_pos (by decide)
  have h2 : (L.length + 2 ^ k - 1) / 2 ^ k ≤ 2 := by
    rw [Nat.pow_succ] at h
    have : L.length + 2 ^ k - 1 < 3 * 2 ^ k := by omega
    have := (Nat.div_lt_iff_lt_mul hp).2 this
    omega
  omega
#print axioms chain_ex
#print axioms kraft_val
end Go.Proofs.Ytcefochgpijfbaa
