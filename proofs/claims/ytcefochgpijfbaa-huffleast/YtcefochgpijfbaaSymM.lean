/- Plain mathematics of the symmetric merge. No Go text here. -/
import Derived.Test.YtcefochgpijfbaaRot
namespace Go.Proofs.Ytcefochgpijfbaa

theorem SortP.one (D : List PV) (a b : Nat) (h : b ≤ a + 1) : SortP D a b := fun i j h1 h2 h3 => by
  rw [show i = j by omega]
  exact Nat.le_refl _
theorem SortP.sub {D : List PV} {a b a' b' : Nat} (h : SortP D a b) (ha : a ≤ a') (hb : b' ≤ b) : SortP D a' b' := fun i j h1 h2 h3 => h i j (by omega) h2 (by omega)

/-- Where the first goes: its place i in m .. b. -/
def FindA (D : List PV) (a m b i j : Nat) : Prop := m ≤ i ∧ i ≤ j ∧ j ≤ b ∧ (m < i → (at_ D (i - 1)).1 < (at_ D a).1) ∧ (j < b → (at_ D a).1 ≤ (at_ D j).1)
/-- The first, on its way to place k. -/
def MoveA (D E : List PV) (a k : Nat) : Prop := ∀ t, at_ E t = if a ≤ t ∧ t < k then at_ D (t + 1) else if t = k then at_ D a else at_ D t
theorem MoveA.start (D : List PV) (a : Nat) : MoveA D D a a := fun t => by
  rw [if_neg (by omega)]
  by_cases e : t = a
  · rw [if_pos e, e]
  · rw [if_neg e]
theorem MoveA.step {D E : List PV} {a k : Nat} (h : MoveA D E a k) (ha : a ≤ k) (hk : k + 1 < E.length) : MoveA D (swp E k (k + 1)) a (k + 1) := fun t => by
  rw [at_swp E _ _ t (by omega) hk]
  by_cases e1 : t = k + 1
  · rw [if_pos e1, if_neg (by omega), if_pos e1, h k, if_neg (by omega), if_pos rfl]
  · rw [if_neg e1]
    by_cases e2 : t = k
    · rw [if_pos e2, if_pos (by omega), h (k + 1), if_neg (by omega), if_neg (by omega), e2]
    · rw [if_neg e2, h t]
      by_cases e3 : a ≤ t ∧ t < k
      · rw [if_pos e3, if_pos (by omega)]
      · rw [if_neg e3, if_neg e2, if_neg (by omega), if_neg e1]
theorem MoveA.sorted {D E : List PV} {a b i k : Nat} (h : MoveA D E a k) (hs : SortP D (a + 1) b) (hf : FindA D a (a + 1) b i i) (hk : k + 1 = i) : SortP E a b := by
  obtain ⟨h1, h2, h3, h4, h5⟩ := hf
  intro p q hp hpq hq
  rw [h p, h q]
  by_cases p1 : a ≤ p ∧ p < k
  · rw [if_pos p1]
    by_cases q1 : a ≤ q ∧ q < k
    · rw [if_pos q1]; exact hs _ _ (by omega) (by omega) (by omega)
    · rw [if_neg q1]
      by_cases q2 : q = k
      · rw [if_pos q2]
        have := h4 (by omega)
        exact Nat.le_trans (hs (p + 1) (i - 1) (by omega) (by omega) (by omega)) (by omega)
      · rw [if_neg q2]; exact hs _ _ (by omega) (by omega) (by omega)
  · rw [if_neg p1, if_neg (show ¬ (a ≤ q ∧ q < k) by omega)]
    by_cases p2 : p = k
    · rw [if_pos p2]
      by_cases q2 : q = k
      · rw [if_pos q2]; exact Nat.le_refl _
      · rw [if_neg q2]; exact Nat.le_trans (h5 (by omega)) (hs i q (by omega) (by omega) hq)
    · rw [if_neg p2, if_neg (show ¬ q = k by omega)]
      exact hs _ _ (by omega) hpq hq

/-- Where the last goes: its place i in a .. m. -/
def FindB (D : List PV) (a m i j : Nat) : Prop := a ≤ i ∧ i ≤ j ∧ j ≤ m ∧ (a < i → (at_ D (i - 1)).1 ≤ (at_ D m).1) ∧ (j < m → (at_ D m).1 < (at_ D j).1)
/-- The last, on its way down to place k. -/
def MoveB (D E : List PV) (m k : Nat) : Prop := ∀ t, at_ E t = if k < t ∧ t ≤ m then at_ D (t - 1) else if t = k then at_ D m else at_ D t
theorem MoveB.start (D : List PV) (m : Nat) : MoveB D D m m := fun t => by
  rw [if_neg (by omega)]
  by_cases e : t = m
  · rw [if_pos e, e]
  · rw [if_neg e]
theorem MoveB.step {D E : List PV} {m k : Nat} (h : MoveB D E m (k + 1)) (hk : k + 1 ≤ m) (hl : k + 1 < E.length) : MoveB D (swp E (k + 1) k) m k := fun t => by
  rw [at_swp E _ _ t hl (by omega)]
  by_cases e1 : t = k
  · rw [if_pos e1, if_neg (by omega), if_pos e1, h (k + 1), if_neg (by omega), if_pos rfl]
  · rw [if_neg e1]
    by_cases e2 : t = k + 1
    · rw [if_pos e2, if_pos (by omega), h k, if_neg (by omega), if_neg (by omega), e2]; rfl
    · rw [if_neg e2, h t]
      by_cases e3 : k + 1 < t ∧ t ≤ m
      · rw [if_pos e3, if_pos (by omega)]
      · rw [if_neg e3, if_neg e2, if_neg (by omega), if_neg e1]
theorem MoveB.sorted {D E : List PV} {a m i : Nat} (h : MoveB D E m i) (hs : SortP D a m) (hf : FindB D a m i i) : SortP E a (m + 1) := by
  obtain ⟨h1, h2, h3, h4, h5⟩ := hf
  intro p q hp hpq hq
  rw [h p, h q]
  by_cases q1 : i < q ∧ q ≤ m
  · rw [if_pos q1]
    by_cases p1 : i < p ∧ p ≤ m
    · rw [if_pos p1]; exact hs _ _ (by omega) (by omega) (by omega)
    · rw [if_neg p1]
      by_cases p2 : p = i
      · rw [if_pos p2]
        have := h5 (by omega)
        exact Nat.le_trans (by omega) (hs i (q - 1) (by omega) (by omega) (by omega))
      · rw [if_neg p2]; exact hs _ _ hp (by omega) (by omega)
  · rw [if_neg q1, if_neg (show ¬ (i < p ∧ p ≤ m) by omega)]
    by_cases q2 : q = i
    · rw [if_pos q2]
      by_cases p2 : p = i
      · rw [if_pos p2]; exact Nat.le_refl _
      · rw [if_neg p2]; exact Nat.le_trans (hs p (i - 1) hp (by omega) (by omega)) (h4 (by omega))
    · rw [if_neg q2, if_neg (show ¬ p = i by omega)]
      exact hs _ _ hp hpq (by omega)

/-- Where the halves are cut. -/
def FindC (D : List PV) (lo hi n s r : Nat) : Prop := lo ≤ s ∧ s ≤ r ∧ r ≤ hi ∧ (lo < s → (at_ D (s - 1)).1 ≤ (at_ D (n - s)).1) ∧ (r < hi → (at_ D (n - 1 - r)).1 < (at_ D r).1)
/-- What the two halves are, once turned. -/
theorem cut_sorted {D E : List PV} {a m b mid s lo hi : Nat} (h1 : SortP D a m) (h2 : SortP D m b) (ham : a < m) (hmb : m < b) (hmid : mid = (a + b) / 2)
    (hlh : mid < m ∧ lo = mid + m - b ∧ hi = mid ∨ m ≤ mid ∧ lo = a ∧ hi = m) (hf : FindC D lo hi (mid + m) s s) (hE : ∀ t, at_ E t = at_ D (rho s m (mid + m - s) t)) :
    a ≤ s ∧ s ≤ m ∧ s ≤ mid ∧ m ≤ mid + m - s ∧ mid ≤ mid + m - s ∧ mid + m - s ≤ b ∧ SortP E a s ∧ SortP E s mid ∧ SortP E mid (mid + m - s) ∧ SortP E (mid + m - s) b ∧ ∀ i j, a ≤ i → i < mid → mid ≤ j → j < b → (at_ E i).1 ≤ (at_ E j).1 := by
  obtain ⟨f1, f2, f3, f4, f5⟩ := hf
  have b1 : a ≤ s := by omega
  have b2 : s ≤ m := by omega
  have b3 : s ≤ mid := by omega
  have b4 : mid + m - s ≤ b := by omega
  have r1 : ∀ t, t < s → at_ E t = at_ D t := fun t ht => by rw [hE]; unfold rho; rw [if_neg (by omega), if_neg (by omega)]
  have r2 : ∀ t, s ≤ t → t < mid → at_ E t = at_ D (t - s + m) := fun t h3 h4 => by rw [hE]; unfold rho; rw [if_pos (by omega)]
  have r3 : ∀ t, mid ≤ t → t < mid + m - s → at_ E t = at_ D (t + s - mid) := fun t h3 h4 => by
    rw [hE]; unfold rho; rw [if_neg (by omega), if_pos (by omega)]; congr 1; omega
  have r4 : ∀ t, mid + m - s ≤ t → at_ E t = at_ D t := fun t ht => by rw [hE]; unfold rho; rw [if_neg (by omega), if_neg (by omega)]
  refine ⟨b1, b2, b3, by omega, by omega, b4, ?_, ?_, ?_, ?_, ?_⟩
  · intro i j h3 h4 h5
    rw [r1 i (by omega), r1 j (by omega)]; exact h1 i j h3 h4 (by omega)
  · intro i j h3 h4 h5
    rw [r2 i h3 (by omega), r2 j (by omega) h5]; exact h2 _ _ (by omega) (by omega) (by omega)
  · intro i j h3 h4 h5
    rw [r3 i h3 (by omega), r3 j (by omega) h5]; exact h1 _ _ (by omega) (by omega) (by omega)
  · intro i j h3 h4 h5
    rw [r4 i h3, r4 j (by omega)]; exact h2 _ _ (by omega) h4 h5
  · intro i j h3 h4 h5 h6
    by_cases c1 : i < s
    · rw [r1 i c1]
      by_cases c2 : j < mid + m - s
      · rw [r3 j h5 c2]; exact h1 _ _ h3 (by omega) (by omega)
      · rw [r4 j (by omega)]
        have := f4 (by omega)
        exact Nat.le_trans (h1 i (s - 1) h3 (by omega) (by omega)) (Nat.le_trans this (h2 (mid + m - s) j (by omega) (by omega) h6))
    · rw [r2 i (by omega) h4]
      by_cases c2 : j < mid + m - s
      · rw [r3 j h5 c2]
        have := f5 (by omega)
        rw [show mid + m - 1 - s = mid + m - s - 1 by omega] at this
        exact Nat.le_trans (h2 (i - s + m) (mid + m - s - 1) (by omega) (by omega) (by omega)) (Nat.le_trans (Nat.le_of_lt this) (h1 s (j + s - mid) (by omega) (by omega) (by omega)))
      · rw [r4 j (by omega)]
        exact h2 _ _ (by omega) (by omega) h6
/-- Both halves in order, and the one before the other: all in order. -/
theorem halves_sorted {F G H : List PV} {a mid b : Nat} (ham : a ≤ mid) (hmb : mid ≤ b) (hc : ∀ i j, a ≤ i → i < mid → mid ≤ j → j < b → (at_ F i).1 ≤ (at_ F j).1)
    (h1 : Like a mid F G) (s1 : SortP G a mid) (h2 : Like mid b G H) (s2 : SortP H mid b) : Like a b F H ∧ SortP H a b := by
  refine ⟨(h1.mono (Nat.le_refl _) hmb).trans (h2.mono ham (Nat.le_refl _)), fun i j h3 h4 h5 => ?_⟩
  by_cases c1 : i < mid
  · by_cases c2 : j < mid
    · rw [h2.out i (Or.inl c1), h2.out j (Or.inl c2)]; exact s1 i j h3 h4 c2
    · have q1 := h1.all (fun p => ∀ j, mid ≤ j → j < b → p.1 ≤ (at_ F j).1) (fun t t1 t2 j j1 j2 => hc t j t1 t2 j1 j2) i h3 c1
      rw [h2.out i (Or.inl c1)]
      exact h2.all (fun p => (at_ G i).1 ≤ p.1) (fun t t1 t2 => by rw [h1.out t (Or.inr t1)]; exact q1 t t1 t2) j (by omega) h5
  · exact s2 i j (by omega) h4 h5
theorem rho_none (a m b t : Nat) (h : a = m ∨ m = b) : rho a m b t = t := by
  unfold rho
  by_cases h1 : a ≤ t ∧ t < a + (b - m)
  · rw [if_pos h1]; omega
  · rw [if_neg h1]
    by_cases h2 : a + (b - m) ≤ t ∧ t < b
    · rw [if_pos h2]; omega
    · rw [if_neg h2]
#print axioms cut_sorted
#print axioms halves_sorted
end Go.Proofs.Ytcefochgpijfbaa
