/- Plain mathematics of package-merge: packages in order, the lightest of them, and the room of the lengths that they give. No Go text here. -/
import Derived.Test.YtcefochgpijfbaaCod
namespace Go.Proofs.Ytcefochgpijfbaa

/-- A package: its weight, its symbols. -/
structure Pk where
  w : Nat
  s : List Nat

/-- Two lists in order as one; of equal ones that of a comes first. -/
def mergeP : List Pk → List Pk → List Pk
  | [], b => b
  | a :: as, [] => a :: as
  | a :: as, b :: bs => if b.w < a.w then b :: mergeP (a :: as) bs else a :: mergeP as (b :: bs)
termination_by a b => a.length + b.length
/-- Each two neighbours as one package; a last one alone falls away. -/
def pairsP : List Pk → List Pk
  | a :: b :: l => ⟨a.w + b.w, a.s ++ b.s⟩ :: pairsP l
  | _ => []
/-- The packages of each level. -/
def levP (L : List Pk) : Nat → List Pk
  | 0 => L
  | k + 1 => mergeP L (pairsP (levP L k))

/-- A list is in order. -/
def UpP (L : List Pk) : Prop := ∀ i j (_ : i ≤ j) (hj : j < L.length), L[i].w ≤ L[j].w

/-- The same of weights alone. -/
def mergeW : List Nat → List Nat → List Nat
  | [], b => b
  | a :: as, [] => a :: as
  | a :: as, b :: bs => if b < a then b :: mergeW (a :: as) bs else a :: mergeW as (b :: bs)
termination_by a b => a.length + b.length
def pairsW : List Nat → List Nat
  | a :: b :: l => (a + b) :: pairsW l
  | _ => []
def levW (L : List Nat) : Nat → List Nat
  | 0 => L
  | k + 1 => mergeW L (pairsW (levW L k))
def wts (L : List Pk) : List Nat := L.map Pk.w
theorem wts_merge : ∀ (a b : List Pk), wts (mergeP a b) = mergeW (wts a) (wts b)
  | [], b => by simp [mergeP, mergeW, wts]
  | a :: as, [] => by simp [mergeP, mergeW, wts]
  | a :: as, b :: bs => by
    have h1 := wts_merge (a :: as) bs
    have h2 := wts_merge as (b :: bs)
    unfold wts at *
    rw [mergeP]
    simp only [List.map_cons] at *
    rw [mergeW]
    split
    · simp only [List.map_cons, h1]
    · simp only [List.map_cons, h2]
termination_by a b => a.length + b.length
theorem wts_pairs : ∀ (l : List Pk), wts (pairsP l) = pairsW (wts l)
  | [] => rfl
  | [_] => rfl
  | a :: b :: l => by
    have := wts_pairs l
    unfold wts at *
    simp only [pairsP, List.map_cons, pairsW, this]
theorem wts_lev (L : List Pk) (k : Nat) : wts (levP L k) = levW (wts L) k := by
  induction k with
  | zero => rfl
  | succ k ih => rw [levP, levW, wts_merge, wts_pairs, ih]

theorem mergeP_length : ∀ (a b : List Pk), (mergeP a b).length = a.length + b.length
  | [], b => by simp [mergeP]
  | a :: as, [] => by simp [mergeP]
  | a :: as, b :: bs => by
    have h1 := mergeP_length (a :: as) bs
    have h2 := mergeP_length as (b :: bs)
    rw [mergeP]
    split
    · simp only [List.length_cons] at *; omega
    · simp only [List.length_cons] at *; omega
termination_by a b => a.length + b.length
theorem pairsP_length : ∀ (l : List Pk), (pairsP l).length = l.length / 2
  | [] => rfl
  | [_] => by simp [pairsP]
  | a :: b :: l => by
    have := pairsP_length l
    simp only [pairsP, List.length_cons, this]
    omega
theorem pairsP_get : ∀ (l : List Pk) (i : Nat) (h : 2 * i + 1 < l.length), (pairsP l)[i]? = some ⟨l[2 * i].w + l[2 * i + 1].w, l[2 * i].s ++ l[2 * i + 1].s⟩
  | [], i, h => by simp at h
  | [_], i, h => by simp at h
  | a :: b :: l, 0, _ => by simp [pairsP]
  | a :: b :: l, i + 1, h => by
    have := pairsP_get l i (by simp at h; omega)
    simp only [pairsP, List.getElem?_cons_succ, this]
    have e1 : 2 * (i + 1) = 2 * i + 1 + 1 := by omega
    simp only [e1, List.getElem_cons_succ]

/-- The lightest of two lists that are in order: so many of the one, so many of the other; and each of the other is lighter than the next one of the first. -/
theorem merge_take : ∀ (a b : List Pk) (m : Nat), UpP a → m ≤ a.length + b.length → ∃ x y, x + y = m ∧ x ≤ a.length ∧ y ≤ b.length ∧ List.Perm ((mergeP a b).take m) (a.take x ++ b.take y) ∧ ∀ i (_ : i < y) (hb : i < b.length) (hx : x < a.length), b[i].w < a[x].w
  | [], b, m, _, hm => ⟨0, m, by omega, by simp, by simpa using hm, by simp [mergeP], fun i _ _ hx => by simp at hx⟩
  | a :: as, [], m, _, hm => ⟨m, 0, by omega, by simpa using hm, by simp, by simp [mergeP], fun i hi => by omega⟩
  | a :: as, b :: bs, 0, _, _ => ⟨0, 0, rfl, by simp, by simp, by simp, fun i hi => by omega⟩
  | a :: as, b :: bs, m + 1, hu, hm => by
    rw [mergeP]
    by_cases hlt : b.w < a.w
    · rw [if_pos hlt]
      obtain ⟨x, y, h1, h2, h3, h4, h5⟩ := merge_take (a :: as) bs m hu (by simp at hm ⊢; omega)
      refine ⟨x, y + 1, by omega, h2, by simp; omega, ?_, ?_⟩
      · rw [List.take_succ_cons, List.take_succ_cons]
        exact (h4.cons b).trans List.perm_middle.symm
      · intro i hi hb hx
        match i with
        | 0 =>
          have := hu 0 x (by omega) hx
          simp only [List.getElem_cons_zero] at this ⊢
          omega
        | i + 1 => exact h5 i (by omega) (by simpa using hb) hx
    · rw [if_neg hlt]
      obtain ⟨x, y, h1, h2, h3, h4, h5⟩ := merge_take as (b :: bs) m (fun i j hij hj => by
        have := hu (i + 1) (j + 1) (by omega) (by simpa using hj)
        simpa using this) (by simp at hm ⊢; omega)
      refine ⟨x + 1, y, by omega, by simp; omega, h3, ?_, ?_⟩
      · rw [List.take_succ_cons, List.take_succ_cons]
        exact h4.cons a
      · intro i hi hb hx
        have := h5 i hi hb (by simpa using hx)
        simpa using this
termination_by a b => a.length + b.length

/-- How often symbol s stands in packages. -/
def occP (s : Nat) : List Pk → Nat
  | [] => 0
  | p :: l => p.s.count s + occP s l
theorem occP_append (s : Nat) (a b : List Pk) : occP s (a ++ b) = occP s a + occP s b := by
  induction a with
  | nil => simp [occP]
  | cons p a ih => simp only [List.cons_append, occP, ih]; omega
theorem occP_perm (s : Nat) {a b : List Pk} (h : a.Perm b) : occP s a = occP s b := by
  induction h with
  | nil => rfl
  | cons x _ ih => simp only [occP, ih]
  | swap x y l => simp only [occP]; omega
  | trans _ _ h1 h2 => omega
theorem occP_pairs (s : Nat) : ∀ (l : List Pk) (y : Nat), 2 * y ≤ l.length → occP s ((pairsP l).take y) = occP s (l.take (2 * y))
  | _, 0, _ => by simp [occP]
  | [], y + 1, h => by simp at h
  | [_], y + 1, h => by simp at h; omega
  | a :: b :: l, y + 1, h => by
    have := occP_pairs s l y (by simp at h; omega)
    rw [show 2 * (y + 1) = 2 * y + 1 + 1 by omega]
    simp only [pairsP, List.take_succ_cons, occP, this, List.count_append]
    omega
/-- The sum of weights. -/
def sumW : List Nat → Nat
  | [] => 0
  | x :: l => x + sumW l

theorem levP_pos {L : List Pk} (h : ∀ p ∈ L, 0 < p.w) (k : Nat) : ∀ p ∈ levP L k, 0 < p.w := by
  have mem_merge : ∀ (a b : List Pk) (p : Pk), p ∈ mergeP a b → p ∈ a ∨ p ∈ b := by
    intro a b
    induction a, b using mergeP.induct with
    | case1 b => intro p hp; simp [mergeP] at hp; exact Or.inr hp
    | case2 a as => intro p hp; simp [mergeP] at hp; exact Or.inl (by simpa using hp)
    | case3 a as b bs hlt ih =>
      intro p hp
      rw [mergeP, if_pos hlt] at hp
      rcases List.mem_cons.1 hp with rfl | hp
      · exact Or.inr (by simp)
      · rcases ih p hp with h | h
        · exact Or.inl h
        · exact Or.inr (by simp [h])
    | case4 a as b bs hlt ih =>
      intro p hp
      rw [mergeP, if_neg hlt] at hp
      rcases List.mem_cons.1 hp with rfl | hp
      · exact Or.inl (by simp)
      · rcases ih p hp with h | h
        · exact Or.inl (by simp [h])
        · exact Or.inr h
  have mem_pairs : ∀ (l : List Pk), (∀ p ∈ l, 0 < p.w) → ∀ p ∈ pairsP l, 0 < p.w := by
    intro l
    induction l using pairsP.induct with
    | case1 a b l ih =>
      intro hl p hp
      simp only [pairsP] at hp
      rcases List.mem_cons.1 hp with rfl | hp
      · have := hl a (by simp); show 0 < a.w + b.w; omega
      · exact ih (fun q hq => hl q (by simp [hq])) p hp
    | case2 l hl0 =>
      intro hl p hp
      unfold pairsP at hp
      split at hp
      · rename_i a b l'; exact absurd rfl (hl0 a b l')
      · simp at hp
  induction k with
  | zero => exact h
  | succ k ih =>
    intro p hp
    rcases mem_merge _ _ p hp with hp | hp
    · exact h p hp
    · exact mem_pairs _ ih p hp
#print axioms levP_pos
end Go.Proofs.Ytcefochgpijfbaa
