/- Plain mathematics of the document's Least: coins in order, merged lists. No Go text here. -/
import Derived.Test.YtcefochgpijfbaaLeastO
namespace Go.Proofs.Ytcefochgpijfbaa

theorem put_perm (l : List Nat) (x k : Nat) : (l.take k ++ x :: l.drop k).Perm (x :: l) := by
  have h : (l.take k ++ x :: l.drop k).Perm (x :: (l.take k ++ l.drop k)) := List.perm_middle
  rwa [List.take_append_drop] at h
theorem put_sorted (l : List Nat) (x k : Nat) (hs : l.Pairwise (· ≤ ·)) (h1 : ∀ j (h : j < l.length), j < k → l[j] ≤ x) (h2 : ∀ h : k < l.length, x < l[k]) : (l.take k ++ x :: l.drop k).Pairwise (· ≤ ·) := by
  have e := List.take_append_drop k l
  rw [← e, List.pairwise_append] at hs
  obtain ⟨a, b, c⟩ := hs
  have ht : ∀ y ∈ l.take k, y ≤ x := by
    intro y hy
    obtain ⟨j, hj, rfl⟩ := List.getElem_of_mem hy
    rw [List.getElem_take]
    simp at hj
    exact h1 j (by omega) (by omega)
  have hd : ∀ y ∈ l.drop k, x ≤ y := by
    intro y hy
    have hk : k < l.length := by
      rcases Nat.lt_or_ge k l.length with h | h
      · exact h
      · rw [List.drop_of_length_le h] at hy; cases hy
    rw [List.drop_eq_getElem_cons hk] at hy b
    have hx := h2 hk
    rcases List.mem_cons.1 hy with rfl | hy
    · omega
    · have := (List.pairwise_cons.1 b).1 y hy
      omega
  rw [List.pairwise_append, List.pairwise_cons]
  refine ⟨a, ⟨hd, b⟩, fun p hp q hq => ?_⟩
  rcases List.mem_cons.1 hq with rfl | hq
  · exact ht p hp
  · exact c p hp q hq
theorem wts_leaves (C : List Nat) : ∀ i, wts (leavesP i C) = C.filter (fun c => decide (0 < c)) := by
  induction C with
  | nil => intro i; simp [leavesP, wts]
  | cons c C ih =>
    intro i
    have := ih (i + 1)
    unfold wts at *
    unfold leavesP
    by_cases h : 0 < c
    · rw [if_pos h]; simp [h, this]
    · rw [if_neg h]; simp [h, this]
theorem up_sorted {L : List Pk} (h : UpP L) : (wts L).Pairwise (· ≤ ·) := by
  rw [List.pairwise_iff_getElem]
  intro i j hi hj hij
  simp only [wts, List.getElem_map]
  simp only [wts, List.length_map] at hj
  exact h i j (by omega) hj
/-- The document's coins are the weights of the leaves in order. -/
theorem coins_wts {C : List Nat} {L : List Pk} {K : List Nat} (h : LeafOk C L) (hs : K.Pairwise (· ≤ ·)) (hp : K.Perm (C.filter (fun c => decide (0 < c)))) : K = wts L := by
  refine List.Perm.eq_of_pairwise (le := fun a b : Nat => a ≤ b) (fun a b _ _ h1 h2 => Nat.le_antisymm h1 h2) hs (up_sorted h.up) ?_
  refine hp.trans ?_
  rw [← wts_leaves C 0]
  unfold wts
  exact (h.perm.map Pk.w).symm
theorem mergeW_nil (a : List Nat) : mergeW a [] = a := by cases a <;> simp [mergeW]
theorem mergeW_left (a : List Nat) (x y : Nat) (b : List Nat) (h : y < x) : mergeW (x :: a) (y :: b) = y :: mergeW (x :: a) b := by rw [mergeW, if_pos h]
theorem mergeW_right (a : List Nat) (x : Nat) (b : List Nat) (h : ∀ y, b.head? = some y → ¬ y < x) : mergeW (x :: a) b = x :: mergeW a b := by
  cases b with
  | nil => rw [mergeW_nil, mergeW_nil]
  | cons y b => rw [mergeW, if_neg (h y rfl)]
theorem mergeW_step (a b : List Nat) (k i : Nat) (hk : k < a.length) (hi : i < b.length) (h : b[i] < a[k]) : mergeW (a.drop k) (b.drop i) = b[i] :: mergeW (a.drop k) (b.drop (i + 1)) := by
  rw [List.drop_eq_getElem_cons hk, List.drop_eq_getElem_cons hi, mergeW_left _ _ _ _ h]
theorem mergeW_take (a b : List Nat) (k i : Nat) (hk : k < a.length) (h : ∀ hi : i < b.length, ¬ b[i] < a[k]) : mergeW (a.drop k) (b.drop i) = a[k] :: mergeW (a.drop (k + 1)) (b.drop i) := by
  rw [List.drop_eq_getElem_cons hk]
  refine mergeW_right _ _ _ (fun y hy => ?_)
  rw [List.head?_drop] at hy
  obtain ⟨hi, rfl⟩ := List.getElem?_eq_some_iff.1 hy
  exact h hi
theorem mergeW_len : ∀ (a b : List Nat), (mergeW a b).length = a.length + b.length
  | [], b => by simp [mergeW]
  | a :: as, [] => by simp [mergeW]
  | a :: as, b :: bs => by
    rw [mergeW]
    have h1 := mergeW_len (a :: as) bs
    have h2 := mergeW_len as (b :: bs)
    split
    · simp only [List.length_cons] at *; omega
    · simp only [List.length_cons] at *; omega
termination_by a b => a.length + b.length
theorem pairsW_step (l : List Nat) (i : Nat) (h : i + 1 < l.length) : pairsW (l.drop i) = (l[i] + l[i + 1]) :: pairsW (l.drop (i + 2)) := by
  rw [List.drop_eq_getElem_cons (by omega : i < l.length), List.drop_eq_getElem_cons h, pairsW]
theorem pairsW_stop (l : List Nat) (i : Nat) (h : l.length ≤ i + 1) : pairsW (l.drop i) = [] := by
  match hd : l.drop i with
  | [] => rfl
  | [_] => rfl
  | a :: b :: r =>
    have := congrArg List.length hd
    simp at this
    omega
theorem pairsW_len : ∀ l : List Nat, (pairsW l).length = l.length / 2
  | [] => rfl
  | [_] => by simp [pairsW]
  | a :: b :: l => by
    have := pairsW_len l
    simp only [pairsW, List.length_cons]
    omega
theorem levW_len (L : List Nat) (k : Nat) : (levW L k).length ≤ 2 * L.length := by
  induction k with
  | zero => simp only [levW]; omega
  | succ k ih => simp only [levW, mergeW_len, pairsW_len]; omega
theorem mergeW_mem : ∀ (a b : List Nat) (x : Nat), x ∈ mergeW a b → x ∈ a ∨ x ∈ b
  | [], b, x => by simp [mergeW]
  | a :: as, [], x => by simp [mergeW]
  | a :: as, b :: bs, x => by
    have h1 := mergeW_mem (a :: as) bs x
    have h2 := mergeW_mem as (b :: bs) x
    rw [mergeW]
    split
    · intro h
      rcases List.mem_cons.1 h with rfl | h
      · simp
      · rcases h1 h with h | h
        · exact Or.inl h
        · exact Or.inr (List.mem_cons_of_mem _ h)
    · intro h
      rcases List.mem_cons.1 h with rfl | h
      · simp
      · rcases h2 h with h | h
        · exact Or.inl (List.mem_cons_of_mem _ h)
        · exact Or.inr h
termination_by a b => a.length + b.length
theorem pairsW_mem (m : Nat) : ∀ (l : List Nat), (∀ x ∈ l, x ≤ m) → ∀ x ∈ pairsW l, x ≤ 2 * m
  | [], _, x, hx => by simp [pairsW] at hx
  | [_], _, x, hx => by simp [pairsW] at hx
  | a :: b :: l, h, x, hx => by
    simp only [pairsW] at hx
    rcases List.mem_cons.1 hx with rfl | hx
    · have := h a (by simp); have := h b (by simp); omega
    · exact pairsW_mem m l (fun y hy => h y (by simp [hy])) x hx
/-- No weight of a level is above 2^k times the greatest. -/
theorem levW_le (L : List Nat) (m : Nat) (h : ∀ x ∈ L, x ≤ m) (k : Nat) : ∀ x ∈ levW L k, x ≤ 2 ^ k * m := by
  induction k with
  | zero => intro x hx; have := h x hx; omega
  | succ k ih =>
    intro x hx
    rcases mergeW_mem _ _ _ hx with hx | hx
    · have h1 := h x hx
      have h2 : 1 * m ≤ 2 ^ (k + 1) * m := Nat.mul_le_mul_right m (Nat.one_le_two_pow)
      omega
    · have := pairsW_mem _ _ ih x hx
      rw [Nat.pow_succ, Nat.mul_comm (2 ^ k) 2, Nat.mul_assoc]
      exact this
theorem sumW_take (l : List Nat) (i : Nat) (h : i < l.length) : sumW (l.take (i + 1)) = sumW (l.take i) + l[i] := by
  rw [List.take_succ_eq_append_getElem h]
  generalize l.take i = a
  induction a with
  | nil => simp [sumW]
  | cons c a ih => simp only [List.cons_append, sumW, ih]; omega
theorem sumW_le (l : List Nat) (m : Nat) (h : ∀ x ∈ l, x ≤ m) : sumW l ≤ l.length * m := by
  induction l with
  | nil => simp [sumW]
  | cons c l ih =>
    have := ih (fun x hx => h x (by simp [hx]))
    have := h c (by simp)
    simp only [sumW, List.length_cons, Nat.succ_mul]
    omega
#print axioms coins_wts
#print axioms levW_le
end Go.Proofs.Ytcefochgpijfbaa
