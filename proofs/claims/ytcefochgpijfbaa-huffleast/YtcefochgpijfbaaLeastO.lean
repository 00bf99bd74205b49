/- Plain mathematics of package-merge, the end: the lengths of counts. No Go text here. -/
import Derived.Test.YtcefochgpijfbaaLeastN
namespace Go.Proofs.Ytcefochgpijfbaa

/-- A package for each symbol from i on that stands at all. -/
def leavesP : Nat → List Nat → List Pk
  | _, [] => []
  | i, c :: C => if 0 < c then ⟨c, [i]⟩ :: leavesP (i + 1) C else leavesP (i + 1) C
/-- The symbol of a leaf. -/
def symP (p : Pk) : Nat := p.s.headD 0
theorem leavesP_mem (C : List Nat) : ∀ i p, p ∈ leavesP i C → ∃ j, ∃ hj : j < C.length, p = ⟨C[j], [i + j]⟩ ∧ 0 < C[j] := by
  induction C with
  | nil => intro i p hp; simp [leavesP] at hp
  | cons c C ih =>
    intro i p hp
    unfold leavesP at hp
    have tail : p ∈ leavesP (i + 1) C → ∃ j, ∃ hj : j < (c :: C).length, p = ⟨(c :: C)[j], [i + j]⟩ ∧ 0 < (c :: C)[j] := by
      intro h
      obtain ⟨j, hj, h1, h2⟩ := ih (i + 1) p h
      refine ⟨j + 1, by simpa using hj, ?_, by simpa using h2⟩
      rw [h1]
      simp
      omega
    split at hp
    · rename_i h0
      rcases List.mem_cons.1 hp with rfl | hp
      · exact ⟨0, by simp, by simp, h0⟩
      · exact tail hp
    · exact tail hp
/-- Leaves as they are. -/
structure LeafOk (C : List Nat) (L : List Pk) : Prop where
  perm : L.Perm (leavesP 0 C)
  up : UpP L
theorem LeafOk.mem {C : List Nat} {L : List Pk} (h : LeafOk C L) (p : Pk) (hp : p ∈ L) : ∃ j, ∃ hj : j < C.length, p = ⟨C[j], [j]⟩ ∧ 0 < C[j] := by
  obtain ⟨j, hj, h1, h2⟩ := leavesP_mem C 0 p (h.perm.mem_iff.1 hp)
  exact ⟨j, hj, by simpa using h1, h2⟩
theorem LeafOk.pos {C : List Nat} {L : List Pk} (h : LeafOk C L) : ∀ p ∈ L, 0 < p.w := by
  intro p hp
  obtain ⟨j, hj, rfl, h2⟩ := h.mem p hp
  exact h2
theorem leavesP_syms (C : List Nat) : ∀ i, ((leavesP i C).map symP).Pairwise (· < ·) ∧ ∀ s ∈ (leavesP i C).map symP, i ≤ s := by
  induction C with
  | nil => intro i; simp [leavesP]
  | cons c C ih =>
    intro i
    obtain ⟨h1, h2⟩ := ih (i + 1)
    unfold leavesP
    split
    · refine ⟨?_, ?_⟩
      · rw [List.map_cons]
        exact List.Pairwise.cons (fun s hs => by have := h2 s hs; show i < s; omega) h1
      · intro s hs
        rw [List.map_cons] at hs
        rcases List.mem_cons.1 hs with rfl | hs
        · exact Nat.le_refl _
        · have := h2 s hs; omega
    · exact ⟨h1, fun s hs => by have := h2 s hs; omega⟩
theorem LeafOk.nodup {C : List Nat} {L : List Pk} (h : LeafOk C L) : (L.map symP).Nodup :=
  (h.perm.map symP).nodup_iff.2 ((leavesP_syms C 0).1.imp (fun h => Nat.ne_of_lt h))

theorem occP_take {L : List Pk} (h1 : ∀ p ∈ L, p.s = [symP p]) (hn : (L.map symP).Nodup) (t : Nat) (ht : t < L.length) (a : Nat) (_ha : a ≤ L.length) : occP (symP L[t]) (L.take a) = if t < a then 1 else 0 := by
  induction L generalizing t a with
  | nil => simp at ht
  | cons p L ih =>
    rw [List.map_cons, List.nodup_cons] at hn
    have hp := h1 p (by simp)
    match a with
    | 0 => simp [occP]
    | a + 1 =>
      rw [List.take_succ_cons]
      match t with
      | 0 =>
        have hz : ∀ (K : List Pk), (∀ q ∈ K, q ∈ L) → occP (symP p) K = 0 := by
          intro K
          induction K with
          | nil => intro _; rfl
          | cons q K ihK =>
            intro hK
            have hq := hK q (by simp)
            have e := h1 q (by simp [hq])
            have hne : symP p ≠ symP q := fun he => hn.1 (by rw [he]; exact List.mem_map_of_mem hq)
            simp only [occP, ihK (fun r hr => hK r (by simp [hr])), e]
            simp [hne.symm]
        simp only [List.getElem_cons_zero, occP, hz (L.take a) (fun q hq => List.mem_of_mem_take hq), hp]
        simp
      | t + 1 =>
        have ht' : t < L.length := by simpa using ht
        have hne : symP p ≠ symP L[t] := fun he => hn.1 (by rw [he]; exact List.mem_map_of_mem (List.getElem_mem ht'))
        have := ih (fun q hq => h1 q (by simp [hq])) hn.2 t ht' a (by simpa using _ha)
        simp only [List.getElem_cons_succ, occP, this, hp]
        simp [hne]
theorem occA_gt {L : List Pk} (h1 : ∀ p ∈ L, p.s = [symP p]) (hn : (L.map symP).Nodup) (t : Nat) (ht : t < L.length) (as : List Nat) (ha : ∀ c ∈ as, c ≤ L.length) : occA (symP L[t]) L as = gtA t as := by
  induction as with
  | nil => rfl
  | cons a as ih =>
    simp only [occA, gtA, occP_take h1 hn t ht a (ha a (by simp)), ih (fun c hc => ha c (by simp [hc]))]

/-- The packages that are chosen. -/
def chosen (L : List Pk) (most : Nat) : List Pk := (levP L (most - 1)).take (2 * L.length - 2)
theorem sym_one {C : List Nat} {L : List Pk} (h : LeafOk C L) : ∀ p ∈ L, p.s = [symP p] := by
  intro p hp
  obtain ⟨j, hj, rfl, _⟩ := h.mem p hp
  rfl
/-- Each leaf's length is from 1 to most, and together they fill the room. -/
theorem chosen_kraft {C : List Nat} {L : List Pk} (h : LeafOk C L) (most : Nat) (hm1 : 1 ≤ most) (h2 : 2 ≤ L.length) (hL : L.length ≤ 2 ^ most) :
    ∃ g : Nat → Nat, (∀ t (ht : t < L.length), occP (symP L[t]) (chosen L most) = g t ∧ 1 ≤ g t ∧ g t ≤ most) ∧ ssum (fun t => 2 ^ (most - g t)) L.length = 2 ^ most := by
  have hen := enough L (most - 1) (by rw [show most - 1 + 1 = most by omega]; exact hL)
  obtain ⟨a, as, i1, i2, i3, i4, i5, _⟩ := chain_ex h.up h.pos (most - 1) _ hen
  have hk := kraft_val (a :: as) L.length i3 i2
  have hlen : (a :: as).length = most := by simp [i1]; omega
  rw [hlen, ← i4] at hk
  have e1 : 2 ^ (most - 1) * (2 * L.length - 2) = 2 ^ most * (L.length - 1) := by
    obtain ⟨q, rfl⟩ : ∃ q, most = q + 1 := ⟨most - 1, by omega⟩
    rw [Nat.add_sub_cancel, Nat.pow_succ, Nat.mul_assoc, Nat.mul_sub_left_distrib 2]
  rw [e1] at hk
  have e2 : L.length * 2 ^ most = 2 ^ most * (L.length - 1) + 2 ^ most := by
    rw [Nat.mul_comm, show 2 ^ most * L.length = 2 ^ most * (L.length - 1 + 1) by rw [show L.length - 1 + 1 = L.length by omega], Nat.mul_add, Nat.mul_one]
  have hsum : ssum (fun t => 2 ^ (most - gtA t (a :: as))) L.length = 2 ^ most := by omega
  refine ⟨fun t => gtA t (a :: as), fun t ht => ⟨?_, ?_, ?_⟩, hsum⟩
  · show occP _ ((levP L (most - 1)).take (2 * L.length - 2)) = _
    rw [i5, occA_gt (sym_one h) h.nodup t ht _ i2]
  · rcases Nat.eq_zero_or_pos (gtA t (a :: as)) with h0 | h0
    · exfalso
      have key : ∀ n (f : Nat → Nat), (∀ i, i < n → 1 ≤ f i) → t < n → f t + (n - 1) ≤ ssum f n := by
        intro n
        induction n with
        | zero => intro f _ h; omega
        | succ n ih =>
          intro f hf htn
          show f t + (n + 1 - 1) ≤ ssum f n + f n
          by_cases e : t = n
          · subst e
            have low : ∀ k, k ≤ t → k ≤ ssum f k := by
              intro k
              induction k with
              | zero => intro _; simp [ssum]
              | succ k ihk => intro hk; have := ihk (by omega); have := hf k (by omega); show k + 1 ≤ ssum f k + f k; omega
            have := low t (Nat.le_refl _)
            omega
          · have := ih f (fun i hi => hf i (by omega)) (by omega)
            have := hf n (by omega)
            omega
      have := key L.length (fun t => 2 ^ (most - gtA t (a :: as))) (fun i _ => Nat.pow_pos (by decide)) ht
      simp only [h0, Nat.sub_zero] at this
      omega
    · exact h0
  · have := gtA_le t (a :: as)
    rw [hlen] at this
    exact this

/-- The lengths of the counts C. -/
def lensP (C : List Nat) (L : List Pk) (most : Nat) : List Nat := (List.range C.length).map fun i => occP i (chosen L most)
@[simp] theorem lensP_length (C : List Nat) (L : List Pk) (most : Nat) : (lensP C L most).length = C.length := by simp [lensP]
/-- The sum of g over the leaves' symbols. -/
def sumS (g : Nat → Nat) : List Pk → Nat
  | [] => 0
  | p :: l => g (symP p) + sumS g l
theorem sumS_perm (g : Nat → Nat) {a b : List Pk} (h : a.Perm b) : sumS g a = sumS g b := by
  induction h with
  | nil => rfl
  | cons x _ ih => simp only [sumS, ih]
  | swap x y l => simp only [sumS]; omega
  | trans _ _ h1 h2 => omega
theorem sumS_append (g : Nat → Nat) (a b : List Pk) : sumS g (a ++ b) = sumS g a + sumS g b := by
  induction a with
  | nil => simp [sumS]
  | cons p a ih => simp only [List.cons_append, sumS, ih]; omega
theorem sumS_ssum (g : Nat → Nat) (L : List Pk) (f : Nat → Nat) (h : ∀ t (ht : t < L.length), g (symP L[t]) = f t) : sumS g L = ssum f L.length := by
  have key : ∀ n, n ≤ L.length → sumS g (L.take n) = ssum f n := by
    intro n
    induction n with
    | zero => intro _; simp [sumS, ssum]
    | succ n ih =>
      intro hn
      have hn' : n < L.length := by omega
      rw [List.take_succ_eq_append_getElem hn', sumS_append, ih (by omega)]
      show ssum f n + (g (symP L[n]) + 0) = ssum f n + f n
      rw [h n hn']
      rfl
  have := key L.length (Nat.le_refl _)
  rwa [List.take_length] at this
theorem ssum_mul (f : Nat → Nat) (c n : Nat) : ssum (fun t => c * f t) n = c * ssum f n := by
  induction n with
  | zero => simp [ssum]
  | succ n ih => show ssum _ n + c * f n = c * (ssum f n + f n); rw [ih, Nat.mul_add]
/-- The room, leaf by leaf. -/
theorem room_leaves (g : Nat → Nat) : ∀ (C : List Nat) (i : Nat), (∀ j (hj : j < C.length), 0 < g (i + j) ↔ 0 < C[j]) → roomN ((List.range C.length).map fun j => g (i + j)) = sumS (fun s => 2 ^ (15 - g s)) (leavesP i C)
  | [], i, _ => by simp [roomN, leavesP, sumS]
  | c :: C, i, h => by
    have ih := room_leaves g C (i + 1) (fun j hj => by
      have := h (j + 1) (by simpa using hj)
      rw [show i + (j + 1) = i + 1 + j by omega] at this
      simpa using this)
    have h0 := h 0 (by simp)
    simp only [Nat.add_zero, List.getElem_cons_zero] at h0
    rw [List.length_cons, List.range_succ_eq_map, List.map_cons, List.map_map]
    have e : ((fun j => g (i + j)) ∘ Nat.succ) = fun j => g (i + 1 + j) := by
      funext j
      show g (i + (j + 1)) = _
      rw [show i + (j + 1) = i + 1 + j by omega]
    rw [e]
    simp only [roomN, ih, Nat.add_zero]
    show _ = sumS (fun s => 2 ^ (15 - g s)) (if 0 < c then ⟨c, [i]⟩ :: leavesP (i + 1) C else leavesP (i + 1) C)
    by_cases hc : 0 < c
    · have hg := h0.2 hc
      rw [if_pos hc, if_neg (by omega)]
      rfl
    · have hg : g i = 0 := by
        rcases Nat.eq_zero_or_pos (g i) with h | h
        · exact h
        · exact absurd (h0.1 h) hc
      rw [if_neg hc, if_pos hg]
      omega
/-- No symbol stands in packages but the leaves'. -/
theorem occP_none (s : Nat) (l : List Pk) (h : ∀ p ∈ l, s ∉ p.s) : occP s l = 0 := by
  induction l with
  | nil => rfl
  | cons p l ih => simp only [occP, ih (fun q hq => h q (by simp [hq])), List.count_eq_zero.2 (h p (by simp))]
theorem levP_syms {L : List Pk} (P : Nat → Prop) (h : ∀ p ∈ L, ∀ s ∈ p.s, P s) (k : Nat) : ∀ p ∈ levP L k, ∀ s ∈ p.s, P s := by
  have mem_merge : ∀ (a b : List Pk) (p : Pk), p ∈ mergeP a b → p ∈ a ∨ p ∈ b := by
    intro a b
    induction a, b using mergeP.induct with
    | case1 b => intro p hp; simp [mergeP] at hp; exact Or.inr hp
    | case2 a as => intro p hp; simp [mergeP] at hp; exact Or.inl (by simpa using hp)
    | case3 a as b bs hlt ih =>
      intro p hp
      rw [mergeP, if_pos hlt] at hp
      rcases List.mem_cons.1 hp with rfl | hp
      · exact Or.inr (by simp)
      · rcases ih p hp with h | h
        · exact Or.inl h
        · exact Or.inr (by simp [h])
    | case4 a as b bs hlt ih =>
      intro p hp
      rw [mergeP, if_neg hlt] at hp
      rcases List.mem_cons.1 hp with rfl | hp
      · exact Or.inl (by simp)
      · rcases ih p hp with h | h
        · exact Or.inl (by simp [h])
        · exact Or.inr h
  have mem_pairs : ∀ (l : List Pk), (∀ p ∈ l, ∀ s ∈ p.s, P s) → ∀ p ∈ pairsP l, ∀ s ∈ p.s, P s := by
    intro l
    induction l using pairsP.induct with
    | case1 a b l ih =>
      intro hl p hp
      simp only [pairsP] at hp
      rcases List.mem_cons.1 hp with rfl | hp
      · intro s hs
        rcases List.mem_append.1 hs with hs | hs
        · exact hl a (by simp) s hs
        · exact hl b (by simp) s hs
      · exact ih (fun q hq => hl q (by simp [hq])) p hp
    | case2 l hl0 =>
      intro hl p hp
      unfold pairsP at hp
      split at hp
      · rename_i a b l'; exact absurd rfl (hl0 a b l')
      · simp at hp
  induction k with
  | zero => exact h
  | succ k ih =>
    intro p hp
    rcases mem_merge _ _ p hp with hp | hp
    · exact h p hp
    · exact mem_pairs _ ih p hp
theorem leaf_ex (C : List Nat) : ∀ i j (hj : j < C.length), 0 < C[j] → ⟨C[j], [i + j]⟩ ∈ leavesP i C := by
  induction C with
  | nil => intro i j hj; simp at hj
  | cons c C ih =>
    intro i j hj h0
    match j with
    | 0 =>
      simp only [List.getElem_cons_zero] at h0 ⊢
      unfold leavesP
      rw [if_pos h0]
      simp
    | j + 1 =>
      have := ih (i + 1) j (by simpa using hj) (by simpa using h0)
      rw [show i + 1 + j = i + (j + 1) by omega] at this
      unfold leavesP
      simp only [List.getElem_cons_succ]
      split
      · exact List.mem_cons_of_mem _ this
      · exact this
/-- What package-merge promises of two symbols and more. -/
theorem lens_code {C : List Nat} {L : List Pk} (h : LeafOk C L) (hC : C.length ≤ 512) (most : Nat) (hm1 : 1 ≤ most) (hm15 : most ≤ 15) (h2 : 2 ≤ L.length) (hL : L.length ≤ 2 ^ most) :
    Code (lensP C L most) ∧ ∀ i (hi : i < C.length), (0 < occP i (chosen L most) ↔ 0 < C[i]) ∧ occP i (chosen L most) ≤ most := by
  obtain ⟨g, hg, hs⟩ := chosen_kraft h most hm1 h2 hL
  have each : ∀ i (hi : i < C.length), (0 < occP i (chosen L most) ↔ 0 < C[i]) ∧ occP i (chosen L most) ≤ most := by
    intro i hi
    by_cases h0 : 0 < C[i]
    · have hm := h.perm.mem_iff.2 (leaf_ex C 0 i hi h0)
      obtain ⟨t, ht, e⟩ := List.getElem_of_mem hm
      have := hg t ht
      have es : symP L[t] = i := by rw [e]; simp [symP]
      rw [es] at this
      exact ⟨⟨fun _ => h0, fun _ => by omega⟩, by omega⟩
    · have hz : occP i (chosen L most) = 0 := by
        refine occP_none i _ (fun p hp => ?_)
        have hp' := List.mem_of_mem_take hp
        intro hmem
        have := levP_syms (fun s => ∃ hs : s < C.length, 0 < C[s]) (fun q hq s hsq => by
          obtain ⟨j, hj, rfl, hj0⟩ := h.mem q hq
          simp at hsq
          subst hsq
          exact ⟨hj, hj0⟩) (most - 1) p hp' i hmem
        obtain ⟨_, h0'⟩ := this
        exact h0 h0'
      rw [hz]
      exact ⟨⟨fun h => by omega, fun h => absurd h h0⟩, by omega⟩
  have hroom : roomN (lensP C L most) = 32768 := by
    have hr := room_leaves (fun i => occP i (chosen L most)) C 0 (fun j hj => by rw [Nat.zero_add]; exact (each j hj).1)
    simp only [Nat.zero_add] at hr
    show roomN ((List.range C.length).map fun i => occP i (chosen L most)) = _
    rw [hr, ← sumS_perm _ h.perm, sumS_ssum _ L (fun t => 2 ^ (15 - most) * 2 ^ (most - g t)) (fun t ht => ?_), ssum_mul, hs, ← Nat.pow_add, show 15 - most + most = 15 by omega]
    have := hg t ht
    rw [this.1, ← Nat.pow_add, show 15 - most + (most - g t) = 15 - g t by omega]
  refine ⟨⟨by simpa using hC, ?_, by omega, ?_⟩, each⟩
  · intro x hx
    simp only [lensP, List.mem_map, List.mem_range] at hx
    obtain ⟨i, hi, rfl⟩ := hx
    have := (each i hi).2
    omega
  · unfold codeB
    rw [decide_eq_true_iff]
    exact Or.inr (Or.inl hroom)

/-- What the symbols of l stand for in all. -/
def costL (C : List Nat) : List Nat → Nat
  | [] => 0
  | s :: l => C.getD s 0 + costL C l
theorem costL_append (C a b : List Nat) : costL C (a ++ b) = costL C a + costL C b := by
  induction a with
  | nil => simp [costL]
  | cons s a ih => simp only [List.cons_append, costL, ih]; omega
theorem levP_all {L : List Pk} (Q : Pk → Prop) (h : ∀ p ∈ L, Q p) (hq : ∀ a b : Pk, Q a → Q b → Q ⟨a.w + b.w, a.s ++ b.s⟩) (k : Nat) : ∀ p ∈ levP L k, Q p := by
  have mem_merge : ∀ (a b : List Pk) (p : Pk), p ∈ mergeP a b → p ∈ a ∨ p ∈ b := by
    intro a b
    induction a, b using mergeP.induct with
    | case1 b => intro p hp; simp [mergeP] at hp; exact Or.inr hp
    | case2 a as => intro p hp; simp [mergeP] at hp; exact Or.inl (by simpa using hp)
    | case3 a as b bs hlt ih =>
      intro p hp
      rw [mergeP, if_pos hlt] at hp
      rcases List.mem_cons.1 hp with rfl | hp
      · exact Or.inr (by simp)
      · rcases ih p hp with h | h
        · exact Or.inl h
        · exact Or.inr (by simp [h])
    | case4 a as b bs hlt ih =>
      intro p hp
      rw [mergeP, if_neg hlt] at hp
      rcases List.mem_cons.1 hp with rfl | hp
      · exact Or.inl (by simp)
      · rcases ih p hp with h | h
        · exact Or.inl (by simp [h])
        · exact Or.inr h
  have mem_pairs : ∀ (l : List Pk), (∀ p ∈ l, Q p) → ∀ p ∈ pairsP l, Q p := by
    intro l
    induction l using pairsP.induct with
    | case1 a b l ih =>
      intro hl p hp
      simp only [pairsP] at hp
      rcases List.mem_cons.1 hp with rfl | hp
      · exact hq a b (hl a (by simp)) (hl b (by simp))
      · exact ih (fun q hq => hl q (by simp [hq])) p hp
    | case2 l hl0 =>
      intro hl p hp
      unfold pairsP at hp
      split at hp
      · rename_i a b l'; exact absurd rfl (hl0 a b l')
      · simp at hp
  induction k with
  | zero => exact h
  | succ k ih =>
    intro p hp
    rcases mem_merge _ _ p hp with hp | hp
    · exact h p hp
    · exact mem_pairs _ ih p hp
theorem ssum_add (f g : Nat → Nat) (n : Nat) : ssum (fun i => f i + g i) n = ssum f n + ssum g n := by
  induction n with
  | zero => rfl
  | succ n ih => show ssum _ n + (f n + g n) = ssum f n + f n + (ssum g n + g n); rw [ih]; omega
theorem ssum_one (c s n : Nat) (h : s < n) : ssum (fun i => if i = s then c else 0) n = c := by
  induction n with
  | zero => omega
  | succ n ih =>
    show ssum _ n + (if n = s then c else 0) = c
    by_cases e : n = s
    · subst e
      rw [if_pos rfl, ssum_congr _ (fun _ => 0) n (fun i hi => by rw [if_neg (by omega)]), ssum_zero]
      omega
    · rw [if_neg e, ih (by omega)]; rfl
/-- Each symbol's count times how often it stands, in all. -/
theorem cost_count (C : List Nat) (l : List Nat) (h : ∀ s ∈ l, s < C.length) : ssum (fun i => C.getD i 0 * l.count i) C.length = costL C l := by
  induction l with
  | nil =>
    show ssum (fun i => C.getD i 0 * 0) C.length = 0
    rw [ssum_congr _ (fun _ => 0) _ (fun i _ => Nat.mul_zero _), ssum_zero]
  | cons s l ih =>
    have hs := h s (by simp)
    have e : ssum (fun i => C.getD i 0 * (s :: l).count i) C.length = ssum (fun i => (if i = s then C.getD s 0 else 0) + C.getD i 0 * l.count i) C.length := by
      refine ssum_congr _ _ _ fun i _ => ?_
      rw [List.count_cons]
      by_cases hi : i = s
      · subst hi; simp [Nat.mul_add]; omega
      · rw [if_neg hi]; simp [show ¬ s = i by omega]
    rw [e, ssum_add, ssum_one _ _ _ hs, ih (fun q hq => h q (by simp [hq]))]
    rfl
theorem cost_occ (C : List Nat) (l : List Pk) (h : ∀ p ∈ l, ∀ s ∈ p.s, s < C.length) (hw : ∀ p ∈ l, p.w = costL C p.s) : ssum (fun i => C.getD i 0 * occP i l) C.length = sumW (wts l) := by
  induction l with
  | nil =>
    show ssum (fun i => C.getD i 0 * 0) C.length = 0
    rw [ssum_congr _ (fun _ => 0) _ (fun i _ => Nat.mul_zero _), ssum_zero]
  | cons p l ih =>
    have e : ssum (fun i => C.getD i 0 * occP i (p :: l)) C.length = ssum (fun i => C.getD i 0 * p.s.count i + C.getD i 0 * occP i l) C.length :=
      ssum_congr _ _ _ fun i _ => by simp only [occP, Nat.mul_add]
    rw [e, ssum_add, cost_count C p.s (h p (by simp)), ih (fun q hq => h q (by simp [hq])) (fun q hq => hw q (by simp [hq])), ← hw p (by simp)]
    rfl
/-- The total of the lengths is the weight of what is chosen. -/
theorem lens_total {C : List Nat} {L : List Pk} (h : LeafOk C L) (most : Nat) : ssum (fun i => C.getD i 0 * occP i (chosen L most)) C.length = sumW ((levW (wts L) (most - 1)).take (2 * L.length - 2)) := by
  have h1 : ∀ p ∈ levP L (most - 1), ∀ s ∈ p.s, s < C.length := levP_syms (fun s => s < C.length) (fun q hq s hsq => by
    obtain ⟨j, hj, rfl, _⟩ := h.mem q hq
    simp at hsq
    subst hsq
    exact hj) _
  have h2 : ∀ p ∈ levP L (most - 1), p.w = costL C p.s := levP_all (fun p => p.w = costL C p.s) (fun q hq => by
    obtain ⟨j, hj, rfl, _⟩ := h.mem q hq
    simp [costL, hj]) (fun a b ha hb => by
      show a.w + b.w = costL C (a.s ++ b.s)
      rw [costL_append, ← ha, ← hb]) _
  rw [cost_occ C (chosen L most) (fun p hp => h1 p (List.mem_of_mem_take hp)) (fun p hp => h2 p (List.mem_of_mem_take hp))]
  congr 1
  show wts ((levP L (most - 1)).take _) = _
  unfold wts
  rw [List.map_take]
  have := wts_lev L (most - 1)
  unfold wts at this
  rw [this]
#print axioms lens_total
#print axioms chosen_kraft
#print axioms lens_code
end Go.Proofs.Ytcefochgpijfbaa
