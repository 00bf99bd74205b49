/- What Lengths promises, in one. -/
import Derived.Test.YtcefochgpijfbaaLenB
namespace Go.Proofs.Ytcefochgpijfbaa
open Go.RowKit

/-- The least total: of coins in order. -/
def leastK (K : List Nat) (most : Nat) : Nat := if K.length < 2 then sumW K else sumW ((levW K (most - 1)).take (2 * K.length - 2))
/-- M are the best lengths for the counts C. -/
structure Best (C : List Nat) (most : Nat) (M : List Nat) : Prop where
  len : M.length = C.length
  code : Code M
  each : ∀ i (h : i < C.length), (0 < M.getD i 0 ↔ 0 < C[i]) ∧ M.getD i 0 ≤ most
  total : ∀ K : List Nat, K.Pairwise (· ≤ ·) → K.Perm (C.filter (fun c => decide (0 < c))) → ssum (fun i => C.getD i 0 * M.getD i 0) C.length = leastK K most
theorem many_leaves (g : Nat → Nat) : ∀ (C : List Nat) (i : Nat), (∀ j (hj : j < C.length), 0 < g (i + j) ↔ 0 < C[j]) → manyN ((List.range C.length).map fun j => g (i + j)) = (leavesP i C).length
  | [], i, _ => by simp [manyN, leavesP]
  | c :: C, i, h => by
    have ih := many_leaves g C (i + 1) (fun j hj => by
      have := h (j + 1) (by simpa using hj)
      rw [show i + (j + 1) = i + 1 + j by omega] at this
      simpa using this)
    have h0 := h 0 (by simp)
    simp only [Nat.add_zero, List.getElem_cons_zero] at h0
    rw [List.length_cons, List.range_succ_eq_map, List.map_cons, List.map_map]
    have e : ((fun j => g (i + j)) ∘ Nat.succ) = fun j => g (i + 1 + j) := by
      funext j
      show g (i + (j + 1)) = _
      rw [show i + (j + 1) = i + 1 + j by omega]
    rw [e]
    simp only [manyN, ih, Nat.add_zero]
    show _ = (if 0 < c then ⟨c, [i]⟩ :: leavesP (i + 1) C else leavesP (i + 1) C).length
    by_cases hc : 0 < c
    · have hg := h0.2 hc
      rw [if_pos hc, if_neg (by omega), List.length_cons]
      omega
    · have hg : g i = 0 := by
        rcases Nat.eq_zero_or_pos (g i) with h | h
        · exact h
        · exact absurd (h0.1 h) hc
      rw [if_neg hc, if_pos hg]
      omega
theorem getD_map_range (f : Nat → Nat) (n i : Nat) (h : i < n) : ((List.range n).map f).getD i 0 = f i := by simp [h]
theorem best_many {C : List Nat} {L : List Pk} (h : LeafOk C L) (hC : C.length ≤ 512) (most : Nat) (hm1 : 1 ≤ most) (hm15 : most ≤ 15) (h2 : 2 ≤ L.length) (hL : L.length ≤ 2 ^ most) : Best C most (lensP C L most) := by
  obtain ⟨hc, he⟩ := lens_code h hC most hm1 hm15 h2 hL
  have hg : ∀ i, i < C.length → (lensP C L most).getD i 0 = occP i (chosen L most) := fun i hi => getD_map_range _ _ _ hi
  refine ⟨by simp, hc, fun i hi => by rw [hg i hi]; exact he i hi, fun K hs hp => ?_⟩
  have e : ssum (fun i => C.getD i 0 * (lensP C L most).getD i 0) C.length = ssum (fun i => C.getD i 0 * occP i (chosen L most)) C.length := ssum_congr _ _ _ fun i hi => by rw [hg i hi]
  have hk := coins_wts h hs hp
  rw [e, lens_total h most, hk]
  have hl : (wts L).length = L.length := by unfold wts; simp
  unfold leastK
  rw [hl, if_neg (by omega)]
theorem best_none {C : List Nat} (hC : C.length ≤ 512) (most : Nat) (hz : leavesP 0 C = []) : Best C most (List.replicate C.length 0) := by
  have h0 : ∀ i (hi : i < C.length), C[i] = 0 := by
    intro i hi
    rcases Nat.eq_zero_or_pos C[i] with h | h
    · exact h
    · have := leaf_ex C 0 i hi h
      rw [hz] at this
      cases this
  have hg : ∀ i, (List.replicate C.length 0).getD i 0 = 0 := by
    intro i
    rw [List.getD_eq_getElem?_getD, List.getElem?_replicate]
    split <;> rfl
  have hr : ∀ n, roomN (List.replicate n 0) = 0 ∧ manyN (List.replicate n 0) = 0 := by
    intro n
    induction n with
    | zero => exact ⟨rfl, rfl⟩
    | succ n ih => rw [List.replicate_succ]; simp only [roomN, manyN, if_true]; omega
  refine ⟨by simp, ⟨by simpa using hC, ?_, by rw [(hr _).1]; omega, by rw [(hr _).1, (hr _).2]; rfl⟩, fun i hi => ?_, fun K hs hp => ?_⟩
  · intro x hx
    rw [List.mem_replicate] at hx
    omega
  · rw [hg i, h0 i hi]; omega
  · rw [← wts_leaves C 0, hz] at hp
    have : K = [] := List.perm_nil.1 hp
    subst this
    have e : ssum (fun i => C.getD i 0 * (List.replicate C.length 0).getD i 0) C.length = ssum (fun _ => 0) C.length := ssum_congr _ _ _ fun i _ => by rw [hg i, Nat.mul_zero]
    rw [e, ssum_zero]
    rfl
theorem best_one {C : List Nat} (hC : C.length ≤ 512) (most x sy : Nat) (hm1 : 1 ≤ most) (hz : leavesP 0 C = [⟨x, [sy]⟩]) : ∃ _ : sy < C.length, Best C most ((List.replicate C.length 0).set sy 1) := by
  obtain ⟨j, hj, e1, hj0⟩ := leavesP_mem C 0 ⟨x, [sy]⟩ (by rw [hz]; simp)
  simp only [Nat.zero_add, Pk.mk.injEq, List.cons.injEq, and_true] at e1
  obtain ⟨e1, e2⟩ := e1
  subst e1 e2
  refine ⟨hj, ?_⟩
  have hpos : ∀ i (hi : i < C.length), 0 < C[i] ↔ i = sy := by
    intro i hi
    constructor
    · intro h
      have := leaf_ex C 0 i hi h
      rw [hz] at this
      simp at this
      exact this.2
    · rintro rfl; exact hj0
  have eM : (List.replicate C.length 0).set sy 1 = (List.range C.length).map fun i => (fun i => if i = sy then 1 else 0) (0 + i) := by
    apply List.ext_getElem
    · simp
    · intro i h1 h2
      rw [List.getElem_set]
      simp only [List.getElem_map, List.getElem_range, Nat.zero_add, List.getElem_replicate]
      by_cases e : sy = i
      · rw [if_pos e, if_pos e.symm]
      · rw [if_neg e, if_neg (fun h => e h.symm)]
  have hiff : ∀ j (hj : j < C.length), 0 < (fun i => if i = sy then 1 else 0) (0 + j) ↔ 0 < C[j] := by
    intro i hi
    rw [hpos i hi]
    simp only [Nat.zero_add]
    by_cases e : i = sy
    · simp [e]
    · simp [e]
  have hr := room_leaves (fun i => if i = sy then 1 else 0) C 0 hiff
  have hm := many_leaves (fun i => if i = sy then 1 else 0) C 0 hiff
  rw [hz] at hr hm
  rw [← eM] at hr hm
  have hr' : roomN ((List.replicate C.length 0).set sy 1) = 16384 := by rw [hr]; simp [sumS, symP]
  have hm' : manyN ((List.replicate C.length 0).set sy 1) = 1 := by rw [hm]; simp
  have hg : ∀ i, i < C.length → ((List.replicate C.length 0).set sy 1).getD i 0 = if i = sy then 1 else 0 := by
    intro i hi
    rw [eM, getD_map_range _ _ _ hi]
    simp
  refine ⟨by simp, ⟨by simpa using hC, ?_, by omega, by rw [hr', hm']; rfl⟩, fun i hi => ?_, fun K hs hp => ?_⟩
  · intro y hy
    rw [eM] at hy
    simp only [List.mem_map, List.mem_range] at hy
    obtain ⟨i, _, rfl⟩ := hy
    split <;> omega
  · rw [hg i hi, hpos i hi]
    by_cases e : i = sy
    · simp [e]; omega
    · simp [e]
  · rw [← wts_leaves C 0, hz] at hp
    have : K = [C[sy]] := List.perm_singleton.1 hp
    subst this
    have e : ssum (fun i => C.getD i 0 * ((List.replicate C.length 0).set sy 1).getD i 0) C.length = ssum (fun i => if i = sy then C[sy] else 0) C.length := ssum_congr _ _ _ fun i hi => by
      rw [hg i hi]
      by_cases e : i = sy
      · subst e; simp [hj]
      · simp [e]
    rw [e, ssum_one _ _ _ hj]
    simp [leastK, sumW]
/-- The contract of Lengths where nothing is wrong. -/
theorem lengths_ok (v : Value) (C : List Nat) (most : Nat) (w : World) (hv : Ns .i64 w v (up C)) (hC : C.length ≤ 512) (hn : numsB (up C) = true) (hm1 : 1 ≤ most) (hm2 : most ≤ 15) (hNm : (leavesP 0 C).length ≤ 2 ^ most) :
    Calls Try.prog 4 #[v, .int .i64 (most : Int)] w fun e w' => ∃ g M, e = .returned (.tuple #[.slice (some ⟨g, 0, none⟩) C.length C.length, .int .i64 0]) ∧ w.heap.size ≤ g ∧ Best C most M ∧ RowN w' g 3 .i64 M ∧ Fr noB w w' := by
  match hl : leavesP 0 C with
  | [] =>
    refine (lengths_none v C most w hv hC hn hm1 hm2 (by rw [hl]; rfl)).mono ?_
    rintro e w' ⟨g, h1, h2, h3, h4⟩
    exact ⟨g, _, h1, h2, best_none hC most hl, h3, h4⟩
  | [⟨x, s⟩] =>
    obtain ⟨j, hj, e1, hj0⟩ := leavesP_mem C 0 ⟨x, s⟩ (by rw [hl]; simp)
    simp only [Nat.zero_add, Pk.mk.injEq] at e1
    obtain ⟨e1, e2⟩ := e1
    subst e2
    obtain ⟨_, hb⟩ := best_one hC most x j hm1 hl
    refine (lengths_one v C most x j w hv hC hn hm1 hm2 hl hj).mono ?_
    rintro e w' ⟨g, h1, h2, h3, h4⟩
    exact ⟨g, _, h1, h2, hb, h3, h4⟩
  | a :: b :: l =>
    refine (lengths_many v C most w hv hC hn hm1 hm2 (by rw [hl]; simp) hNm).mono ?_
    rintro e w' ⟨g, L, h1, h2, h3, h4, h5⟩
    have hLl : L.length = (leavesP 0 C).length := h3.perm.length_eq
    exact ⟨g, _, h1, h2, best_many h3 hC most hm1 hm2 (by rw [hLl, hl]; simp) (by rw [hLl]; exact hNm), h4, h5⟩
#print axioms lengths_ok
end Go.Proofs.Ytcefochgpijfbaa
