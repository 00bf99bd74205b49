/- The parts of a name: the document's second loop, against strings.Split. -/
import Derived.Test.YtlhikoomghbnjaaGreatDoorZScn
import Derived.Lib.IndexLaws
import Derived.Lib.CountLaws
namespace Go.Proofs.YtlhikoomghbnjaaGreatDoor
open Go.RowKit

theorem idx47 (s : ByteArray) : Lib.indexB s ⟨#[47]⟩ = Lib.indexByte s.data.toList 47 := Lib.index_one s.data.toList 47
theorem parts_miss (s : ByteArray) (h : ∀ k, k < s.size → byN s k ≠ 47) : partsB s = [s] := by
  refine Lib.splitB_miss _ _ _ _ ?_
  rw [idx47]
  rcases (show Lib.indexByte s.data.toList 47 = -1 ∨ ∃ i : Nat, Lib.indexByte s.data.toList 47 = (i : Int) by
    have := Lib.indexByte_ge s.data.toList 47
    by_cases e : Lib.indexByte s.data.toList 47 = -1
    · exact Or.inl e
    · exact Or.inr ⟨(Lib.indexByte s.data.toList 47).toNat, by omega⟩) with e | ⟨i, e⟩
  · exact e
  · exfalso
    obtain ⟨h1, _⟩ := Lib.indexByte_some e
    obtain ⟨hl, h2⟩ := List.getElem?_eq_some_iff.1 h1
    have := h i (by simpa using hl)
    rw [← byN_list s i hl, h2] at this
    exact this rfl
theorem parts_hit (s : ByteArray) (i : Nat) (hi : i < s.size) (h47 : byN s i = 47) (hno : ∀ k, k < i → byN s k ≠ 47) : partsB s = s.extract 0 i :: partsB (s.extract (i + 1) s.size) := by
  have hl : ∀ k, k < s.size → k < s.data.toList.length := fun k hk => by simpa using hk
  have e : Lib.indexB s ⟨#[47]⟩ = (i : Int) := by
    rw [idx47]
    rcases (show Lib.indexByte s.data.toList 47 = -1 ∨ ∃ j : Nat, Lib.indexByte s.data.toList 47 = (j : Int) by
      have := Lib.indexByte_ge s.data.toList 47
      by_cases e : Lib.indexByte s.data.toList 47 = -1
      · exact Or.inl e
      · exact Or.inr ⟨(Lib.indexByte s.data.toList 47).toNat, by omega⟩) with e | ⟨j, e⟩
    · exfalso
      refine Lib.indexByte_none e i ?_
      rw [List.getElem?_eq_getElem (hl i hi)]
      congr 1
      apply UInt8.toNat_inj.1
      rw [byN_list s i (hl i hi), h47]
      rfl
    · obtain ⟨h1, h2⟩ := Lib.indexByte_some e
      obtain ⟨hjl, h3⟩ := List.getElem?_eq_some_iff.1 h1
      have hj : byN s j = 47 := by rw [← byN_list s j hjl, h3]; rfl
      rw [e]
      rcases Nat.lt_trichotomy i j with h | h | h
      · exfalso
        refine h2 i h ?_
        rw [List.getElem?_eq_getElem (hl i hi)]
        congr 1
        apply UInt8.toNat_inj.1
        rw [byN_list s i (hl i hi), h47]
        rfl
      · rw [h]
      · exact absurd hj (hno j h)
  unfold partsB
  rw [Lib.countB_hit s ⟨#[47]⟩ i (by decide) e, Nat.add_comm, Lib.splitB_hit _ _ _ _ _ e]
  rfl
theorem least (P : Nat → Prop) : ∀ k, P k → ∃ i, i ≤ k ∧ P i ∧ ∀ j, j < i → ¬ P j := by
  intro k
  induction k using Nat.strongRecOn with
  | ind k ih =>
    intro hk
    by_cases h : ∃ j, j < k ∧ P j
    · obtain ⟨j, hj, hp⟩ := h
      obtain ⟨i, h1, h2, h3⟩ := ih j hj hp
      exact ⟨i, by omega, h2, h3⟩
    · exact ⟨k, Nat.le_refl _, hk, fun j hj hp => h ⟨j, hj, hp⟩⟩
theorem parts_ne (s : ByteArray) : partsB s ≠ [] := by
  intro e
  have := partsB_length s
  rw [e] at this
  simp at this
/-- The document's tests on the parts: the first one may not be nothing. -/
def chk (f : Bool) : List ByteArray → Bool
  | [] => true
  | [p] => !((p.toList == [] && !f) || climbB p)
  | p :: q :: t => !(p.toList == [] || climbB p) && chk true (q :: t)
theorem chk_more (f : Bool) (p : ByteArray) (L : List ByteArray) (h : L ≠ []) : chk f (p :: L) = (!(p.toList == [] || climbB p) && chk true L) := by
  cases L with
  | nil => exact absurd rfl h
  | cons q t => rfl
theorem chk_true (L : List ByteArray) (h : L ≠ []) : chk true L = ((L.dropLast.all fun p => !(p.toList == [] || climbB p)) && !climbB (L.getLastD ⟨#[]⟩)) := by
  induction L with
  | nil => exact absurd rfl h
  | cons p t ih =>
    cases t with
    | nil => simp [chk]
    | cons q t =>
      rw [chk_more _ _ _ (by simp), ih (by simp)]
      simp [Bool.and_assoc]
theorem chk_whole (s : ByteArray) (h : 1 ≤ s.size) : chk false (partsB s) = (((partsB s).dropLast.all fun p => !(p.toList == [] || climbB p)) && !climbB ((partsB s).getLastD ⟨#[]⟩)) := by
  have hne := parts_ne s
  by_cases hm : ∀ k, k < s.size → byN s k ≠ 47
  · rw [parts_miss s hm]
    have : (s.toList == []) = false := by
      rw [ByteArray.toList_eq]
      have hl : s.data.toList.length = s.size := by simp
      cases e : s.data.toList with
      | nil => rw [e] at hl; simp at hl; omega
      | cons a b => rfl
    simp [chk, this]
  · rw [← chk_true _ hne]
    cases e : partsB s with
    | nil => exact absurd e hne
    | cons p t =>
      cases t with
      | nil =>
        exfalso
        have h1 := partsB_length s
        rw [e] at h1
        simp at h1
        apply hm
        intro k hk h47
        obtain ⟨i, hik, hb, hno⟩ := least (fun k => byN s k = 47) k h47
        have hi : i < s.size := by omega
        have h2 := parts_hit s i hi hb hno
        rw [e] at h2
        have := parts_ne (s.extract (i + 1) s.size)
        simp at h2
        exact this h2.2
      | cons q t => rfl
theorem tail_byN (s : ByteArray) (f k : Nat) : byN (s.extract f s.size) k = byN s (f + k) := by
  unfold byN
  rw [tail_get]
theorem tail_head (s : ByteArray) (f i : Nat) : (s.extract f s.size).extract 0 (i - f) = s.extract f i := by
  apply ByteArray.ext
  simp only [ByteArray.data_extract]
  apply Array.ext'
  simp only [Array.toList_extract, List.extract_eq_take_drop]
  have hl : s.data.toList.length = s.size := by simp
  simp [List.take_take]
theorem tail_tail (s : ByteArray) (f i : Nat) (h : f ≤ i) : (s.extract f s.size).extract (i - f + 1) (s.extract f s.size).size = s.extract (i + 1) s.size := by
  apply ByteArray.ext
  apply Array.ext'
  rw [tl_eq, tl_eq, tl_eq, List.drop_drop]
  congr 1
  omega
/-- What is asked of the parts from a place on. -/
def restP (s : ByteArray) (f : Nat) : Bool := chk (decide (0 < f)) (partsB (s.extract f s.size))
theorem rest_last (s : ByteArray) (f : Nat) (hf : f ≤ s.size) (hno : ∀ k, f ≤ k → k < s.size → byN s k ≠ 47) : restP s f = !(((s.extract f s.size).toList == [] && !decide (0 < f)) || climbB (s.extract f s.size)) := by
  unfold restP
  rw [parts_miss (s.extract f s.size) (fun k hk => by rw [tail_byN]; rw [tail_size] at hk; exact hno _ (by omega) (by omega))]
  rfl
theorem rest_part (s : ByteArray) (f i : Nat) (h : f ≤ i) (hi : i < s.size) (h47 : byN s i = 47) (hno : ∀ k, f ≤ k → k < i → byN s k ≠ 47) : restP s f = (!((s.extract f i).toList == [] || climbB (s.extract f i)) && restP s (i + 1)) := by
  unfold restP
  rw [parts_hit (s.extract f s.size) (i - f) (by rw [tail_size]; omega) (by rw [tail_byN, show f + (i - f) = i by omega, h47]) (fun k hk => by rw [tail_byN]; exact hno _ (by omega) (by omega)), tail_head s f i, tail_tail s f i h, chk_more _ _ _ (parts_ne _)]
  rfl
#print axioms rest_part
#print axioms chk_whole
end Go.Proofs.YtlhikoomghbnjaaGreatDoor
