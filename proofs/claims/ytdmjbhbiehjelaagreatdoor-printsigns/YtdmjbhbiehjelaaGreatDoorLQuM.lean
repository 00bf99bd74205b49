/- A text between quotes, plainly. -/
import Derived.Test.YtdmjbhbiehjelaaGreatDoorK18
import Derived.Lib.ReplaceLaws
namespace Go.Proofs.YtdmjbhbiehjelaaGreatDoor
open Go.RowKit Go.Shelf

/-- Each quote doubled. -/
def qd : List UInt8 → List UInt8
  | [] => []
  | b :: l => if b = 34 then 34 :: 34 :: qd l else b :: qd l
theorem qd_append : ∀ A B, qd (A ++ B) = qd A ++ qd B
  | [], B => rfl
  | b :: l, B => by
    rw [List.cons_append, qd, qd, qd_append l B]
    split <;> rfl
theorem qd_len : ∀ A, (qd A).length ≤ 2 * A.length
  | [] => Nat.le_refl _
  | b :: l => by
    have := qd_len l
    rw [qd]
    split <;> simp <;> omega
theorem repK_ne (b c : UInt8) (new : List UInt8) (h : b ≠ c) : ∀ (k : Nat) (l : List UInt8), Lib.replaceK [c] new k (b :: l) = b :: Lib.replaceK [c] new k l
  | 0, l => rfl
  | k + 1, l => by
    have hp : ([c] : List UInt8).isPrefixOf (b :: l) = false := by simp [List.isPrefixOf, Ne.symm h]
    have hix : Lib.index (b :: l) [c] = if Lib.index l [c] == -1 then -1 else Lib.index l [c] + 1 := by rw [Lib.index, hp]; simp
    by_cases hm : Lib.index l [c] = -1
    · rw [Lib.replaceK, Lib.replaceK, hix, hm]
      simp
    · have hge := Lib.index_ge l [c]
      obtain ⟨i, hi⟩ : ∃ i : Nat, Lib.index l [c] = i := ⟨(Lib.index l [c]).toNat, by omega⟩
      have hix2 : Lib.index (b :: l) [c] = ((i + 1 : Nat) : Int) := by
        rw [hix, hi]
        have : ¬ ((i : Int) == -1) = true := fun e => by have := beq_iff_eq.1 e; omega
        rw [if_neg this]
        rfl
      rw [Lib.replaceK_hit _ _ _ _ _ hi, Lib.replaceK_hit _ _ _ _ _ hix2]
      simp
theorem repK_eq (c : UInt8) (new : List UInt8) (k : Nat) (l : List UInt8) : Lib.replaceK [c] new (k + 1) (c :: l) = new ++ Lib.replaceK [c] new k l := by
  have hix : Lib.index (c :: l) [c] = ((0 : Nat) : Int) := by rw [Lib.index]; simp [List.isPrefixOf]
  rw [Lib.replaceK_hit _ _ _ _ _ hix]
  simp
theorem repK_qd : ∀ (l : List UInt8) (k : Nat), Lib.count l [34] ≤ k → Lib.replaceK [34] [34, 34] k l = qd l
  | [], k, _ => by
    cases k with
    | zero => rfl
    | succ k => rw [Lib.replaceK]; simp [Lib.index, qd]
  | b :: l, k, h => by
    by_cases hb : b = 34
    · subst hb
      rw [Lib.count_cons_eq] at h
      obtain ⟨m, rfl⟩ : ∃ m, k = m + 1 := ⟨k - 1, by omega⟩
      rw [repK_eq, repK_qd l m (by omega), qd, if_pos rfl]
      rfl
    · rw [Lib.count_cons_ne b 34 l hb] at h
      rw [repK_ne b 34 _ hb, repK_qd l k h, qd, if_neg hb]
theorem rep_qd (l : List UInt8) : Lib.replace l [34] [34, 34] (-1) = qd l := by
  unfold Lib.replace Lib.replaceNum
  rw [if_neg (by decide), if_pos (Or.inl (by omega))]
  exact repK_qd l _ (Nat.le_refl _)
/-- A text between quotes. -/
def qtF (s : ByteArray) : ByteArray := baL (34 :: (qd s.data.toList ++ [34]))
theorem qtF_join (s : ByteArray) : (⟨#[34]⟩ : ByteArray) ++ baL (qd s.data.toList) ++ ⟨#[34]⟩ = qtF s := by
  show baL [34] ++ baL _ ++ baL [34] = _
  rw [baL_append, baL_append]
  rfl
def qtO (s : ByteArray) (i : Nat) : ByteArray := baL (34 :: qd (s.data.toList.take i))
theorem qtO_zero (s : ByteArray) : qtO s 0 = ⟨#[34]⟩ := by
  unfold qtO
  rw [List.take_zero]
  rfl
theorem qtO_end (s : ByteArray) : qtO s s.size ++ ⟨#[34]⟩ = qtF s := by
  unfold qtO
  rw [List.take_of_length_le (show s.data.toList.length ≤ s.size by rw [Array.length_toList]; exact Nat.le_refl _)]
  show baL _ ++ baL [34] = _
  rw [baL_append]
  rfl
theorem ext_one (s : ByteArray) (i : Nat) (h : i < s.size) : s.extract i (i + 1) = baL [s[i]] := by
  apply ByteArray.ext
  show (s.extract i (i + 1)).data = #[s[i]]
  rw [ByteArray.data_extract]
  apply Array.ext
  · have h' : i < s.data.size := h
    simp only [Array.size_extract]
    show min (i + 1) s.data.size - i = 1
    omega
  · intro j h1 h2
    simp at h1 h2
    have hj : j = 0 := by omega
    subst hj
    simp [ByteArray.getElem_eq_getElem_data]
theorem take_one (s : ByteArray) (i : Nat) (h : i < s.size) : s.data.toList.take (i + 1) = s.data.toList.take i ++ [s[i]] := by
  have hl : i < s.data.toList.length := by rw [Array.length_toList]; exact h
  rw [List.take_add_one, List.getElem?_eq_getElem hl]
  simp [ByteArray.getElem_eq_getElem_data]
theorem qtO_yes (s : ByteArray) (i : Nat) (h : i < s.size) (hb : (s[i]'h).toNat = 34) : qtO s i ++ ⟨#[34]⟩ ++ s.extract i (i + 1) = qtO s (i + 1) := by
  have hc : s[i] = 34 := UInt8.toNat_inj.1 hb
  unfold qtO
  rw [take_one s i h, ext_one s i h, hc, qd_append]
  show baL _ ++ baL [34] ++ baL [34] = _
  rw [baL_append, baL_append]
  simp [qd]
theorem qtO_no (s : ByteArray) (i : Nat) (h : i < s.size) (hb : ¬ (s[i]'h).toNat = 34) : qtO s i ++ s.extract i (i + 1) = qtO s (i + 1) := by
  have hc : ¬ s[i] = 34 := fun e => hb (by rw [e]; rfl)
  unfold qtO
  rw [take_one s i h, ext_one s i h, qd_append, baL_append]
  simp [qd, hc]
theorem qtO_size (s : ByteArray) (i : Nat) (h : i ≤ s.size) : (qtO s i).size ≤ 1 + 2 * i := by
  unfold qtO
  rw [baL_size, List.length_cons]
  have := qd_len (s.data.toList.take i)
  have h2 : (s.data.toList.take i).length ≤ i := by simp; omega
  omega
#print axioms rep_qd
#print axioms qtO_yes
#print axioms qtO_no
end Go.Proofs.YtdmjbhbiehjelaaGreatDoor
