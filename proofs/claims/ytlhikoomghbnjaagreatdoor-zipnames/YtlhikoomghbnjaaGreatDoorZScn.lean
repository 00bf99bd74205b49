/- Which names are well formed: the document's first loop, against the program's tests. -/
import Derived.Test.YtlhikoomghbnjaaGreatDoorZWel
import Derived.Test.YtlhikoomghbnjaaGreatDoorZName
import Derived.Lib.TrimU
namespace Go.Proofs.YtlhikoomghbnjaaGreatDoor
open Go.RowKit

theorem tail_size (s : ByteArray) (a : Nat) : (s.extract a s.size).size = s.size - a := by simp
theorem tail_get (s : ByteArray) (a i : Nat) : (s.extract a s.size).get! i = s.get! (a + i) := by
  by_cases h : a + i < s.size
  · show (s.extract a s.size).data[i]! = s.data[a + i]!
    have h1 : i < (s.extract a s.size).data.size := by show i < (s.extract a s.size).size; rw [tail_size]; omega
    have h2 : a + i < s.data.size := h
    rw [getElem!_pos (s.extract a s.size).data i h1, getElem!_pos s.data (a + i) h2]
    simp
  · have h1 : (s.extract a s.size).get! i = default := by
      show (s.extract a s.size).data[i]! = _
      exact getElem!_neg _ _ (show ¬ i < (s.extract a s.size).size by rw [tail_size]; omega)
    have h2 : s.get! (a + i) = default := by
      show s.data[a + i]! = _
      exact getElem!_neg _ _ (show ¬ a + i < s.size from h)
    rw [h1, h2]
theorem tail_decode (s : ByteArray) (a p : Nat) : Utf8.decode (s.extract a s.size) p = Utf8.decode s (a + p) := by
  rw [Lib.decode_at, Lib.decode_at, tail_size, tail_get, tail_get, tail_get, tail_get]
  rw [show s.size - a - p = s.size - (a + p) by omega, show a + (p + 1) = a + p + 1 by omega, show a + (p + 2) = a + p + 2 by omega, show a + (p + 3) = a + p + 3 by omega]
theorem tl_eq (s : ByteArray) (p : Nat) : (s.extract p s.size).data.toList = s.data.toList.drop p := by
  have h : s.size = s.data.toList.length := by simp
  simp only [ByteArray.data_extract, Array.toList_extract, List.extract_eq_take_drop]
  rw [List.take_of_length_le (by rw [List.length_drop]; omega)]
theorem arr_back (t : ByteArray) : (⟨t.data.toList.toArray⟩ : ByteArray) = t := by cases t; simp
theorem decodeL_at (s : ByteArray) (p : Nat) : Lib.decodeL (s.data.toList.drop p) = Utf8.decode s p := by
  unfold Lib.decodeL
  rw [← tl_eq, arr_back, tail_decode, Nat.add_zero]
theorem byN_list (s : ByteArray) (k : Nat) (h : k < s.data.toList.length) : (s.data.toList[k]).toNat = byN s k := by
  unfold byN
  show _ = (s.data[k]!).toNat
  have h' : k < s.data.size := by simpa using h
  rw [getElem!_pos s.data k h']
  simp
theorem wellF_cont (s : ByteArray) (p : Nat) (hp : p < s.size) (h : wellF s p ≠ 0) : p + wellF s p ≤ s.size ∧ ∀ k, 1 ≤ k → k < wellF s p → 128 ≤ byN s (p + k) ∧ byN s (p + k) ≤ 191 := by
  unfold wellF at h ⊢
  split at h
  · rename_i c
    rw [if_pos c]
    exact ⟨by omega, fun k h1 h2 => by omega⟩
  · rename_i c
    rw [if_neg c]
    split at h
    · exact absurd rfl h
    · rename_i c2
      rw [if_neg c2]
      split at h
      · rename_i c3
        rw [if_pos c3]
        exact ⟨by omega, fun k h1 h2 => (c3 k h2 h1).2⟩
      · exact absurd rfl h
/-- What is asked of the bytes from a place on. -/
def scanP (s : ByteArray) (p : Nat) : Bool := Lib.validD (s.data.toList.drop p) && (s.data.toList.drop p).all fun b => nbOK b.toNat
theorem scanP_end (s : ByteArray) (p : Nat) (h : s.size ≤ p) : scanP s p = true := by
  unfold scanP
  rw [List.drop_eq_nil_of_le (by simpa using h), Lib.validD_nil]
  rfl
theorem drop_ne (s : ByteArray) (p : Nat) (hp : p < s.size) : s.data.toList.drop p ≠ [] := by
  intro e
  have := congrArg List.length e
  have h' : p < s.data.size := hp
  simp at this
  omega
theorem scanP_bad (s : ByteArray) (p : Nat) (hp : p < s.size) (h : wellF s p = 0) : scanP s p = false := by
  unfold scanP
  rw [Lib.validD_step _ (drop_ne s p hp), decodeL_at]
  rw [wellF_dec s p hp] at h
  split at h
  · rename_i c
    rw [if_pos c]
    rfl
  · rename_i c
    exfalso
    have := Lib.decodeN_ge1 (s.size - p) (s.get! p).toNat (s.get! (p + 1)).toNat (s.get! (p + 2)).toNat (s.get! (p + 3)).toNat
    rw [← Lib.decode_at] at this
    omega
theorem scanP_not (s : ByteArray) (p : Nat) (hp : p < s.size) (h : nbOK (byN s p) = false) : scanP s p = false := by
  unfold scanP
  have h' : p < s.data.toList.length := by simpa using hp
  rw [List.drop_eq_getElem_cons h', List.all_cons, byN_list s p h', h]
  simp
theorem scanP_step (s : ByteArray) (p : Nat) (hp : p < s.size) (h : wellF s p ≠ 0) (hn : nbOK (byN s p) = true) : scanP s p = scanP s (p + wellF s p) := by
  have hc := wellF_cont s p hp h
  have hd : (Utf8.decode s p).2 = wellF s p ∧ ¬ ((Utf8.decode s p).1 = 65533 ∧ (Utf8.decode s p).2 = 1) := by
    rw [wellF_dec s p hp] at h ⊢
    split at h
    · exact absurd rfl h
    · rename_i c
      rw [if_neg c]
      exact ⟨rfl, c⟩
  have hall : ((s.data.toList.drop p).take (wellF s p)).all (fun b => nbOK b.toNat) = true := by
    rw [List.all_eq_true]
    intro b hb
    obtain ⟨k, hk, rfl⟩ := List.mem_take_iff_getElem.1 hb
    have hlen : s.data.toList.length = s.size := by simp
    simp only [List.length_drop] at hk
    have hk2 : p + k < s.data.toList.length := by omega
    rw [List.getElem_drop, byN_list s (p + k) hk2]
    by_cases h0 : k = 0
    · subst h0
      exact hn
    · have := hc.2 k (by omega) (by omega)
      unfold nbOK
      simp
      omega
  unfold scanP
  rw [Lib.validD_step _ (drop_ne s p hp), decodeL_at, if_neg hd.2, hd.1, List.drop_drop]
  congr 1
  have e : s.data.toList.drop p = (s.data.toList.drop p).take (wellF s p) ++ s.data.toList.drop (p + wellF s p) := by
    rw [← List.drop_drop, List.take_append_drop]
  rw [e, List.all_append, hall, Bool.true_and]
#print axioms scanP_step
end Go.Proofs.YtlhikoomghbnjaaGreatDoor
