/- Digits of any float: the document's. -/
import Derived.Test.YtnklmcmdlobicaaGreatDoorXSgn
import Derived.LoopN
namespace Go.Proofs.YtnklmcmdlobicaaGreatDoor
open Go.RowKit Ieee Go.Shelf

theorem baOf_app (A B : List Nat) : baOf A ++ baOf B = baOf (A ++ B) := by
  apply ByteArray.ext
  apply Array.toList_inj.1
  simp [baOf]
theorem ba_at (T : List Nat) (s : ByteArray) (hs : s = ⟨(T.map UInt8.ofNat).toArray⟩) (i : Nat) (h : i < s.size) (h2 : i < T.length) (h3 : T[i] < 256) : (s[i]'h).toNat = T[i] := by
  subst hs
  show (((T.map UInt8.ofNat).toArray)[i]'_).toNat = _
  simp
  omega
theorem baOf_at (T : List Nat) (i : Nat) (h : i < (baOf T).size) (h2 : i < T.length) (h3 : T[i] < 256) : ((baOf T)[i]'h).toNat = T[i] := ba_at T _ rfl i h h2 h3
theorem baOf_cut (T : List Nat) (a b : Nat) : (baOf T).extract a b = baOf ((T.take b).drop a) := by
  apply ByteArray.ext
  apply Array.toList_inj.1
  simp [baOf, List.drop_take, List.map_drop, List.map_take]
/-- The digits of a text of digits and a point. -/
def dgs (L : List Nat) : List Nat := L.filter (fun z => z != 46)
theorem dgs_mText (Ds : List Nat) (hd : ∀ z ∈ Ds, z ≠ 46) (hl : 1 ≤ Ds.length) : dgs (mText Ds) = Ds := by
  have hf : ∀ L : List Nat, (∀ z ∈ L, z ≠ 46) → L.filter (fun z => z != 46) = L := fun L h => List.filter_eq_self.2 (fun z hz => by simpa using h z hz)
  unfold dgs mText
  by_cases h : 1 < Ds.length
  · rw [if_pos h, List.filter_append, hf _ (fun z hz => hd z (List.mem_of_mem_take hz)), List.filter_cons_of_neg (by simp), hf _ (fun z hz => hd z (List.mem_of_mem_drop hz)), List.take_append_drop]
  · rw [if_neg h, List.append_nil, hf _ (fun z hz => hd z (List.mem_of_mem_take hz)), List.take_of_length_le (by omega)]
theorem dgs_step (L : List Nat) (k : Nat) (h : k < L.length) : dgs (L.take (k + 1)) = dgs (L.take k) ++ (if L[k] = 46 then [] else [L[k]]) := by
  unfold dgs
  rw [List.take_succ_eq_append_getElem h, List.filter_append]
  congr 1
  by_cases c : L[k] = 46
  · rw [if_pos c, List.filter_cons_of_neg (by simp [c])]
    rfl
  · rw [if_neg c, List.filter_cons_of_pos (by simp [c])]
    rfl
theorem dgs_len (L : List Nat) : (dgs L).length ≤ L.length := List.length_filter_le _ _
end Go.Proofs.YtnklmcmdlobicaaGreatDoor
