/- The digits of the whole number that is one more: the document's raised. -/
import Derived.Test.YtdplcmcbnkiifaaGreatDoorXRsd
import Derived.Laws.IdiomStrings
import Derived.Lib.OthersKept
namespace Go.Proofs.YtdplcmcbnkiifaaGreatDoor
open Go.RowKit Ieee Go.Shelf

theorem get_data (s : ByteArray) (j : Nat) (h : j < s.size) : s.get! j = s.data[j]'h := by
  show s.data[j]! = _
  exact getElem!_pos _ _ _
/-- The bytes that a block begins with. -/
structure CellsB (w : World) (b n : Nat) (g : Nat → Nat) : Prop where
  ex : ∃ cs fz, w.heap[b]? = some (.cells cs 5 fz) ∧ n ≤ fz.1 ∧ ∀ j, j < n → cs[j]? = some (.int .u8 ((g j : Nat) : Int))
theorem CellsB.cell {w : World} {b n : Nat} {g : Nat → Nat} (h : CellsB w b n g) (j : Nat) (hj : j < n) : w.cell? ⟨b, j, none⟩ = some (.int .u8 ((g j : Nat) : Int)) := by
  obtain ⟨⟨cs, fz, h1, h2, h3⟩⟩ := h
  simp [World.cell?, h1, h3 j hj]
theorem CellsB.free {w : World} {b n : Nat} {g : Nat → Nat} (h : CellsB w b n g) (j : Nat) (hj : j < n) : w.frozen? ⟨b, j, none⟩ = false := by
  obtain ⟨⟨cs, fz, h1, h2, h3⟩⟩ := h
  simp [World.frozen?, h1]
  omega
theorem CellsB.obj {w w' : World} {b n : Nat} {g : Nat → Nat} (h : CellsB w b n g) (hk : w'.heap[b]? = w.heap[b]?) : CellsB w' b n g := by
  obtain ⟨⟨cs, fz, h1, h2⟩⟩ := h
  exact ⟨⟨cs, fz, hk.trans h1, h2⟩⟩
theorem CellsB.set {w : World} {b n : Nat} {g : Nat → Nat} (h : CellsB w b n g) (j v : Nat) : CellsB (w.setCell ⟨b, j, none⟩ (.int .u8 ((v : Nat) : Int))) b n (fun i => if i = j then v else g i) := by
  obtain ⟨⟨cs, fz, h1, h2, h3⟩⟩ := h
  refine ⟨⟨cs.setIfInBounds j (.int .u8 ((v : Nat) : Int)), fz, ?_, h2, fun i hi => ?_⟩⟩
  · have hlt := lt_of_block h1
    have h' : w.heap[b] = .cells cs 5 fz := by simpa [Array.getElem?_eq_getElem hlt] using h1
    show (w.heap.modify b _)[b]? = _
    rw [Array.getElem?_eq_getElem (by simpa using hlt), Array.getElem_modify_self, h']
    rfl
  · have := h3 i hi
    by_cases e : j = i
    · subst e
      have hl : j < cs.size := (Array.getElem?_eq_some_iff.1 this).1
      simp [hl]
    · rw [Array.getElem?_setIfInBounds_ne e, this]
      simp [show ¬ i = j by omega]
theorem CellsB.congr {w : World} {b n : Nat} {g g' : Nat → Nat} (h : CellsB w b n g) (e : ∀ j, j < n → g j = g' j) : CellsB w b n g' := by
  obtain ⟨⟨cs, fz, h1, h2, h3⟩⟩ := h
  exact ⟨⟨cs, fz, h1, h2, fun j hj => by rw [h3 j hj, e j hj]⟩⟩
theorem bytes_of (s : ByteArray) (w : World) : ∃ c W0, (convert 9 83 (.string s)).run Tryz.prog w = .ok (.slice (some ⟨w.heap.size, 0, none⟩) s.size c) W0 ∧ CellsB W0 w.heap.size s.size (fun j => (s.get! j).toNat) ∧ Fr noB w W0 ∧ W0.heap.size = w.heap.size + 1 := by
  refine ⟨_, _, run_bytes_of_string w 9 83 5 s Tryz.underlying9 Tryz.underlying83 Tryz.underlying5, ?_, ((Fr.refl noB w).drew).alloc _, by simp⟩
  refine ⟨⟨_, _, heap_alloc_new w.drew _, ?_, fun j hj => ?_⟩⟩
  · simp [bytesRow]
  · have e : s.get! j = s.data[j]'hj := get_data s j hj
    have hj' : j < s.data.size := hj
    show _ = some (Value.int .u8 (((s.get! j).toNat : Nat) : Int))
    rw [e]
    simp [bytesRow, Array.getElem?_append]
    rw [if_pos hj, Array.getElem?_eq_getElem hj']
    rfl
theorem back_list (X : List UInt8) (w : World) (b c : Nat) (h : CellsB w b X.length (fun j => (X.getD j 0).toNat)) : (convert 83 9 (.slice (some ⟨b, 0, none⟩) X.length c)).run Tryz.prog w = .ok (.string (baL X)) w :=
  run_convert_bytes_back (P := Tryz.prog) w 83 9 5 ⟨b, 0, none⟩ c X Tryz.underlying83 Tryz.underlying5 Tryz.underlying9 (by
    intro j hj
    rw [add_none, Nat.zero_add, h.cell j hj]
    simp [List.getD, hj])
theorem drop_nines (k : Nat) (R : List UInt8) : (List.replicate k (57 : UInt8) ++ R).dropWhile (fun x => x == 57) = R.dropWhile (fun x => x == 57) := by
  induction k with
  | zero => simp
  | succ k ih => rw [List.replicate_succ, List.cons_append, List.dropWhile_cons_of_pos (by simp), ih]
theorem rs_hit (A : List UInt8) (c : UInt8) (k : Nat) (hc : c ≠ 57) : rsL (A ++ [c] ++ List.replicate k 57) = A ++ (c + 1) :: List.replicate k 48 := by
  have ht : Lib.trimRightB (A ++ [c] ++ List.replicate k 57) 57 = A ++ [c] := by
    unfold Lib.trimRightB
    rw [List.reverse_append, List.reverse_replicate, drop_nines, List.reverse_append, List.reverse_singleton, List.singleton_append, List.dropWhile_cons_of_neg (by simpa using hc)]
    simp
  unfold rsL
  rw [ht]
  simp
  omega
theorem rs_all (k : Nat) : rsL (List.replicate k 57) = 49 :: List.replicate k 48 := by
  have ht : Lib.trimRightB (List.replicate k 57) 57 = [] := by
    unfold Lib.trimRightB
    rw [List.reverse_replicate]
    have := drop_nines k []
    rw [List.append_nil] at this
    rw [this]
    rfl
  unfold rsL
  rw [ht]
  simp
end Go.Proofs.YtdplcmcbnkiifaaGreatDoor
