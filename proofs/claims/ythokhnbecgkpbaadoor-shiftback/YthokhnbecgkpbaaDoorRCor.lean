/- A stand-in: what refs' texts want of those that this seat has not. -/
import Derived.Test.YthokhnbecgkpbaaDoorRSht
namespace Go.Proofs.YthokhnbecgkpbaaDoor
open Go.RowKit Go.Shelf

theorem emp_yes (t : ByteArray) (h : t.size = 0) : t.toList.isEmpty = true := by
  rw [ByteArray.toList_eq]
  have : t.data.toList = [] := List.length_eq_zero_iff.1 (by simpa using h)
  rw [this]
  rfl
theorem emp_no (W : ByteArray) (h : 0 < W.size) : W.toList.isEmpty = false := by
  rw [ByteArray.toList_eq]
  have : W.data.toList.length = W.size := by simp
  cases hl : W.data.toList with
  | nil => rw [hl] at this; simp at this; omega
  | cons => rfl
theorem lt_of_cell {w : World} {a : Addr} {v : Value} (h : w.cell? a = some v) : a.block < w.heap.size := by
  rcases Nat.lt_or_ge a.block w.heap.size with h' | h'
  · exact h'
  · simp [World.cell?, Array.getElem?_eq_none h'] at h
theorem ext_byt (s : ByteArray) (p q i : Nat) (hq : q ≤ s.size) (h : p + i < q) : byt (s.extract p q) i = byt s (p + i) := by
  rw [← byt_at (s.extract p q) i (by simp; omega), ← byt_at s (p + i) (by omega), ByteArray.getElem_extract]
end Go.Proofs.YthokhnbecgkpbaaDoor
