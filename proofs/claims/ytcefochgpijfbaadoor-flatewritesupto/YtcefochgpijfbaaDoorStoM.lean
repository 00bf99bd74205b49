/- Stored blocks: plain mathematics. No Go text here. -/
import Derived.Test.YtcefochgpijfbaaDoorPack
namespace Go.Proofs.YtcefochgpijfbaaDoor

theorem getD_app (l m : List Bool) (i : Nat) : (l ++ m).getD i false = if i < l.length then l.getD i false else m.getD (i - l.length) false := by
  rw [List.getD_eq_getElem?_getD]
  by_cases h : i < l.length
  · rw [if_pos h, List.getElem?_append_left h, List.getD_eq_getElem?_getD]
  · rw [if_neg h, List.getElem?_append_right (by omega), List.getD_eq_getElem?_getD]
theorem packB_app (l m : List Bool) (h : l.length % 8 = 0) : packB (l ++ m) = packB l ++ packB m := by
  have hl : (packB l).length = l.length / 8 := by simp [packB]; omega
  apply List.ext_getElem
  · simp [packB]; omega
  · intro i h1 h2
    have h1' : i < ((l ++ m).length + 7) / 8 := by simpa [packB] using h1
    rw [packB_get _ i h1', List.getElem_append]
    by_cases hi : i < (packB l).length
    · rw [dif_pos hi, packB_get _ i (by simpa [packB] using hi)]
      unfold byteOf
      refine ofB_congr _ _ _ (fun k hk => ?_)
      rw [getD_app, if_pos (by omega)]
    · rw [dif_neg hi]
      have h3 : i - (packB l).length < (m.length + 7) / 8 := by simp at h1'; omega
      rw [packB_get _ _ h3]
      unfold byteOf
      refine ofB_congr _ _ _ (fun k hk => ?_)
      rw [getD_app, if_neg (by omega), show 8 * i + k - l.length = 8 * (i - (packB l).length) + k by omega]
/-- One stored block. -/
def blkB (f : Nat) (b : List Nat) : List Nat := [f, b.length % 256, b.length / 256, 255 - b.length % 256, 255 - b.length / 256] ++ b
/-- Stored blocks, the last one with the flag f. -/
def storedF (f : Nat) (b : List Nat) : List Nat :=
  if 65535 < b.length then blkB 0 (b.take 65535) ++ storedF f (b.drop 65535) else blkB f b
termination_by b.length
decreasing_by simp; omega
theorem storedF_more (f : Nat) (b : List Nat) (h : 65535 < b.length) : storedF f b = blkB 0 (b.take 65535) ++ storedF f (b.drop 65535) := by rw [storedF, if_pos h]
theorem storedF_last (f : Nat) (b : List Nat) (h : ¬ 65535 < b.length) : storedF f b = blkB f b := by rw [storedF, if_neg h]
theorem storedF_len (f : Nat) (b : List Nat) : (storedF f b).length ≤ b.length + 5 + b.length / 65535 * 5 := by
  rw [storedF]
  split
  · have ih := storedF_len f (b.drop 65535)
    simp [blkB] at ih ⊢
    omega
  · simp [blkB]
termination_by b.length
decreasing_by simp; omega
theorem alignB_mod (l : List Bool) : (alignB l).length % 8 = 0 := by rw [alignB_length]; omega
theorem packB_more (l : List Bool) (D : List Nat) (hD : ∀ x ∈ D, x < 256) : packB (alignB l ++ bitsOf D) = packB l ++ D := by
  rw [packB_bytes _ _ (alignB_mod l) hD, packB_align]
theorem bitsOf_mod (l : List Bool) (D : List Nat) (h : l.length % 8 = 0) : (l ++ bitsOf D).length % 8 = 0 := by
  simp [bitsOf]; omega
#print axioms packB_app
#print axioms storedF_len
end Go.Proofs.YtcefochgpijfbaaDoor
