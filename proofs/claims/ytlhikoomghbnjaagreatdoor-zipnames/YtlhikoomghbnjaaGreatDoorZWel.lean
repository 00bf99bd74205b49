/- The document's well: how many bytes of well-formed UTF-8 stand at a place. -/
import Derived.Test.YtlhikoomghbnjaaGreatDoorZBas
import Derived.Lib.DecodeN
import Derived.Lib.ValidLaws
namespace Go.Proofs.YtlhikoomghbnjaaGreatDoor
open Go.RowKit

/-- The byte at a place. -/
def byN (s : ByteArray) (k : Nat) : Nat := (s.get! k).toNat
theorem byN_lt (s : ByteArray) (k : Nat) : byN s k < 256 := (s.get! k).toNat_lt
/-- What a leading byte asks: how many bytes, and the bounds of the second. -/
def headW (c : Nat) : Nat × Nat × Nat :=
  if c < 194 then (0, 128, 191) else if c < 224 then (2, 128, 191) else if c < 240 then (3, if c = 224 then 160 else 128, if c = 237 then 159 else 191)
  else if c < 245 then (4, if c = 240 then 144 else 128, if c = 244 then 143 else 191) else (0, 128, 191)
/-- May a byte stand at the place i of a character? -/
def okW (lo hi i x : Nat) : Prop := (i = 1 → lo ≤ x ∧ x ≤ hi) ∧ 128 ≤ x ∧ x ≤ 191
instance (lo hi i x : Nat) : Decidable (okW lo hi i x) := by unfold okW; infer_instance
def wellF (s : ByteArray) (p : Nat) : Nat :=
  if byN s p < 128 then 1
  else if (headW (byN s p)).1 = 0 ∨ s.size < p + (headW (byN s p)).1 then 0
  else if ∀ k, k < (headW (byN s p)).1 → 1 ≤ k → okW (headW (byN s p)).2.1 (headW (byN s p)).2.2 k (byN s (p + k)) then (headW (byN s p)).1 else 0
theorem all2 (Q : Nat → Prop) : (∀ k, k < 2 → 1 ≤ k → Q k) ↔ Q 1 := ⟨fun h => h 1 (by decide) (by decide), fun h k h1 h2 => by
  obtain rfl : k = 1 := by omega
  exact h⟩
theorem all3 (Q : Nat → Prop) : (∀ k, k < 3 → 1 ≤ k → Q k) ↔ Q 1 ∧ Q 2 := ⟨fun h => ⟨h 1 (by decide) (by decide), h 2 (by decide) (by decide)⟩, fun h k h1 h2 => by
  rcases (show k = 1 ∨ k = 2 by omega) with rfl | rfl
  · exact h.1
  · exact h.2⟩
theorem all4 (Q : Nat → Prop) : (∀ k, k < 4 → 1 ≤ k → Q k) ↔ Q 1 ∧ Q 2 ∧ Q 3 := ⟨fun h => ⟨h 1 (by decide) (by decide), h 2 (by decide) (by decide), h 3 (by decide) (by decide)⟩, fun h k h1 h2 => by
  rcases (show k = 1 ∨ k = 2 ∨ k = 3 by omega) with rfl | rfl | rfl
  · exact h.1
  · exact h.2.1
  · exact h.2.2⟩
/-- The same over four bytes. -/
def wellN (n b0 b1 b2 b3 : Nat) : Nat :=
  if b0 < 128 then 1
  else if b0 < 194 then 0
  else if b0 < 224 then (if 2 ≤ n ∧ 128 ≤ b1 ∧ b1 ≤ 191 then 2 else 0)
  else if b0 < 240 then (if 3 ≤ n ∧ (if b0 = 224 then 160 else 128) ≤ b1 ∧ b1 ≤ (if b0 = 237 then 159 else 191) ∧ 128 ≤ b2 ∧ b2 ≤ 191 then 3 else 0)
  else if b0 < 245 then (if 4 ≤ n ∧ (if b0 = 240 then 144 else 128) ≤ b1 ∧ b1 ≤ (if b0 = 244 then 143 else 191) ∧ 128 ≤ b2 ∧ b2 ≤ 191 ∧ 128 ≤ b3 ∧ b3 ≤ 191 then 4 else 0)
  else 0
set_option maxHeartbeats 4000000 in
theorem wellN_dec (n b0 b1 b2 b3 : Nat) (h0 : b0 < 256) (h1 : b1 < 256) (h2 : b2 < 256) (h3 : b3 < 256) :
    wellN n b0 b1 b2 b3 = if (Lib.decodeN n b0 b1 b2 b3).1 = 65533 ∧ (Lib.decodeN n b0 b1 b2 b3).2 = 1 then 0 else (Lib.decodeN n b0 b1 b2 b3).2 := by
  unfold wellN Lib.decodeN
  by_cases c1 : b0 < 128
  · simp [c1] <;> omega
  by_cases c2 : b0 < 194
  · rw [if_neg c1, if_pos c2, if_neg c1]
    repeat' split
    all_goals first | rfl | (exfalso; simp at * <;> omega)
  by_cases c3 : b0 < 224
  · rw [if_neg c1, if_neg c2, if_pos c3, if_neg c1]
    repeat' split
    all_goals first | rfl | (exfalso; simp at * <;> omega)
  by_cases c4 : b0 < 240
  · rw [if_neg c1, if_neg c2, if_neg c3, if_pos c4, if_neg c1]
    repeat' split
    all_goals first | rfl | (exfalso; simp at * <;> omega)
  by_cases c5 : b0 < 245
  · rw [if_neg c1, if_neg c2, if_neg c3, if_neg c4, if_pos c5, if_neg c1]
    repeat' split
    all_goals first | rfl | (exfalso; simp at * <;> omega)
  · rw [if_neg c1, if_neg c2, if_neg c3, if_neg c4, if_neg c5, if_neg c1]
    repeat' split
    all_goals first | rfl | (exfalso; simp at * <;> omega)
theorem wellF_N (s : ByteArray) (p : Nat) (hp : p < s.size) : wellF s p = wellN (s.size - p) (byN s p) (byN s (p + 1)) (byN s (p + 2)) (byN s (p + 3)) := by
  unfold wellF wellN
  by_cases c1 : byN s p < 128
  · rw [if_pos c1, if_pos c1]
  rw [if_neg c1, if_neg c1]
  unfold headW
  by_cases c2 : byN s p < 194
  · simp [c2]
  by_cases c3 : byN s p < 224
  · simp only [if_neg c2, if_pos c3, all2, okW]
    repeat' split
    all_goals first | rfl | (exfalso; simp at * <;> omega)
  by_cases c4 : byN s p < 240
  · simp only [if_neg c2, if_neg c3, if_pos c4, all3, okW]
    repeat' split
    all_goals first | rfl | (exfalso; simp at * <;> omega)
  by_cases c5 : byN s p < 245
  · simp only [if_neg c2, if_neg c3, if_neg c4, if_pos c5, all4, okW]
    repeat' split
    all_goals first | rfl | (exfalso; simp at * <;> omega)
  · simp [c2, c3, c4, c5]
theorem wellF_dec (s : ByteArray) (p : Nat) (hp : p < s.size) : wellF s p = if (Utf8.decode s p).1 = 65533 ∧ (Utf8.decode s p).2 = 1 then 0 else (Utf8.decode s p).2 := by
  rw [wellF_N s p hp, wellN_dec _ _ _ _ _ (byN_lt _ _) (byN_lt _ _) (byN_lt _ _) (byN_lt _ _), Lib.decode_at]
  rfl
#print axioms wellF_dec
end Go.Proofs.YtlhikoomghbnjaaGreatDoor
