/- Plain mathematics: numbers of bits, cut; two bytes as a number. No Go text here. -/
import Derived.Test.YthgnhcdodfildaaDoorK25
namespace Go.Proofs.YthgnhcdodfildaaDoor

theorem numAt_add (B : List Nat) (p a : Nat) : ∀ b, numAt B p (a + b) = numAt B p a + 2 ^ a * numAt B (p + a) b := by
  intro b
  induction b with
  | zero => simp [numAt_zero]
  | succ b ih =>
    rw [← Nat.add_assoc, numAt_succ, ih, numAt_succ, Nat.mul_add, Nat.add_assoc]
    congr 1
    rw [show p + a + b = p + (a + b) by omega, Nat.pow_add]
    congr 1
    rw [← Nat.mul_assoc, ← Nat.mul_assoc, Nat.mul_comm _ (2 ^ a)]
/-- One byte, read as eight bits. -/
theorem numAt_byte (B : List Nat) (hB : ∀ x ∈ B, x < 256) (f : Nat) : numAt B (8 * f) 8 = B.getD f 0 := by
  have hx := getD_lt hB f
  have h : ∀ k, k < 8 → (8 * f + k) / 8 = f ∧ (8 * f + k) % 8 = k := fun k hk => by omega
  have e : ∀ x : Fin 256, bitN x.1 0 * 2 ^ 0 + bitN x.1 1 * 2 ^ 1 + bitN x.1 2 * 2 ^ 2 + bitN x.1 3 * 2 ^ 3 + bitN x.1 4 * 2 ^ 4 + bitN x.1 5 * 2 ^ 5 + bitN x.1 6 * 2 ^ 6 + bitN x.1 7 * 2 ^ 7 = x.1 := by decide +kernel
  have e1 := e ⟨B.getD f 0, hx⟩
  simp only at e1
  rw [show (8 : Nat) = 7 + 1 from rfl, numAt_succ, show (7 : Nat) = 6 + 1 from rfl, numAt_succ, show (6 : Nat) = 5 + 1 from rfl, numAt_succ, show (5 : Nat) = 4 + 1 from rfl, numAt_succ, show (4 : Nat) = 3 + 1 from rfl, numAt_succ, show (3 : Nat) = 2 + 1 from rfl, numAt_succ, show (2 : Nat) = 1 + 1 from rfl, numAt_succ, show (1 : Nat) = 0 + 1 from rfl, numAt_succ, numAt_zero]
  simp only [Nat.zero_add, Nat.reduceAdd]
  rw [(h 0 (by omega)).1, (h 0 (by omega)).2, (h 1 (by omega)).1, (h 1 (by omega)).2, (h 2 (by omega)).1, (h 2 (by omega)).2, (h 3 (by omega)).1, (h 3 (by omega)).2, (h 4 (by omega)).1, (h 4 (by omega)).2, (h 5 (by omega)).1, (h 5 (by omega)).2, (h 6 (by omega)).1, (h 6 (by omega)).2, (h 7 (by omega)).1, (h 7 (by omega)).2]
  exact e1
theorem numAt_sh (B : List Nat) (hB : ∀ x ∈ B, x < 256) (f : Nat) : numAt B (8 * f) 16 = shA B f := by
  rw [show (16 : Nat) = 8 + 8 from rfl, numAt_add, numAt_byte B hB f, show 8 * f + 8 = 8 * (f + 1) by omega, numAt_byte B hB (f + 1)]
  rfl
#print axioms numAt_add
#print axioms numAt_sh
end Go.Proofs.YthgnhcdodfildaaDoor
