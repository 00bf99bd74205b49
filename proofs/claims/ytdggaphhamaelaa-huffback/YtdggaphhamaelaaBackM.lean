/- What Put writes of symbols, read as symbols. No Go text here. -/
import Derived.Test.YtdggaphhamaelaaPutsM
namespace Go.Proofs.Ytdggaphhamaelaa
open Go.RowKit

/-- The bits of the symbols K, one behind the other. -/
def kbits (M : List Nat) : List Nat → List Bool
  | [] => []
  | s :: K => bitsN (revN (codeN M s) (M.getD s 0)) (M.getD s 0) ++ kbits M K
theorem kbits_snoc (M K : List Nat) (s : Nat) : kbits M (K ++ [s]) = kbits M K ++ bitsN (revN (codeN M s) (M.getD s 0)) (M.getD s 0) := by
  induction K with
  | nil => simp [kbits]
  | cons x K ih => simp [kbits, ih]
theorem kbits_append (M K J : List Nat) : kbits M (K ++ J) = kbits M K ++ kbits M J := by
  induction K with
  | nil => simp [kbits]
  | cons x K ih => simp [kbits, ih]
theorem kbits_len (M K : List Nat) (h : ∀ s ∈ K, M.getD s 0 ≤ 15) : (kbits M K).length ≤ 15 * K.length := by
  induction K with
  | nil => simp [kbits]
  | cons x K ih =>
    have h1 := h x (by simp)
    have h2 := ih (fun s hs => h s (by simp [hs]))
    simp only [kbits, List.length_append, bitsN_length, List.length_cons]
    omega
/-- Bits that begin with a code: as far as the code goes they are its highest bits. -/
theorem msb_code (B : List Nat) (p c n : Nat) (hc : c < 2 ^ n) (h : ∀ i, i < n → bitQ B (p + i) = bitN c (n - 1 - i)) (k : Nat) (hk : k ≤ n) : msb B p k = c / 2 ^ (n - k) := by
  induction k with
  | zero => rw [Nat.sub_zero, Nat.div_eq_of_lt hc]; rfl
  | succ k ih =>
    have e1 := ih (by omega)
    have e2 := h k (by omega)
    show 2 * msb B p k + bitQ B (p + k) = _
    rw [e1, e2, bitN_eq, show n - 1 - k = n - (k + 1) by omega]
    have e3 : n - k = (n - (k + 1)) + 1 := by omega
    rw [e3, Nat.pow_succ, ← Nat.div_div_eq_div_mul]
    omega
/-- A symbol whose code stands there is read. -/
theorem rdA_code {M : List Nat} (hM : Code M) (B : List Nat) (p s : Nat) (hs : s < M.length) (h0 : 0 < M[s]) (hlen : p + M[s] ≤ 8 * B.length) (h : ∀ i, i < M[s] → bitQ B (p + i) = bitN (codeN M s) (M[s] - 1 - i)) :
    rdA M B p = (s, 0, p + M[s]) := by
  have h15 := hM.le _ (List.getElem_mem hs)
  have hc := codeN_lt hM s hs
  have hlong := long_ge hM.le s hs
  have key : ∀ k, k ≤ M[s] → k < M[s] → rdA M B p = rdT M B p (16 - k) k := by
    intro k
    induction k with
    | zero => intro _ _; rfl
    | succ k ih =>
      intro h1 h2
      rw [ih (by omega) (by omega), show 16 - k = (16 - (k + 1)) + 1 by omega]
      refine rdT_miss M B p _ k (by omega) (by omega) ?_
      have e := msb_code B p _ _ hc h (k + 1) (by omega)
      have g := prefix_ge s (k + 1) hs (by omega) h15
      unfold hitB
      rw [e]
      simpa using g
  have e := key (M[s] - 1) (by omega) (by omega)
  rw [e, show 16 - (M[s] - 1) = (15 - (M[s] - 1)) + 1 by omega]
  have em := msb_code B p _ _ hc h M[s] (Nat.le_refl _)
  rw [Nat.sub_self, Nat.pow_zero, Nat.div_one] at em
  have hin := code_in s hs h0
  have e1 : M[s] - 1 + 1 = M[s] := by omega
  rw [rdT_hit M B p _ (M[s] - 1) (by omega) (by omega) (by unfold hitB; rw [e1, em]; simpa using hin.2), e1, em, sym_code hM.le s hs h0]
/-- Among all that was written each symbol is read in its turn. -/
theorem back_read {M : List Nat} (hM : Code M) (K J : List Nat) (s : Nat) (hs : s < M.length) (h0 : 0 < M[s]) :
    rdA M (packB (kbits M (K ++ s :: J))) (kbits M K).length = (s, 0, (kbits M (K ++ [s])).length) := by
  have hg := getD_get M s hs
  have hl : (kbits M (K ++ [s])).length = (kbits M K).length + M[s] := by rw [kbits_snoc, List.length_append, bitsN_length, hg]
  have hall : (kbits M (K ++ s :: J)).length = (kbits M K).length + M[s] + (kbits M J).length := by
    rw [kbits_append]
    simp only [kbits, List.length_append, bitsN_length, hg]
    omega
  rw [hl]
  refine rdA_code hM _ _ s hs h0 ?_ ?_
  · rw [packB_length, hall]; omega
  · intro i hi
    rw [bitQ_pack _ _ (by rw [hall]; omega), kbits_append]
    have e1 : (kbits M K ++ kbits M (s :: J)).getD ((kbits M K).length + i) false = (kbits M (s :: J)).getD i false := by
      simp [List.getElem?_append, show ¬ (kbits M K).length + i < (kbits M K).length by omega]
    have e2 : (kbits M (s :: J)).getD i false = (bitsN (revN (codeN M s) M[s]) M[s]).getD i false := by
      show (bitsN (revN (codeN M s) (M.getD s 0)) (M.getD s 0) ++ kbits M J).getD i false = _
      rw [hg]
      simp [List.getElem?_append, hi]
    rw [e1, e2, getD_bitsN _ _ _ hi, revN_bit _ _ _ hi]
    rfl
#print axioms back_read
end Go.Proofs.Ytdggaphhamaelaa
