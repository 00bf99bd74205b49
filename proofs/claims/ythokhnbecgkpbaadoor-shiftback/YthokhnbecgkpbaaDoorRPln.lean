/- Columns, names and quotes in plain words. No Go text here. -/
import Derived.Test.YthokhnbecgkpbaaDoorRMth
namespace Go.Proofs.YthokhnbecgkpbaaDoor

/-- A list of bytes as a text. -/
def baL (L : List UInt8) : ByteArray := ⟨L.toArray⟩
theorem baL_list (L : List UInt8) : (baL L).data.toList = L := by simp [baL]
theorem baL_size (L : List UInt8) : (baL L).size = L.length := by simp [baL, ByteArray.size]
theorem baL_append (L M : List UInt8) : baL L ++ baL M = baL (L ++ M) := by
  apply ByteArray.ext
  simp [baL, ByteArray.data_append]
theorem baL_self (s : ByteArray) : baL s.data.toList = s := by simp [baL]

/-- The column of letters, from p on, with a reckoned so far; none, as soon as it is beyond the last. -/
def colA (t : ByteArray) : Nat → Nat → Nat → Option Nat
  | 0, _, a => if a = 0 then none else some (a - 1)
  | f + 1, p, a => if capK (byt t p) = true then (if 1024 < 26 * a + (byt t p - 65) + 1 then none else colA t f (p + 1) (26 * a + (byt t p - 65) + 1)) else none
def colF (t : ByteArray) : Option Nat := colA t t.size 0 0
/-- The same, looked at behind the last letter. -/
def colB (t : ByteArray) : Nat → Nat → Nat → Option Nat
  | 0, _, a => if 1024 < a then none else some (a - 1)
  | f + 1, p, a => if capK (byt t p) = true then colB t f (p + 1) (26 * a + (byt t p - 65) + 1) else none
theorem colB_far (t : ByteArray) : ∀ (f p a : Nat), 1024 < a → colB t f p a = none
  | 0, p, a, h => by rw [colB, if_pos h]
  | f + 1, p, a, h => by
    rw [colB]
    split
    · exact colB_far t f _ _ (by omega)
    · rfl
theorem colAB (t : ByteArray) : ∀ (f p a : Nat), 1 ≤ a → a ≤ 1024 → colA t f p a = colB t f p a
  | 0, p, a, h1, h2 => by rw [colA, colB, if_neg (by omega), if_neg (by omega)]
  | f + 1, p, a, h1, h2 => by
    rw [colA, colB]
    split
    · split
      · rename_i h; rw [colB_far t f _ _ h]
      · exact colAB t f _ _ (by omega) (by omega)
    · rfl
theorem capK_bd {b : Nat} (h : capK b = true) : 65 ≤ b ∧ b ≤ 90 := by simpa [capK] using h
theorem colF_short (t : ByteArray) (h1 : 1 ≤ t.size) : colF t = colB t t.size 0 0 := by
  unfold colF
  obtain ⟨f, hf⟩ : ∃ f, t.size = f + 1 := ⟨t.size - 1, by omega⟩
  rw [hf, colA, colB]
  split
  · rename_i h
    have := capK_bd h
    rw [if_neg (by omega)]
    exact colAB t f _ _ (by omega) (by omega)
  · rfl
theorem colF_nil (t : ByteArray) (h : t.size = 0) : colF t = none := by
  unfold colF
  rw [h]
  rfl
theorem colF_long (t : ByteArray) (h : 4 ≤ t.size) : colF t = none := by
  rw [colF_short t (by omega)]
  obtain ⟨f, hf⟩ : ∃ f, t.size = f + 1 + 1 + 1 + 1 := ⟨t.size - 4, by omega⟩
  rw [hf, colB]
  split
  · rw [colB]
    split
    · rw [colB]
      split
      · rw [colB]
        split
        · exact colB_far t f _ _ (by omega)
        · rfl
      · rfl
    · rfl
  · rfl
theorem colA_lt (t : ByteArray) : ∀ (f p a m : Nat), a ≤ 1024 → colA t f p a = some m → m < 1024
  | 0, p, a, m, h, hm => by
    rw [colA] at hm
    split at hm
    · cases hm
    · cases hm; omega
  | f + 1, p, a, m, h, hm => by
    rw [colA] at hm
    split at hm
    · split at hm
      · cases hm
      · exact colA_lt t f _ _ m (by omega) hm
    · cases hm
theorem colF_lt {t : ByteArray} {m : Nat} (h : colF t = some m) : m < 1024 := colA_lt t _ _ _ m (by omega) h

/-- A sheet's name. -/
def shtF (t : ByteArray) : Bool := decide (1 ≤ t.size) && decide (t.size ≤ 64) && (validF t).2 && decide (endK shtK t 0 = t.size)
/-- Does it stand without quotes? -/
def wrdF (t : ByteArray) : Bool := decide (endK wrdK t 0 = t.size) && !(decide (0 < t.size) && digK (byt t 0))
def qt : UInt8 := 39
/-- A name as it stands in a reference. -/
def quoF (t : ByteArray) : ByteArray := if shtF t = true then (if wrdF t = true then t else baL (39 :: (t.data.toList ++ [39]))) else ⟨#[]⟩
theorem shtF_size {t : ByteArray} (h : shtF t = true) : 1 ≤ t.size ∧ t.size ≤ 64 := by
  unfold shtF at h
  simp only [Bool.and_eq_true, decide_eq_true_eq] at h
  exact h.1.1
theorem endK_lt (K : Nat → Bool) (t : ByteArray) (h : endK K t 0 ≠ t.size) : endK K t 0 < t.size := by
  have := endK_le K t 0 (Nat.zero_le _)
  omega
#print axioms colF_long
end Go.Proofs.YthokhnbecgkpbaaDoor
