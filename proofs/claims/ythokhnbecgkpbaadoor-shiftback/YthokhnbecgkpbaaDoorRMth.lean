/- Bytes of a kind, one behind the other; runes against bytes. No Go text here. -/
import Derived.Test.YthokhnbecgkpbaaDoorCMth
namespace Go.Proofs.YthokhnbecgkpbaaDoor

/-- The byte at p. -/
def byt (s : ByteArray) (p : Nat) : Nat := (s.get! p).toNat
theorem byt_at (s : ByteArray) (p : Nat) (h : p < s.size) : (s[p]'h).toNat = byt s p := by
  unfold byt
  have : s.get! p = s[p] := by simp [ByteArray.get!, getElem!_pos, h]; rfl
  rw [this]
theorem byt_lt (s : ByteArray) (p : Nat) : byt s p < 256 := (s.get! p).toNat_lt

def capK (b : Nat) : Bool := decide (65 ≤ b) && decide (b ≤ 90)
def digK (b : Nat) : Bool := decide (48 ≤ b) && decide (b ≤ 57)
def wrdK (b : Nat) : Bool := capK b || (decide (97 ≤ b) && decide (b ≤ 122)) || digK b || b == 95
def nquK (b : Nat) : Bool := b != 39
/-- The signs that no sheet's name has. -/
def barK (b : Nat) : Bool := b == 91 || b == 93 || b == 42 || b == 63 || b == 58 || b == 47 || b == 92 || b == 39
def shtK (b : Nat) : Bool := !(decide (b < 32)) && !(barK b)

/-- Where the bytes of a kind end that stand at p. -/
def endGo (K : Nat → Bool) (s : ByteArray) : Nat → Nat → Nat
  | 0, p => p
  | f + 1, p => if p < s.size ∧ K (byt s p) = true then endGo K s f (p + 1) else p
def endK (K : Nat → Bool) (s : ByteArray) (p : Nat) : Nat := endGo K s (s.size - p) p
theorem endGo_stop (K : Nat → Bool) (s : ByteArray) (f p : Nat) (h : ¬ (p < s.size ∧ K (byt s p) = true)) : endGo K s f p = p := by
  cases f with
  | zero => rfl
  | succ f => rw [endGo, if_neg h]
theorem endK_stop (K : Nat → Bool) (s : ByteArray) (p : Nat) (h : ¬ (p < s.size ∧ K (byt s p) = true)) : endK K s p = p := endGo_stop K s _ p h
theorem endK_step (K : Nat → Bool) (s : ByteArray) (p : Nat) (h1 : p < s.size) (h2 : K (byt s p) = true) : endK K s p = endK K s (p + 1) := by
  unfold endK
  obtain ⟨f, hf⟩ : ∃ f, s.size - p = f + 1 := ⟨s.size - p - 1, by omega⟩
  rw [hf, endGo, if_pos ⟨h1, h2⟩, show s.size - (p + 1) = f by omega]
theorem endGo_ge (K : Nat → Bool) (s : ByteArray) : ∀ (f p : Nat), p ≤ endGo K s f p
  | 0, p => Nat.le_refl _
  | f + 1, p => by
    rw [endGo]
    split
    · have := endGo_ge K s f (p + 1); omega
    · exact Nat.le_refl _
theorem endK_ge (K : Nat → Bool) (s : ByteArray) (p : Nat) : p ≤ endK K s p := endGo_ge K s _ p
theorem endGo_le (K : Nat → Bool) (s : ByteArray) : ∀ (f p : Nat), p ≤ s.size → endGo K s f p ≤ s.size
  | 0, p, h => h
  | f + 1, p, h => by
    rw [endGo]
    split
    · rename_i hc; exact endGo_le K s f (p + 1) hc.1
    · exact h
theorem endK_le (K : Nat → Bool) (s : ByteArray) (p : Nat) (h : p ≤ s.size) : endK K s p ≤ s.size := endGo_le K s _ p h
/-- What lies ahead of the end is of the kind. -/
theorem endGo_all (K : Nat → Bool) (s : ByteArray) : ∀ (f p i : Nat), p ≤ i → i < endGo K s f p → K (byt s i) = true
  | 0, p, i, h1, h2 => by rw [endGo] at h2; omega
  | f + 1, p, i, h1, h2 => by
    rw [endGo] at h2
    split at h2
    · rename_i hc
      by_cases e : i = p
      · rw [e]; exact hc.2
      · exact endGo_all K s f (p + 1) i (by omega) h2
    · omega
theorem endK_all (K : Nat → Bool) (s : ByteArray) (p i : Nat) (h1 : p ≤ i) (h2 : i < endK K s p) : K (byt s i) = true := endGo_all K s _ p i h1 h2
/-- What stands at the end is not. -/
theorem endGo_not (K : Nat → Bool) (s : ByteArray) : ∀ (f p : Nat), s.size ≤ p + f → endGo K s f p < s.size → K (byt s (endGo K s f p)) = false
  | 0, p, h1, h2 => by rw [endGo] at h2; omega
  | f + 1, p, h1, h2 => by
    rw [endGo] at h2 ⊢
    split at h2
    · rename_i hc
      rw [if_pos hc]
      exact endGo_not K s f (p + 1) (by omega) h2
    · rename_i hc
      rw [if_neg hc]
      cases hk : K (byt s p) with
      | false => rfl
      | true => exact absurd ⟨h2, hk⟩ hc
theorem endK_not (K : Nat → Bool) (s : ByteArray) (p : Nat) (h : endK K s p < s.size) : K (byt s (endK K s p)) = false := endGo_not K s _ p (by omega) h
/-- The end, told by what it is. -/
theorem endK_is (K : Nat → Bool) (s : ByteArray) : ∀ (n p q : Nat), q - p ≤ n → p ≤ q → q ≤ s.size → (∀ i, p ≤ i → i < q → K (byt s i) = true) → (q < s.size → K (byt s q) = false) → endK K s p = q := by
  intro n
  induction n with
  | zero =>
    intro p q h1 h2 h3 h4 h5
    obtain rfl : p = q := by omega
    refine endK_stop K s p ?_
    rintro ⟨a, b⟩
    rw [h5 a] at b
    cases b
  | succ n ih =>
    intro p q h1 h2 h3 h4 h5
    by_cases e : p = q
    · subst e
      refine endK_stop K s p ?_
      rintro ⟨a, b⟩
      rw [h5 a] at b
      cases b
    · rw [endK_step K s p (by omega) (h4 p (Nat.le_refl _) (by omega))]
      exact ih (p + 1) q (by omega) (by omega) h3 (fun i a b => h4 i (by omega) b) h5

set_option maxRecDepth 100000 in
/-- A rune: one byte below 128, or bytes from 128 on. -/
theorem decode_bytes (s : ByteArray) (p : Nat) (h : p < s.size) :
    ((Utf8.decode s p).1 < 128 ∧ (Utf8.decode s p).1 = byt s p ∧ (Utf8.decode s p).2 = 1) ∨ (128 ≤ (Utf8.decode s p).1 ∧ ∀ i, p ≤ i → i < p + (Utf8.decode s p).2 → 128 ≤ byt s i) := by
  by_cases ha : byt s p < 128
  · left
    rw [← byt_at s p h] at ha
    rw [decode_ascii s p h ha]
    exact ⟨ha, byt_at s p h, rfl⟩
  · right
    refine ⟨(decode_high s p h (by rw [byt_at s p h]; omega)).1, ?_⟩
    rw [Lib.decode_at]
    have e0 : (s.get! p).toNat = byt s p := rfl
    have e1 : (s.get! (p + 1)).toNat = byt s (p + 1) := rfl
    have e2 : (s.get! (p + 2)).toNat = byt s (p + 2) := rfl
    have e3 : (s.get! (p + 3)).toNat = byt s (p + 3) := rfl
    rw [e0, e1, e2, e3]
    unfold Lib.decodeN
    rw [if_neg ha]
    intro i h1 h2
    have hi : i = p ∨ i = p + 1 ∨ i = p + 2 ∨ i = p + 3 ∨ p + 4 ≤ i := by omega
    repeat' split at h2
    all_goals simp only at h2
    all_goals rcases hi with rfl | rfl | rfl | rfl | hi
    all_goals omega
/-- A rune's kind P against its bytes' kind K. -/
structure Kin (P : Nat → Bool) (K : Nat → Bool) (c : Bool) : Prop where
  low : ∀ r, r < 128 → P r = K r
  high : ∀ r, 128 ≤ r → P r = c
  bytes : ∀ b, 128 ≤ b → K b = c
theorem endK_many (K : Nat → Bool) (s : ByteArray) : ∀ (n p : Nat), p + n ≤ s.size → (∀ i, p ≤ i → i < p + n → K (byt s i) = true) → endK K s p = endK K s (p + n)
  | 0, p, _, _ => rfl
  | n + 1, p, h1, h2 => by
    rw [endK_step K s p (by omega) (h2 p (Nat.le_refl _) (by omega)), endK_many K s n (p + 1) (by omega) (fun i a b => h2 i (by omega) (by omega))]
    congr 1
    omega
theorem kin_yes {P K : Nat → Bool} {c : Bool} (hk : Kin P K c) (s : ByteArray) (p : Nat) (h : p < s.size) (hp : P (Utf8.decode s p).1 = true) : endK K s p = endK K s (p + (Utf8.decode s p).2) := by
  refine endK_many K s _ p (width_fits s p h) fun i h1 h2 => ?_
  rcases decode_bytes s p h with ⟨a, b, c'⟩ | ⟨a, b⟩
  · rw [c'] at h2
    obtain rfl : i = p := by omega
    rw [hk.low _ a, b] at hp
    exact hp
  · rw [hk.high _ a] at hp
    rw [hk.bytes _ (b i h1 h2)]
    exact hp
theorem kin_no {P K : Nat → Bool} {c : Bool} (hk : Kin P K c) (s : ByteArray) (p : Nat) (h : p < s.size) (hp : P (Utf8.decode s p).1 = false) : endK K s p = p ∧ K (byt s p) = false := by
  have e : K (byt s p) = false := by
    rcases decode_bytes s p h with ⟨a, b, c'⟩ | ⟨a, b⟩
    · rw [hk.low _ a, b] at hp
      exact hp
    · rw [hk.high _ a] at hp
      rw [hk.bytes _ (b p (Nat.le_refl _) (by have := width_pos s p h; omega))]
      exact hp
  exact ⟨endK_stop K s p (by rw [e]; simp), e⟩
theorem kin_cap : Kin capK capK false := ⟨fun _ _ => rfl, fun r h => by simp [capK]; omega, fun r h => by simp [capK]; omega⟩
theorem kin_dig : Kin digK digK false := ⟨fun _ _ => rfl, fun r h => by simp [digK]; omega, fun r h => by simp [digK]; omega⟩
theorem kin_wrd : Kin wrdK wrdK false := ⟨fun _ _ => rfl, fun r h => by simp [wrdK, capK, digK]; omega, fun r h => by simp [wrdK, capK, digK]; omega⟩
theorem kin_nqu : Kin nquK nquK true := ⟨fun _ _ => rfl, fun r h => by simp [nquK]; omega, fun r h => by simp [nquK]; omega⟩
theorem kin_sht : Kin shtK shtK true := ⟨fun _ _ => rfl, fun r h => by simp [shtK, barK]; omega, fun r h => by simp [shtK, barK]; omega⟩

/-- What is left of a text, from p on. -/
theorem byt_tail (s : ByteArray) (p i : Nat) (h : p + i < s.size) : byt (s.extract p s.size) i = byt s (p + i) := by
  rw [← byt_at (s.extract p s.size) i (by simp; omega), ← byt_at s (p + i) h, ByteArray.getElem_extract]
theorem endK_tail (K : Nat → Bool) (s : ByteArray) (p : Nat) (h : p ≤ s.size) : p + endK K (s.extract p s.size) 0 = endK K s p := by
  have hz : (s.extract p s.size).size = s.size - p := by simp
  have hl := endK_le K (s.extract p s.size) 0 (Nat.zero_le _)
  refine (endK_is K s _ p _ (Nat.le_refl _) (by omega) (by omega) (fun i h1 h2 => ?_) (fun hq => ?_)).symm
  · have := endK_all K (s.extract p s.size) 0 (i - p) (Nat.zero_le _) (by omega)
    rwa [byt_tail s p (i - p) (by omega), show p + (i - p) = i by omega] at this
  · have := endK_not K (s.extract p s.size) 0 (by omega)
    rwa [byt_tail s p _ (by omega)] at this
#print axioms endK_tail
#print axioms decode_bytes
end Go.Proofs.YthokhnbecgkpbaaDoor
