/- References, read by the program's way and by the document's: mathematics. -/
import Derived.Test.YtpefadblmgcpcaaDoorCNbR
import Derived.Test.YtpefadblmgcpcaaDoorCTxM
namespace Go.Proofs.YtpefadblmgcpcaaDoor
open Go.RowKit Go.Shelf

theorem idx_insB : ∀ (ins rest : List UInt8), (∀ x ∈ ins, x ≠ 59) → Lib.indexByte (ins ++ 59 :: rest) 59 = (ins.length : Int) := by
  intro ins
  induction ins with
  | nil => intro rest _; simp [Lib.indexByte]
  | cons a t ih =>
    intro rest h
    have h1 := ih rest (fun x hx => h x (List.mem_cons_of_mem _ hx))
    have h2 : (a == 59) = false := by simpa using h a List.mem_cons_self
    simp only [List.cons_append, Lib.indexByte, h2, Bool.false_eq_true, if_false, h1]
    rw [if_neg (by simp)]
    simp
theorem digF_59 (base : Int) (hb : base ≤ 16) : digF 59 base = -1 := by
  unfold digF
  rw [worthF_no 59 (by omega), if_neg (by omega)]
theorem worthF_high (r : Nat) (h : 128 ≤ r) : worthF (r : Int) = 16 := worthF_no r (by omega)
theorem digF_neg (x : Nat) (base : Int) (h : ¬ 0 ≤ digF x base) : base ≤ worthF (x : Int) := by
  unfold digF at h
  have := (worthF_bounds (x : Int)).1
  split at h <;> omega
theorem digF_pos (x : Nat) (base : Int) (hb : base ≤ 16) (h : 0 ≤ digF x base) : digF x base = worthF (x : Int) ∧ ¬ base ≤ worthF (x : Int) ∧ x < 128 := by
  unfold digF at h ⊢
  split at h
  · rename_i h1
    rw [if_pos h1]
    refine ⟨rfl, by omega, ?_⟩
    rcases Nat.lt_or_ge x 128 with h2 | h2
    · exact h2
    · rw [worthF_high x h2] at h1; omega
  · omega
/-- Digits up to a place, read by both. -/
theorem num_scan (T D : ByteArray) (base : Int) (hb : base ≤ 16) (b : Nat) (hD : b + D.size < T.size) (hget : ∀ j, j < D.size → T.get! (b + j) = D.get! j) (h59 : (T.get! (b + D.size)).toNat = 59) (hno : ∀ j, j < D.size → (D.get! j).toNat ≠ 59) :
    ∀ (m k : Nat) (n : Int), D.size - k ≤ m → k ≤ D.size →
      ((numL base n (runs D k)).2 = true ∧ scanF T base (b + k) n = (b + D.size, (numL base n (runs D k)).1)) ∨
      ((numL base n (runs D k)).2 = false ∧ (¬ (scanF T base (b + k) n).1 < T.size ∨ (T.get! (scanF T base (b + k) n).1).toNat ≠ 59 ∨ charF (scanF T base (b + k) n).2 = false)) := by
  intro m
  induction m with
  | zero =>
    intro k n h1 h2
    have hk : k = D.size := by omega
    subst hk
    have hs : scanF T base (b + D.size) n = (b + D.size, n) := scanF_stop T base _ n (fun h => by rw [h59, digF_59 base hb] at h; omega)
    rw [runs_end D _ (by omega), hs]
    simp only [numL]
    cases hc : charF n with
    | true => exact Or.inl (by simp)
    | false => exact Or.inr ⟨rfl, Or.inr (Or.inr rfl)⟩
  | succ m ih =>
    intro k n h1 h2
    by_cases hk : k < D.size
    · have hg := hget k hk
      by_cases hd : 0 ≤ digF (D.get! k).toNat base
      · obtain ⟨e1, e2, e3⟩ := digF_pos _ base hb hd
        rw [scanF_step T base (b + k) n ⟨by omega, by rw [hg]; exact hd⟩, hg, e1, show b + k + 1 = b + (k + 1) by omega, runs_step D k hk, dec_ascii D k e3]
        simp only [numL]
        rw [if_neg e2]
        have hmin : (if 1114112 < n * base + worthF ((D.get! k).toNat : Int) then (1114112 : Int) else n * base + worthF ((D.get! k).toNat : Int)) = min (n * base + worthF ((D.get! k).toNat : Int)) 1114112 := by split <;> omega
        rw [hmin]
        exact ih (k + 1) _ (by omega) (by omega)
      · right
        have hs : scanF T base (b + k) n = (b + k, n) := scanF_stop T base _ n (fun h => hd (by rw [← hg]; exact h.2))
        rw [hs]
        refine ⟨?_, Or.inr (Or.inl (by rw [hg]; exact hno k hk))⟩
        rw [runs_step D k hk]
        simp only [numL]
        rw [if_pos]
        by_cases ha : (D.get! k).toNat < 128
        · rw [dec_ascii D k ha]
          exact digF_neg _ base hd
        · have : 128 ≤ (Utf8.decode D k).1 := by
            rcases Nat.lt_or_ge (Utf8.decode D k).1 128 with h | h
            · have := (dec_low D k h).1; omega
            · exact h
          rw [worthF_high _ this]
          exact hb
    · have hk : k = D.size := by omega
      subst hk
      have hs : scanF T base (b + D.size) n = (b + D.size, n) := scanF_stop T base _ n (fun h => by rw [h59, digF_59 base hb] at h; omega)
      rw [runs_end D _ (by omega), hs]
      simp only [numL]
      cases hc : charF n with
      | true => exact Or.inl (by simp)
      | false => exact Or.inr ⟨rfl, Or.inr (Or.inr rfl)⟩
theorem numL_char (base : Int) : ∀ (l : List (Nat × Nat × Nat)) (n : Int), (numL base n l).2 = true → charF (numL base n l).1 = true := by
  intro l
  induction l with
  | nil => intro n h; exact h
  | cons x t ih =>
    intro n h
    simp only [numL] at h ⊢
    split at h
    · cases h
    · rename_i e; rw [if_neg e]; exact ih _ h
/-- A number, read by both. -/
theorem nb_eq (T D : ByteArray) (b : Nat) (base : Int) (hbas : basF T = (base, b)) (hb : base ≤ 16) (hD : b + D.size < T.size) (hget : ∀ j, j < D.size → T.get! (b + j) = D.get! j) (h59 : (T.get! (b + D.size)).toNat = 59) (hno : ∀ j, j < D.size → (D.get! j).toNat ≠ 59) :
    ((numF base D).2 = true → nbF T = (Utf8.encode (numF base D).1, ((b + D.size : Nat) : Int) + 1, true)) ∧ ((numF base D).2 = false → nbF T = (⟨#[]⟩, 0, false)) := by
  have h := num_scan T D base hb b hD hget h59 hno D.size 0 0 (by omega) (Nat.zero_le _)
  rw [Nat.add_zero] at h
  constructor
  · intro ht
    have hsz := numF_some base D ht
    rcases h with ⟨_, h2⟩ | ⟨h1, _⟩
    · unfold nbF
      rw [hbas]
      simp only
      rw [h2]
      simp only
      rw [if_neg]
      · rfl
      · rintro (h | h | h | h)
        · omega
        · omega
        · exact h h59
        · rw [numL_char base _ 0 ht] at h; cases h
    · exact absurd (h1.symm.trans ht) (by decide)
  · intro hf
    rcases h with ⟨h1, _⟩ | ⟨_, h2⟩
    · exact absurd (h1.symm.trans hf) (by decide)
    · unfold nbF
      rw [hbas]
      simp only
      rw [if_pos]
      rcases h2 with h | h | h
      · exact Or.inr (Or.inl h)
      · exact Or.inr (Or.inr (Or.inl h))
      · exact Or.inr (Or.inr (Or.inr h))
/-- Without a ; there is no number. -/
theorem nb_none (T : ByteArray) (hno : ∀ j, j < T.size → (T.get! j).toNat ≠ 59) : nbF T = (⟨#[]⟩, 0, false) := by
  unfold nbF
  rw [if_pos]
  by_cases h : (scanF T (basF T).1 (basF T).2 0).1 < T.size
  · exact Or.inr (Or.inr (Or.inl (hno _ h)))
  · exact Or.inr (Or.inl h)
#print axioms nb_eq
end Go.Proofs.YtpefadblmgcpcaaDoor
