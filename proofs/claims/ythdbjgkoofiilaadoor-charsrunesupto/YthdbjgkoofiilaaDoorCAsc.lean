/- Bytes below 128 are characters by themselves, wherever they stand; references have no & in them. No Go text here. -/
import Derived.Test.YthdbjgkoofiilaaDoorCNum
import Derived.Lib.IndexLaws
namespace Go.Proofs.YthdbjgkoofiilaaDoor

set_option maxRecDepth 100000 in
theorem cont_high (s : ByteArray) (p q : Nat) (h1 : p < q) (h2 : q < p + (Utf8.decode s p).2) : 128 ≤ (s.get! q).toNat := by
  obtain ⟨k, rfl⟩ : ∃ k, q = p + k := ⟨q - p, by omega⟩
  have hw := width_4 s p
  have h0 : (s.get! p).toNat < 256 := (s.get! p).toNat_lt
  rw [Lib.decode_at] at h2 hw
  unfold Lib.decodeN at h2 hw
  have hk : k = 1 ∨ k = 2 ∨ k = 3 := by omega
  clear hw
  rcases hk with rfl | rfl | rfl
  all_goals
    repeat' split at h2
    all_goals simp only at h2
    all_goals omega
theorem dec_ascii (s : ByteArray) (p : Nat) (h : (s.get! p).toNat < 128) : Utf8.decode s p = ((s.get! p).toNat, 1) := by
  rw [Lib.decode_at]
  unfold Lib.decodeN
  rw [if_pos h]
set_option maxRecDepth 100000 in
theorem dec_low (s : ByteArray) (p : Nat) (h : (Utf8.decode s p).1 < 128) : (s.get! p).toNat < 128 ∧ (Utf8.decode s p).1 = (s.get! p).toNat ∧ (Utf8.decode s p).2 = 1 := by
  have h0 : (s.get! p).toNat < 256 := (s.get! p).toNat_lt
  by_cases ha : (s.get! p).toNat < 128
  · rw [dec_ascii s p ha]; exact ⟨ha, rfl, rfl⟩
  · exfalso
    rw [Lib.decode_at] at h
    unfold Lib.decodeN at h
    rw [if_neg ha] at h
    repeat' split at h
    all_goals simp only at h
    all_goals omega
/-- A byte below 128 is one of the characters. -/
theorem ascii_run (s : ByteArray) (q : Nat) (hq : q < s.size) (ha : (s.get! q).toNat < 128) : ∀ (n p : Nat), s.size - p ≤ n → p ≤ q → (q, (s.get! q).toNat, 1) ∈ runs s p := by
  intro n
  induction n with
  | zero => intro p h1 h2; omega
  | succ n ih =>
    intro p h1 h2
    have hp : p < s.size := by omega
    rw [runs_step s p hp]
    by_cases e : p = q
    · subst e
      rw [dec_ascii s p ha]
      exact List.mem_cons_self
    · have hw := width_pos s p hp
      have : p + (Utf8.decode s p).2 ≤ q := by
        rcases Nat.lt_or_ge q (p + (Utf8.decode s p).2) with h | h
        · have := cont_high s p q (by omega) h
          omega
        · exact h
      exact List.mem_cons_of_mem _ (ih _ (by omega) this)

theorem numL_all (base : Int) : ∀ (l : List (Nat × Nat × Nat)) (n : Int), (numL base n l).2 = true → ∀ x ∈ l, worthF x.2.1 < base := by
  intro l
  induction l with
  | nil => intro n _ x hx; cases hx
  | cons y t ih =>
    intro n h x hx
    simp only [numL] at h
    by_cases hb : base ≤ worthF y.2.1
    · rw [if_pos hb] at h; cases h
    · rw [if_neg hb] at h
      rcases List.mem_cons.1 hx with rfl | hx
      · omega
      · exact ih _ h x hx
theorem numF_no (base : Int) (hb : base ≤ 16) (s : ByteArray) (h : (numF base s).2 = true) (q : Nat) (hq : q < s.size) : (s.get! q).toNat ≠ 38 := by
  intro e
  have := numL_all base _ 0 h _ (ascii_run s q hq (by omega) s.size 0 (by omega) (Nat.zero_le _))
  simp only [e] at this
  have e16 : worthF ((38 : Nat) : Int) = 16 := by decide
  omega
theorem numF_some (base : Int) (s : ByteArray) (h : (numF base s).2 = true) : 1 ≤ s.size := by
  rcases Nat.eq_zero_or_pos s.size with h0 | h0
  · unfold numF at h
    rw [runs_end s 0 (by omega)] at h
    exact absurd (show charF 0 = true from h) (by decide)
  · exact h0
theorem get_list' (s : ByteArray) (i : Nat) (x : UInt8) (h : s.data.toList[i]? = some x) : s.get! i = x := by
  have hi : i < s.size := by
    rcases Nat.lt_or_ge i s.size with h' | h'
    · exact h'
    · rw [List.getElem?_eq_none (by simpa using h')] at h; cases h
  rw [get_list s i hi] at h
  exact Option.some.inj h
theorem ext_get (s : ByteArray) (a b i : Nat) (hb : b ≤ s.size) (h : a + i < b) : (s.extract a b).get! i = s.get! (a + i) := by
  apply get_list'
  rw [ByteArray.data_extract, Array.toList_extract]
  rw [List.extract_eq_take_drop, List.getElem?_take, if_pos (by omega), List.getElem?_drop]
  exact get_list s (a + i) (by omega)
theorem refF_no (s : ByteArray) (h : (refF s).2 = true) : 2 ≤ s.size ∧ ∀ q, q < s.size → (s.get! q).toNat ≠ 38 := by
  have lit : ∀ l : List UInt8, (s.toList == l) = true → 2 ≤ l.length → (∀ x ∈ l, x.toNat ≠ 38) → 2 ≤ s.size ∧ ∀ q, q < s.size → (s.get! q).toNat ≠ 38 := by
    intro l e h2 h3
    rw [ByteArray.toList_eq] at e
    have e' : s.data.toList = l := by simpa using e
    have el : s.size = l.length := by rw [← e']; simp
    refine ⟨by omega, fun q hq => ?_⟩
    have := get_list s q hq
    rw [e'] at this
    exact h3 _ (List.mem_of_getElem? this)
  unfold refF at h
  split at h
  · exact lit _ (by assumption) (by decide) (by decide)
  split at h
  · exact lit _ (by assumption) (by decide) (by decide)
  split at h
  · exact lit _ (by assumption) (by decide) (by decide)
  split at h
  · exact lit _ (by assumption) (by decide) (by decide)
  split at h
  · exact lit _ (by assumption) (by decide) (by decide)
  have beg : ∀ (k : Nat) (l : List UInt8), k = l.length → (decide (k ≤ s.size) && ((s.extract 0 k).toList == l)) = true → ∀ i, i < k → l[i]? = some (s.get! i) := by
    intro k l hk e i hi
    simp only [Bool.and_eq_true, decide_eq_true_eq, beq_iff_eq] at e
    obtain ⟨e1, e2⟩ := e
    rw [ByteArray.toList_eq] at e2
    rw [← e2, get_list _ i (by simp; omega), ext_get s 0 k i e1 (by omega), Nat.zero_add]
  split at h
  · rename_i hx
    have h2 : 2 ≤ s.size := by simp only [Bool.and_eq_true, decide_eq_true_eq] at hx; exact hx.1
    refine ⟨h2, fun q hq => ?_⟩
    by_cases q0 : q = 0
    · subst q0
      have := beg 2 _ rfl hx 0 (by omega)
      injection this with e
      rw [← e]; decide
    by_cases q1 : q = 1
    · subst q1
      have := beg 2 _ rfl hx 1 (by omega)
      injection this with e
      rw [← e]; decide
    have := numF_no 16 (by omega) _ h (q - 2) (by simp; omega)
    rw [ext_get s 2 s.size (q - 2) (Nat.le_refl _) (by omega)] at this
    rwa [show 2 + (q - 2) = q by omega] at this
  split at h
  · rename_i hx
    have h1 : 1 ≤ s.size := by simp only [Bool.and_eq_true, decide_eq_true_eq] at hx; exact hx.1
    have hn := numF_some 10 _ h
    have hz : (s.extract 1 s.size).size = s.size - 1 := by simp
    refine ⟨by omega, fun q hq => ?_⟩
    by_cases q0 : q = 0
    · subst q0
      have := beg 1 _ rfl hx 0 (by omega)
      injection this with e
      rw [← e]; decide
    have := numF_no 10 (by omega) _ h (q - 1) (by simp; omega)
    rw [ext_get s 1 s.size (q - 1) (Nat.le_refl _) (by omega)] at this
    rwa [show 1 + (q - 1) = q by omega] at this
  · cases h
theorem numL_bounds (base : Int) : ∀ (l : List (Nat × Nat × Nat)) (n : Int), 0 ≤ base → 0 ≤ n → n ≤ 1114112 → 0 ≤ (numL base n l).1 ∧ (numL base n l).1 ≤ 1114112 := by
  intro l
  induction l with
  | nil => intro n _ h1 h2; exact ⟨h1, h2⟩
  | cons y t ih =>
    intro n hb h1 h2
    simp only [numL]
    by_cases hw : base ≤ worthF y.2.1
    · rw [if_pos hw]; exact ⟨by decide, by decide⟩
    · rw [if_neg hw]
      have := (worthF_bounds (y.2.1 : Int)).1
      have : 0 ≤ n * base := Int.mul_nonneg h1 hb
      exact ih _ hb (by split <;> omega) (by split <;> omega)
theorem refF_bounds (s : ByteArray) : 0 ≤ (refF s).1 ∧ (refF s).1 ≤ 1114112 := by
  unfold refF
  repeat' split
  all_goals first | exact numL_bounds _ _ _ (by decide) (by decide) (by decide) | decide
#print axioms refF_no
end Go.Proofs.YthdbjgkoofiilaaDoor
