/- Unescape: the program's way and the document's are one: mathematics. -/
import Derived.Test.YtpefadblmgcpcaaDoorCUnR
import Derived.Test.YtpefadblmgcpcaaDoorCEqM
import Derived.Test.YtpefadblmgcpcaaDoorCUne
namespace Go.Proofs.YtpefadblmgcpcaaDoor
open Go.RowKit Go.Shelf

/-- What stands ahead of the first ; . -/
def insS (S : ByteArray) : ByteArray := S.extract 0 (idxF S 59).toNat
theorem ext_list (S : ByteArray) (n : Nat) (_h : n ≤ S.size) : (S.extract 0 n).data.toList = S.data.toList.take n := by
  rw [ByteArray.data_extract, Array.toList_extract, List.extract_eq_take_drop]
  simp
theorem bg_iff (S : ByteArray) (l : List UInt8) (hl : ∀ x ∈ l, x ≠ 59) : bg S (l ++ [59]) = true ↔ idxF S 59 = (l.length : Int) ∧ (insS S).toList = l := by
  unfold bg
  simp only [Bool.and_eq_true, decide_eq_true_eq, beq_iff_eq, ByteArray.toList_eq, List.length_append, List.length_singleton]
  constructor
  · rintro ⟨h1, h2⟩
    rw [ext_list S _ h1] at h2
    have h3 : S.data.toList = l ++ 59 :: S.data.toList.drop (l.length + 1) := by
      have := List.take_append_drop (l.length + 1) S.data.toList
      rw [h2] at this
      rw [← this]
      simp
    have h4 : idxF S 59 = (l.length : Int) := by
      show Lib.indexByte S.data.toList 59 = _
      rw [h3]
      exact idx_insB l _ hl
    refine ⟨h4, ?_⟩
    unfold insS
    rw [h4, show ((l.length : Nat) : Int).toNat = l.length from rfl, ext_list S _ (by omega), h3]
    simp
  · rintro ⟨h1, h2⟩
    rcases idxF_cases S 59 with ⟨h, _⟩ | ⟨i, hi, hil, h59, _⟩
    · omega
    · have : i = l.length := by omega
      subst this
      unfold insS at h2
      rw [h1, show ((l.length : Nat) : Int).toNat = l.length from rfl, ext_list S _ (by omega)] at h2
      refine ⟨by omega, ?_⟩
      rw [ext_list S _ (by omega), List.take_add_one, h2, get_list S _ hil, h59]
      rfl
theorem encode_nat (k : Nat) (h : k < 55296 ∨ (57344 ≤ k ∧ k ≤ 1114111)) : (Utf8.encode (k : Int)).data.toList = Lib.encodeRune (k : Int) := by
  have hv : Utf8.valid (k : Int) = true := by
    unfold Utf8.valid
    simp only [Bool.or_eq_true, Bool.and_eq_true, decide_eq_true_eq]
    omega
  unfold Utf8.encode Lib.encodeRune
  simp only [hv, if_true, Int.toNat_natCast]
  by_cases h1 : k < 128
  · rw [if_pos h1, Lib.encodeRuneZ_one (by omega) (by omega)]
    rfl
  rw [if_neg h1]
  by_cases h2 : k < 2048
  · rw [if_pos h2, Lib.encodeRuneZ_two (by omega) (by omega)]
    simp only [List.map_cons, List.map_nil]
    rw [show ((192 : Int) + (k : Int) / 64).toNat = 192 + k / 64 by omega, show ((128 : Int) + (k : Int) % 64).toNat = 128 + k % 64 by omega]
  rw [if_neg h2]
  by_cases h3 : k < 65536
  · rw [if_pos h3, Lib.encodeRuneZ_three (by omega)]
    simp only [List.map_cons, List.map_nil]
    rw [show ((224 : Int) + (k : Int) / 4096).toNat = 224 + k / 4096 by omega, show ((128 : Int) + (k : Int) / 64 % 64).toNat = 128 + k / 64 % 64 by omega, show ((128 : Int) + (k : Int) % 64).toNat = 128 + k % 64 by omega]
  · rw [if_neg h3, Lib.encodeRuneZ_four (by omega) (by omega)]
    simp only [List.map_cons, List.map_nil]
    rw [show ((240 : Int) + (k : Int) / 262144).toNat = 240 + k / 262144 by omega, show ((128 : Int) + (k : Int) / 4096 % 64).toNat = 128 + k / 4096 % 64 by omega, show ((128 : Int) + (k : Int) / 64 % 64).toNat = 128 + k / 64 % 64 by omega, show ((128 : Int) + (k : Int) % 64).toNat = 128 + k % 64 by omega]
theorem encode_eq (n : Int) (h : charF n = true) : (Utf8.encode n).data.toList = Lib.encodeRune n := by
  have hb : (0 ≤ n ∧ n < 55296) ∨ (57344 ≤ n ∧ n ≤ 1114111) := by
    unfold charF btw at h
    simp only [Bool.or_eq_true, Bool.and_eq_true, decide_eq_true_eq, beq_iff_eq] at h
    omega
  obtain ⟨k, rfl⟩ : ∃ k : Nat, n = (k : Int) := ⟨n.toNat, by omega⟩
  exact encode_nat k (by omega)
theorem bg_false (S : ByteArray) (l : List UInt8) (hl : ∀ x ∈ l, x ≠ 59) (h : ¬ (idxF S 59 = (l.length : Int) ∧ (insS S).toList = l)) : bg S (l ++ [59]) = false := by
  cases e : bg S (l ++ [59]) with
  | false => rfl
  | true => exact absurd ((bg_iff S l hl).1 e) h
theorem pre_two (I : ByteArray) (h : 2 ≤ I.size) : (I.extract 0 2).toList = [I.get! 0, I.get! 1] := by
  rw [ByteArray.toList_eq, ext_list I 2 h]
  apply List.ext_getElem?
  intro i
  rw [List.getElem?_take]
  by_cases hi : i < 2
  · rw [if_pos hi]
    match i, hi with
    | 0, _ => exact get_list I 0 (by omega)
    | 1, _ => exact get_list I 1 (by omega)
  · rw [if_neg hi, List.getElem?_eq_none (by simp; omega)]
theorem pre_one (I : ByteArray) (h : 1 ≤ I.size) : (I.extract 0 1).toList = [I.get! 0] := by
  rw [ByteArray.toList_eq, ext_list I 1 h]
  apply List.ext_getElem?
  intro i
  rw [List.getElem?_take]
  by_cases hi : i < 1
  · rw [if_pos hi]
    match i, hi with
    | 0, _ => exact get_list I 0 (by omega)
  · rw [if_neg hi, List.getElem?_eq_none (by simp; omega)]
/-- What refF says where no name stands. -/
def hashF (I : ByteArray) : Int × Bool :=
  if decide (2 ≤ I.size) && ((I.extract 0 2).toList == [35, 120]) then numF 16 (I.extract 2 I.size)
  else if decide (1 ≤ I.size) && ((I.extract 0 1).toList == [35]) then numF 10 (I.extract 1 I.size) else (0, false)
theorem hash_eq (S : ByteArray) : ((idxF S 59 = -1 ∨ (hashF (insS S)).2 = false) → (rf5 S).2.2 = false) ∧ (¬ (idxF S 59 = -1 ∨ (hashF (insS S)).2 = false) → (rf5 S).2.2 = true ∧ (rf5 S).1.data.toList = Lib.encodeRune (hashF (insS S)).1 ∧ (rf5 S).2.1 = ((insS S).size : Int) + 1) := by
  unfold rf5
  by_cases h35 : S.size ≠ 0 ∧ (S.get! 0).toNat = 35
  · rw [if_pos h35]
    obtain ⟨h0, h35⟩ := h35
    simp only
    have hTs := tail_size S 1
    have hTg := tail_get S 1
    rcases idxF_cases S 59 with ⟨hix, hno⟩ | ⟨i, hix, hil, h59, hino⟩
    · have hn := nb_none (S.extract 1 S.size) (fun j hj => by
        rw [hTg]
        intro e
        exact hno (1 + j) (by omega) (UInt8.toNat_inj.1 e))
      rw [hn]
      exact ⟨fun _ => rfl, fun h => absurd (Or.inl hix) h⟩
    · have hI : insS S = S.extract 0 i := by unfold insS; rw [hix]; rfl
      have hIs : (insS S).size = i := by rw [hI]; simp; omega
      have hIg : ∀ j, j < i → (insS S).get! j = S.get! j := fun j hj => by rw [hI, ext_get S 0 i j (by omega) (by omega), Nat.zero_add]
      have h59n : (S.get! i).toNat = 59 := by rw [h59]; rfl
      have hi1 : 1 ≤ i := by
        rcases Nat.eq_zero_or_pos i with e | e
        · subst e; omega
        · exact e
      have hinn : ∀ q, q < i → (S.get! q).toNat ≠ 59 := fun q hq e => hino q hq (UInt8.toNat_inj.1 e)
      have hne : idxF S 59 ≠ -1 := by omega
      generalize insS S = I at *
      have core : ∀ (b a : Nat) (base : Int), a = b + 1 → a ≤ i → basF (S.extract 1 S.size) = (base, b) → base ≤ 16 → hashF I = numF base (I.extract a I.size) →
          ((idxF S 59 = -1 ∨ (hashF I).2 = false) → (nbF (S.extract 1 S.size)).2.2 = false) ∧ (¬ (idxF S 59 = -1 ∨ (hashF I).2 = false) → (nbF (S.extract 1 S.size)).2.2 = true ∧ (nbF (S.extract 1 S.size)).1.data.toList = Lib.encodeRune (hashF I).1 ∧ (nbF (S.extract 1 S.size)).2.1 + 1 = (I.size : Int) + 1) := by
        intro b a base ha hai hbas hb16 hh
        have hDs : (I.extract a I.size).size = i - a := by rw [tail_size, hIs]
        obtain ⟨u, v⟩ := nb_eq (S.extract 1 S.size) (I.extract a I.size) b base hbas hb16 (by omega) (fun j hj => by rw [hTg, tail_get, hIg _ (by omega)]; congr 1; omega) (by rw [hTg, hDs, show 1 + (b + (i - a)) = i by omega]; exact h59n) (fun j hj => by rw [tail_get, hIg _ (by omega)]; exact hinn _ (by omega))
        rw [hh]
        constructor
        · rintro (h | h)
          · exact absurd h hne
          · rw [v h]
        · intro h
          have ht : (numF base (I.extract a I.size)).2 = true := by
            cases e : (numF base (I.extract a I.size)).2 with
            | true => rfl
            | false => exact absurd (Or.inr e) h
          rw [u ht]
          refine ⟨rfl, encode_eq _ (numL_char base _ 0 ht), ?_⟩
          simp only
          omega
      by_cases hx : 2 ≤ i ∧ (S.get! 1).toNat = 120
      · refine core 1 2 16 rfl hx.1 ?_ (by omega) ?_
        · unfold basF
          rw [if_pos ⟨by omega, by rw [hTg]; exact hx.2⟩]
        · unfold hashF
          rw [if_pos]
          rw [decide_eq_true (by omega), pre_two I (by omega), hIg 0 (by omega), hIg 1 (by omega), show S.get! 0 = 35 from UInt8.toNat_inj.1 h35, show S.get! 1 = 120 from UInt8.toNat_inj.1 hx.2]
          rfl
      · refine core 0 1 10 rfl hi1 ?_ (by omega) ?_
        · unfold basF
          rw [if_neg]
          rintro ⟨h1, h2⟩
          rw [hTg] at h2
          by_cases h3 : 2 ≤ i
          · exact hx ⟨h3, h2⟩
          · have : i = 1 := by omega
            subst this
            rw [h59n] at h2
            omega
        · unfold hashF
          rw [if_neg, if_pos]
          · rw [decide_eq_true (by omega), pre_one I (by omega), hIg 0 (by omega), show S.get! 0 = 35 from UInt8.toNat_inj.1 h35]
            rfl
          · intro h
            simp only [Bool.and_eq_true, decide_eq_true_eq, beq_iff_eq] at h
            obtain ⟨h1, h2⟩ := h
            rw [pre_two I h1, hIg 0 (by omega), hIg 1 (by omega)] at h2
            injection h2 with _ h2
            injection h2 with h2 _
            exact hx ⟨by omega, by rw [h2]; rfl⟩
  · rw [if_neg h35]
    have hh : idxF S 59 = -1 ∨ (hashF (insS S)).2 = false := by
      rcases idxF_cases S 59 with ⟨hix, _⟩ | ⟨i, hix, hil, h59, hino⟩
      · exact Or.inl hix
      · right
        have hI : insS S = S.extract 0 i := by unfold insS; rw [hix]; rfl
        have hIs : (insS S).size = i := by rw [hI]; simp; omega
        have hIg : ∀ j, j < i → (insS S).get! j = S.get! j := fun j hj => by rw [hI, ext_get S 0 i j (by omega) (by omega), Nat.zero_add]
        generalize insS S = I at *
        have h350 : S.get! 0 ≠ 35 := fun e => h35 ⟨by omega, by rw [e]; rfl⟩
        unfold hashF
        rw [if_neg, if_neg]
        · intro h
          simp only [Bool.and_eq_true, decide_eq_true_eq, beq_iff_eq] at h
          rw [pre_one I h.1, hIg 0 (by omega)] at h
          injection h.2 with h2 _
          exact h350 h2
        · intro h
          simp only [Bool.and_eq_true, decide_eq_true_eq, beq_iff_eq] at h
          rw [pre_two I h.1, hIg 0 (by omega)] at h
          injection h.2 with h2 _
          exact h350 h2
    exact ⟨fun _ => rfl, fun h => absurd hh h⟩
#print axioms hash_eq
end Go.Proofs.YtpefadblmgcpcaaDoor
