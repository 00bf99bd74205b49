/- What is written of a reference is read as it was: plain. No Go text here. -/
import Derived.Test.YtklinhfcecfnfaaDoorRTxW
namespace Go.Proofs.YtklinhfcecfnfaaDoor

/-- The byte at p of a list of bytes. -/
theorem byt_baL (A : List UInt8) (c : UInt8) (B : List UInt8) : byt (baL (A ++ c :: B)) A.length = c.toNat := by
  unfold byt baL
  have h : A.length < (A ++ c :: B).toArray.size := by simp
  show ((⟨(A ++ c :: B).toArray⟩ : ByteArray).get! A.length).toNat = _
  simp [ByteArray.get!]
theorem isAt_baL (A : List UInt8) (c : UInt8) (B : List UInt8) (k : Nat) : isAt (baL (A ++ c :: B)) k A.length = (c.toNat == k) := by
  unfold isAt
  rw [byt_baL, decide_eq_true (by rw [baL_size]; simp)]
  simp
theorem isAt_end (A : List UInt8) (k : Nat) : isAt (baL A) k A.length = false := by
  unfold isAt
  rw [decide_eq_false (by rw [baL_size]; omega)]
  rfl
/-- A stretch of bytes of a kind, and what stands behind it. -/
theorem end_baL (K : Nat → Bool) (A M B : List UInt8) (hM : ∀ c ∈ M, K c.toNat = true) (hB : ∀ c B', B = c :: B' → K c.toNat = false) : endK K (baL (A ++ M ++ B)) A.length = (A ++ M).length := by
  refine endK_is K _ _ _ _ (Nat.le_refl _) (by simp) (by rw [baL_size]; simp) ?_ ?_
  · intro i h1 h2
    obtain ⟨j, rfl⟩ : ∃ j, i = A.length + j := ⟨i - A.length, by omega⟩
    have hj : j < M.length := by simp at h2; omega
    have e : A ++ M ++ B = (A ++ M.take j) ++ M[j] :: (M.drop (j + 1) ++ B) := by
      rw [List.append_assoc, List.append_assoc]
      congr 1
      have hM2 : M = M.take j ++ M[j] :: M.drop (j + 1) := by rw [← List.drop_eq_getElem_cons hj, List.take_append_drop]
      conv => lhs; rw [hM2]
      rw [List.append_assoc, List.cons_append]
    have hl : (A ++ M.take j).length = A.length + j := by simp; omega
    rw [e, ← hl, byt_baL]
    exact hM _ (List.getElem_mem hj)
  · intro h
    cases B with
    | nil => rw [baL_size] at h; simp at h
    | cons c B' =>
      rw [byt_baL (A ++ M) c B']
      exact hB c B' rfl
theorem ext_baL (A M B : List UInt8) : (baL (A ++ M ++ B)).extract A.length (A ++ M).length = baL M := by
  apply ByteArray.ext
  apply Array.toList_inj.1
  rw [ext_list, baL_list, baL_list, List.append_assoc, List.drop_left]
  rw [show (A ++ M).length - A.length = M.length by simp, List.take_left]

/-- The number that digits say. -/
theorem pu_app : ∀ (l m : List UInt8) (a b : Nat), Lib.parseUint10 a l = .ok b → Lib.parseUint10 a (l ++ m) = Lib.parseUint10 b m
  | [], m, a, b, h => by
    simp only [Lib.parseUint10] at h
    injection h with h
    subst h
    rfl
  | c :: r, m, a, b, h => by
    simp only [Lib.parseUint10] at h
    simp only [List.cons_append, Lib.parseUint10]
    split at h
    · split at h
      · cases h
      · split at h
        · cases h
        · rename_i h1 h2 h3
          rw [if_pos h1, if_neg h2, if_neg h3]
          exact pu_app r m _ b h
    · cases h
theorem pu_dec : ∀ (n : Nat), n < 1000000000 → Lib.parseUint10 0 (Lib.decDigits n) = .ok n := by
  intro n
  induction n using Nat.strongRecOn with
  | _ n ih =>
    intro hn
    by_cases h : n < 10
    · rw [Lib.decDigits, dif_pos h]
      simp only [Lib.parseUint10]
      have e : (UInt8.ofNat (48 + n)).toNat = 48 + n := by rw [UInt8.toNat_ofNat']; omega
      rw [e, if_pos (by omega), if_neg (by omega), if_neg (by omega)]
      congr 1
      omega
    · rw [Lib.decDigits, dif_neg h, pu_app _ _ _ _ (ih (n / 10) (by omega) (by omega))]
      simp only [Lib.parseUint10]
      have e : (UInt8.ofNat (48 + n % 10)).toNat = 48 + n % 10 := by rw [UInt8.toNat_ofNat']; omega
      rw [e, if_pos (by omega), if_neg (by omega), if_neg (by omega)]
      congr 1
      omega
theorem dec_dig : ∀ (n : Nat), ∀ c ∈ Lib.decDigits n, digK c.toNat = true := by
  intro n
  induction n using Nat.strongRecOn with
  | _ n ih =>
    by_cases h : n < 10
    · rw [Lib.decDigits, dif_pos h]
      intro c hc
      rw [List.mem_singleton] at hc
      subst hc
      rw [UInt8.toNat_ofNat']
      simp [digK]
      omega
    · rw [Lib.decDigits, dif_neg h]
      intro c hc
      rcases List.mem_append.1 hc with hc | hc
      · exact ih (n / 10) (by omega) c hc
      · rw [List.mem_singleton] at hc
        subst hc
        rw [UInt8.toNat_ofNat']
        simp [digK]
        omega
theorem dec_head : ∀ (n : Nat), 1 ≤ n → ∃ c l, Lib.decDigits n = c :: l ∧ 49 ≤ c.toNat ∧ c.toNat ≤ 57 := by
  intro n
  induction n using Nat.strongRecOn with
  | _ n ih =>
    intro h1
    by_cases h : n < 10
    · rw [Lib.decDigits, dif_pos h]
      exact ⟨_, [], rfl, by rw [UInt8.toNat_ofNat']; omega, by rw [UInt8.toNat_ofNat']; omega⟩
    · rw [Lib.decDigits, dif_neg h]
      obtain ⟨c, l, e, a, b⟩ := ih (n / 10) (by omega) (by omega)
      rw [e]
      exact ⟨c, _, rfl, a, b⟩
theorem row_back (r : Nat) (h : r < 1048576) : rowF (baL (Lib.decDigits (r + 1))) = some r := by
  obtain ⟨c, l, e, a, b⟩ := dec_head (r + 1) (by omega)
  have hp := pu_dec (r + 1) (by omega)
  have hb : byt (baL (Lib.decDigits (r + 1))) 0 = c.toNat := by
    rw [e]
    exact byt_baL [] c l
  unfold rowF
  rw [baL_list]
  have ha : Lib.atoiAll (Lib.decDigits (r + 1)) = .ok ((r + 1 : Nat) : Int) := by
    rw [e] at hp ⊢
    unfold Lib.atoiAll
    have e3 : ¬ c.toNat = 43 := by omega
    have e2 : ¬ c.toNat = 45 := by omega
    simp only [e3, e2, or_self, not_false_eq_true, true_and, false_and, if_false]
    unfold Lib.parseMag
    rw [if_neg (by simp), hp]
    simp only
    rw [if_neg (by omega)]
  rw [ha]
  simp only
  rw [if_pos ⟨by omega, by rw [hb]; omega⟩]
  congr 1
  omega
theorem col_back : ∀ c : Fin 1024, colF (baL (ltrL c.val)) = some c.val := by decide +kernel
theorem col_cap : ∀ c : Fin 1024, (ltrL c.val).all (fun b => capK b.toNat) = true := by decide +kernel

theorem cap_all (c : Nat) (h : c < 1024) : ∀ b ∈ ltrL c, capK b.toNat = true := by
  have := col_cap ⟨c, h⟩
  rw [List.all_eq_true] at this
  exact this
/-- Behind a corner stands nothing, or a colon. -/
def tailOk (B : List UInt8) : Prop := B = [] ∨ ∃ B', B = 58 :: B'
theorem isAt_first (A B : List UInt8) (k : Nat) : isAt (baL (A ++ B)) k A.length = (match B with
    | [] => false
    | c :: _ => c.toNat == k) := by
  cases B with
  | nil => rw [List.append_nil]; exact isAt_end A k
  | cons c B => exact isAt_baL A c B k
theorem past_dol (A B : List UInt8) (b : Bool) (hB : isAt (baL (A ++ B)) 36 A.length = false) : isAt (baL (A ++ (dolL b ++ B))) 36 A.length = b ∧ past (baL (A ++ (dolL b ++ B))) 36 A.length = (A ++ dolL b).length := by
  cases b with
  | false =>
    have e : dolL false ++ B = B := rfl
    rw [e]
    refine ⟨hB, ?_⟩
    unfold past
    rw [if_neg (by rw [hB]; simp)]
    simp [dolL]
  | true =>
    have e : dolL true ++ B = 36 :: B := rfl
    rw [e]
    have h : isAt (baL (A ++ 36 :: B)) 36 A.length = true := by rw [isAt_baL]; rfl
    refine ⟨h, ?_⟩
    unfold past
    rw [if_pos h]
    simp [dolL]
theorem cor_back (A B : List UInt8) (r c : Nat) (x y : Bool) (hr : r < 1048576) (hc : c < 1024) (hB : tailOk B) : crA (baL (A ++ (corL r c x y ++ B))) A.length = .ok ((r, c, x, y), (A ++ corL r c x y).length) := by
  obtain ⟨l0, L', hL⟩ : ∃ l0 L', ltrL c = l0 :: L' := by
    cases h : ltrL c with
    | nil =>
      have := col_back ⟨c, hc⟩
      simp only at this
      rw [h] at this
      rw [colF_nil _ rfl] at this
      cases this
    | cons a b => exact ⟨a, b, rfl⟩
  obtain ⟨d0, D', hD, hd1, hd2⟩ := dec_head (r + 1) (by omega)
  have hcap := cap_all c hc
  have hl0 : 65 ≤ l0.toNat ∧ l0.toNat ≤ 90 := capK_bd (hcap l0 (by rw [hL]; exact List.mem_cons_self))
  -- the sign of the column
  have p1 := past_dol A (ltrL c ++ (dolL x ++ (Lib.decDigits (r + 1) ++ B))) y (by rw [isAt_first, hL]; simp; omega)
  have e1 : A ++ (dolL y ++ (ltrL c ++ (dolL x ++ (Lib.decDigits (r + 1) ++ B)))) = A ++ (corL r c x y ++ B) := by unfold corL; simp
  rw [e1] at p1
  -- the column
  have e2 : A ++ (corL r c x y ++ B) = (A ++ dolL y) ++ ltrL c ++ (dolL x ++ (Lib.decDigits (r + 1) ++ B)) := by unfold corL; simp
  have k1 : endK capK (baL (A ++ (corL r c x y ++ B))) (A ++ dolL y).length = (A ++ dolL y ++ ltrL c).length := by
    rw [e2]
    refine end_baL capK _ _ _ hcap ?_
    intro b B' hb
    cases x with
    | true =>
      have : b = 36 := by simp [dolL] at hb; exact hb.1.symm
      subst this
      rfl
    | false =>
      rw [hD] at hb
      have : b = d0 := by simp [dolL] at hb; exact hb.1.symm
      subst this
      simp [capK]
      omega
  have hco : coA (baL (A ++ (corL r c x y ++ B))) (A ++ dolL y).length = .ok (c, (A ++ dolL y ++ ltrL c).length) := by
    unfold coA
    rw [k1, e2, ext_baL, show colF (baL (ltrL c)) = some c from col_back ⟨c, hc⟩]
  -- the sign of the row
  have p2 := past_dol (A ++ dolL y ++ ltrL c) (Lib.decDigits (r + 1) ++ B) x (by rw [isAt_first, hD]; simp; omega)
  have e3 : A ++ dolL y ++ ltrL c ++ (dolL x ++ (Lib.decDigits (r + 1) ++ B)) = A ++ (corL r c x y ++ B) := by unfold corL; simp
  rw [e3] at p2
  -- the row
  have e4 : A ++ (corL r c x y ++ B) = (A ++ dolL y ++ ltrL c ++ dolL x) ++ Lib.decDigits (r + 1) ++ B := by unfold corL; simp
  have k2 : endK digK (baL (A ++ (corL r c x y ++ B))) (A ++ dolL y ++ ltrL c ++ dolL x).length = (A ++ dolL y ++ ltrL c ++ dolL x ++ Lib.decDigits (r + 1)).length := by
    rw [e4]
    refine end_baL digK _ _ _ (dec_dig (r + 1)) ?_
    intro b B' hb
    rcases hB with rfl | ⟨B2, rfl⟩
    · cases hb
    · cases hb
      rfl
  have hro : roA (baL (A ++ (corL r c x y ++ B))) (A ++ dolL y ++ ltrL c ++ dolL x).length = .ok (r, (A ++ dolL y ++ ltrL c ++ dolL x ++ Lib.decDigits (r + 1)).length) := by
    unfold roA
    rw [k2, e4, ext_baL, row_back r hr]
  unfold crA
  rw [p1.2, hco]
  simp only
  rw [p2.2, hro]
  simp only
  rw [p1.1, p2.1]
  congr 2
  unfold corL
  simp

theorem baL_ext {A B : ByteArray} (h : A.data.toList = B.data.toList) : A = B := ByteArray.ext (Array.toList_inj.1 h)
theorem all_of_end (K : Nat → Bool) (t : ByteArray) (h : endK K t 0 = t.size) : ∀ c ∈ t.data.toList, K c.toNat = true := by
  intro c hc
  obtain ⟨i, hi, rfl⟩ := List.mem_iff_getElem.1 hc
  have hi2 : i < t.size := by simpa using hi
  have := endK_all K t 0 i (Nat.zero_le _) (by omega)
  rw [← byt_at t i hi2] at this
  exact this
theorem sht_end {t : ByteArray} (h : shtF t = true) : endK shtK t 0 = t.size := by
  unfold shtF at h
  simp only [Bool.and_eq_true, decide_eq_true_eq] at h
  exact h.2
theorem wrd_end {t : ByteArray} (h : wrdF t = true) : endK wrdK t 0 = t.size := by
  unfold wrdF at h
  simp only [Bool.and_eq_true, decide_eq_true_eq] at h
  exact h.1
theorem emp_data {t : ByteArray} (h : empB t = true) : t = ⟨#[]⟩ := by
  unfold empB at h
  rw [ByteArray.toList_eq] at h
  apply baL_ext
  simpa using h
/-- The name of a sheet, read back. -/
theorem sh_back (A B : List UInt8) (t : ByteArray) (h : empB t = true ∨ shtF t = true) : shA (baL (A ++ ((quoF t).data.toList ++ 46 :: B))) A.length = .ok (t, (A ++ (quoF t).data.toList).length) := by
  by_cases he : empB t = true
  · obtain rfl := emp_data he
    have hq : quoF (⟨#[]⟩ : ByteArray) = ⟨#[]⟩ := emp_quo _ (emp_yes _ rfl)
    rw [hq]
    have e : A ++ ((⟨#[]⟩ : ByteArray).data.toList ++ 46 :: B) = A ++ 46 :: B := rfl
    rw [e]
    unfold shA
    rw [if_neg (by rw [isAt_baL]; simp), if_pos (by
      refine endK_stop wrdK _ _ ?_
      rw [byt_baL]
      rintro ⟨_, h⟩
      revert h
      decide)]
    simp
  · have hs : shtF t = true := by
      rcases h with h | h
      · exact absurd h he
      · exact h
    have hz := shtF_size hs
    cases hw : wrdF t with
    | true =>
      rw [quo_plain hs hw]
      have hall := all_of_end wrdK t (wrd_end hw)
      obtain ⟨c0, L, hL⟩ : ∃ c0 L, t.data.toList = c0 :: L := by
        cases hl : t.data.toList with
        | nil => have : t.data.toList.length = t.size := by simp
                 rw [hl] at this; simp at this; omega
        | cons a b => exact ⟨a, b, rfl⟩
      have hc0 : wrdK c0.toNat = true := hall c0 (by rw [hL]; exact List.mem_cons_self)
      have hi : isAt (baL (A ++ (t.data.toList ++ 46 :: B))) 39 A.length = false := by
        rw [isAt_first, hL]
        simp only [List.cons_append]
        rw [beq_eq_false_iff_ne]
        intro e
        rw [e] at hc0
        revert hc0
        decide
      have e2 : A ++ (t.data.toList ++ 46 :: B) = A ++ t.data.toList ++ 46 :: B := by simp
      have hk : endK wrdK (baL (A ++ (t.data.toList ++ 46 :: B))) A.length = (A ++ t.data.toList).length := by
        rw [e2]
        refine end_baL wrdK _ _ _ hall ?_
        intro b B' hb
        cases hb
        decide
      have hx : (baL (A ++ (t.data.toList ++ 46 :: B))).extract A.length (A ++ t.data.toList).length = t := by
        rw [e2, ext_baL, baL_self]
      unfold shA
      rw [if_neg (by rw [hi]; simp), hk, hx, if_neg (by rw [List.length_append, hL]; simp), if_pos ⟨hs, hw⟩]
    | false =>
      rw [quo_quoted hs hw, baL_list]
      have hall : ∀ c ∈ t.data.toList, nquK c.toNat = true := by
        intro c hc
        have := all_of_end shtK t (sht_end hs) c hc
        unfold nquK
        rw [bne_iff_ne]
        intro e
        rw [e] at this
        revert this
        decide
      have hi : isAt (baL (A ++ (39 :: (t.data.toList ++ [39]) ++ 46 :: B))) 39 A.length = true := by
        rw [List.cons_append, isAt_baL]
        rfl
      have e2 : A ++ (39 :: (t.data.toList ++ [39]) ++ 46 :: B) = (A ++ [39]) ++ t.data.toList ++ (39 :: 46 :: B) := by simp
      have hl : A.length + 1 = (A ++ [39]).length := by simp
      have hk : endK nquK (baL (A ++ (39 :: (t.data.toList ++ [39]) ++ 46 :: B))) (A.length + 1) = (A ++ [39] ++ t.data.toList).length := by
        rw [e2, hl]
        refine end_baL nquK _ _ _ hall ?_
        intro b B' hb
        cases hb
        decide
      have hx : (baL (A ++ (39 :: (t.data.toList ++ [39]) ++ 46 :: B))).extract (A.length + 1) (A ++ [39] ++ t.data.toList).length = t := by
        rw [e2, hl, ext_baL, baL_self]
      unfold shA
      rw [if_pos hi, hk, if_pos (by rw [baL_size]; simp), hx, if_pos ⟨hs, hw⟩]
      congr 2
      simp
      omega
/-- What is written of a reference is read as it was. -/
theorem rf_back (t u : ByteArray) (fx ar : Bool) (r1 c1 : Nat) (x1 y1 : Bool) (r2 c2 : Nat) (x2 y2 : Bool) (hr1 : r1 < 1048576) (hc1 : c1 < 1024) (hr2 : r2 < 1048576) (hc2 : c2 < 1024) (hs : shsB t u fx = true) (ha : ar = false → r2 = 0 ∧ c2 = 0 ∧ x2 = false ∧ y2 = false ∧ empB u = true) :
    rfA (baL (texL t u fx ar r1 c1 x1 y1 r2 c2 x2 y2)) = .ok ⟨t, u, fx, ar, r1, c1, x1, y1, r2, c2, x2, y2⟩ := by
  have ht : empB t = true ∨ shtF t = true := by
    unfold shsB at hs
    cases h : empB t with
    | true => exact Or.inl rfl
    | false => rw [h] at hs; simp at hs; exact Or.inr hs.1
  have hu : empB u = true ∨ shtF u = true := by
    unfold shsB at hs
    cases h : empB t with
    | true => rw [h] at hs; simp at hs; exact Or.inl hs.1
    | false => rw [h] at hs; simp at hs; exact hs.2
  have hfx : ¬ (fx = true ∧ t.size = 0) := by
    rintro ⟨rfl, hz⟩
    have : empB t = true := emp_yes t hz
    unfold shsB at hs
    rw [this] at hs
    simp at hs
  have hto : u.size = 0 ∨ t.size ≠ 0 := by
    unfold shsB at hs
    cases h : empB t with
    | true =>
      rw [h] at hs
      simp at hs
      left
      rw [emp_data hs.1]
      rfl
    | false =>
      right
      intro hz
      have : empB t = true := emp_yes t hz
      rw [this] at h
      cases h
  obtain ⟨E, hE⟩ : ∃ E : List UInt8, (if ar = true then 58 :: celL u r2 c2 x2 y2 else []) = E := ⟨_, rfl⟩
  have htail : tailOk E := by
    rw [← hE]
    cases ar with
    | false => exact Or.inl rfl
    | true => exact Or.inr ⟨_, rfl⟩
  have hT : texL t u fx ar r1 c1 x1 y1 r2 c2 x2 y2 = dolL fx ++ ((quoF t).data.toList ++ 46 :: (corL r1 c1 x1 y1 ++ E)) := by
    unfold texL
    rw [hE]
    unfold celL
    simp
  -- the sign ahead
  have hq0 : isAt (baL ([] ++ ((quoF t).data.toList ++ 46 :: (corL r1 c1 x1 y1 ++ E)))) 36 ([] : List UInt8).length = false := by
    rw [isAt_first]
    cases he : empB t with
    | true =>
      rw [emp_data he, show quoF (⟨#[]⟩ : ByteArray) = ⟨#[]⟩ from emp_quo _ (emp_yes _ rfl)]
      rfl
    | false =>
      have hs2 : shtF t = true := by
        rcases ht with h | h
        · rw [he] at h; cases h
        · exact h
      cases hw : wrdF t with
      | false =>
        rw [quo_quoted hs2 hw, baL_list]
        rfl
      | true =>
        rw [quo_plain hs2 hw]
        have hall := all_of_end wrdK t (wrd_end hw)
        cases hl : t.data.toList with
        | nil => rfl
        | cons a b =>
          have := hall a (by rw [hl]; exact List.mem_cons_self)
          simp only [List.cons_append]
          rw [beq_eq_false_iff_ne]
          intro e
          rw [e] at this
          revert this
          decide
  have p0 := past_dol [] ((quoF t).data.toList ++ 46 :: (corL r1 c1 x1 y1 ++ E)) fx hq0
  rw [List.nil_append, ← hT] at p0
  simp only [List.length_nil, List.nil_append] at p0
  have s1 := sh_back (dolL fx) (corL r1 c1 x1 y1 ++ E) t ht
  rw [← hT] at s1
  have e1 : texL t u fx ar r1 c1 x1 y1 r2 c2 x2 y2 = (dolL fx ++ (quoF t).data.toList) ++ 46 :: (corL r1 c1 x1 y1 ++ E) := by rw [hT]; simp
  have i1 : isAt (baL (texL t u fx ar r1 c1 x1 y1 r2 c2 x2 y2)) 46 (dolL fx ++ (quoF t).data.toList).length = true := by rw [e1, isAt_baL]; rfl
  have e2 : texL t u fx ar r1 c1 x1 y1 r2 c2 x2 y2 = (dolL fx ++ (quoF t).data.toList ++ [46]) ++ (corL r1 c1 x1 y1 ++ E) := by rw [hT]; simp
  have k1 := cor_back (dolL fx ++ (quoF t).data.toList ++ [46]) E r1 c1 x1 y1 hr1 hc1 htail
  rw [← e2] at k1
  have l1 : (dolL fx ++ (quoF t).data.toList).length + 1 = (dolL fx ++ (quoF t).data.toList ++ [46]).length := by simp; omega
  unfold rfA
  rw [p0.2, s1]
  simp only
  rw [p0.1, if_neg hfx]
  unfold ptA
  rw [if_pos i1, l1, k1]
  simp only
  unfold tlA
  obtain ⟨F, hF⟩ : ∃ F, dolL fx ++ (quoF t).data.toList ++ [46] ++ corL r1 c1 x1 y1 = F := ⟨_, rfl⟩
  have e3 : texL t u fx ar r1 c1 x1 y1 r2 c2 x2 y2 = F ++ E := by rw [e2, ← hF]; simp
  rw [hF]
  cases ar with
  | false =>
    obtain ⟨rfl, rfl, rfl, rfl, hu0⟩ := ha rfl
    have hE0 : E = [] := by rw [← hE]; rfl
    rw [hE0, List.append_nil] at e3
    obtain rfl := emp_data hu0
    rw [e3, if_neg (by rw [isAt_end]; simp), if_pos (by rw [baL_size])]
  | true =>
    have hE1 : E = 58 :: ((quoF u).data.toList ++ 46 :: corL r2 c2 x2 y2) := by rw [← hE]; rfl
    have i2 : isAt (baL (texL t u fx true r1 c1 x1 y1 r2 c2 x2 y2)) 58 F.length = true := by rw [e3, hE1, isAt_baL]; rfl
    have e4 : texL t u fx true r1 c1 x1 y1 r2 c2 x2 y2 = (F ++ [58]) ++ ((quoF u).data.toList ++ 46 :: corL r2 c2 x2 y2) := by rw [e3, hE1]; simp
    have s2 := sh_back (F ++ [58]) (corL r2 c2 x2 y2) u hu
    rw [← e4] at s2
    have l2 : F.length + 1 = (F ++ [58]).length := by simp
    have e5 : texL t u fx true r1 c1 x1 y1 r2 c2 x2 y2 = (F ++ [58] ++ (quoF u).data.toList) ++ 46 :: corL r2 c2 x2 y2 := by rw [e4]; simp
    have i3 : isAt (baL (texL t u fx true r1 c1 x1 y1 r2 c2 x2 y2)) 46 (F ++ [58] ++ (quoF u).data.toList).length = true := by rw [e5, isAt_baL]; rfl
    have e6 : texL t u fx true r1 c1 x1 y1 r2 c2 x2 y2 = (F ++ [58] ++ (quoF u).data.toList ++ [46]) ++ (corL r2 c2 x2 y2 ++ []) := by rw [e5]; simp
    have k2 := cor_back (F ++ [58] ++ (quoF u).data.toList ++ [46]) [] r2 c2 x2 y2 hr2 hc2 (Or.inl rfl)
    rw [← e6] at k2
    have l3 : (F ++ [58] ++ (quoF u).data.toList).length + 1 = (F ++ [58] ++ (quoF u).data.toList ++ [46]).length := by simp; omega
    rw [if_pos i2]
    unfold toA
    rw [l2, s2]
    simp only
    rw [if_pos hto]
    simp only
    unfold ptA
    rw [if_pos i3, l3, k2]
    simp only
    rw [if_pos (by rw [baL_size, e6]; simp)]
#print axioms rf_back
#print axioms ext_baL
end Go.Proofs.YtklinhfcecfnfaaDoor
