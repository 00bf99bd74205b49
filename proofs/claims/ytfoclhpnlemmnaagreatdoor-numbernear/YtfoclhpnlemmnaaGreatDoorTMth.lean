/- Texts of dates and times: digits, forms, the numbers within. No Go text here. -/
import Derived.Lib.Atoi
import Derived.Lib.ItoaNum
import Derived.Lib.Repeat
namespace Go.Proofs.YtfoclhpnlemmnaaGreatDoor

/-- A digit? -/
def dgB (c : UInt8) : Bool := decide (48 ≤ c.toNat ∧ c.toNat ≤ 57)
/-- Does a text have digits just where a form has a 0, and the form's bytes elsewhere? -/
def likeB : List UInt8 → List UInt8 → Bool
  | [], [] => true
  | c :: s, f :: p => (if f = 48 then dgB c else c == f) && likeB s p
  | _, _ => false
/-- The numbers that stand in the place of a form's noughts; the last of them is under way. -/
def numsL : List Nat → Nat → List UInt8 → List UInt8 → Option (List Nat)
  | acc, a, [], [] => some (acc ++ [a])
  | acc, a, c :: s, f :: p => if f = 48 ∧ dgB c = true then numsL acc (a * 10 + (c.toNat - 48)) s p else if f = c then numsL (acc ++ [a]) 0 s p else none
  | _, _, _, _ => none
/-- The number of digits behind another one. -/
def numFrom (a : Nat) (L : List UInt8) : Nat := L.foldl (fun a c => a * 10 + (c.toNat - 48)) a
def numOf (L : List UInt8) : Nat := numFrom 0 L

theorem dgB_48 : dgB 48 = true := by decide
theorem nums_nil (acc : List Nat) (a : Nat) : numsL acc a [] [] = some (acc ++ [a]) := by simp [numsL]
theorem nums_cons (acc : List Nat) (a : Nat) (c f : UInt8) (s p : List UInt8) : numsL acc a (c :: s) (f :: p) = if f = 48 ∧ dgB c = true then numsL acc (a * 10 + (c.toNat - 48)) s p else if f = c then numsL (acc ++ [a]) 0 s p else none := by simp [numsL]
theorem nums_len : ∀ (s p : List UInt8) (acc : List Nat) (a : Nat), s.length ≠ p.length → numsL acc a s p = none
  | [], [], _, _, h => absurd rfl h
  | [], _ :: _, _, _, _ => by simp [numsL]
  | _ :: _, [], _, _, _ => by simp [numsL]
  | c :: s, f :: p, acc, a, h => by
    have h' : s.length ≠ p.length := by simpa using h
    rw [nums_cons, nums_len s p _ _ h', nums_len s p _ _ h']
    simp
theorem like_nums : ∀ (s p : List UInt8) (acc : List Nat) (a : Nat), likeB s p = (numsL acc a s p).isSome
  | [], [], acc, a => by simp [likeB, numsL]
  | [], _ :: _, _, _ => by simp [likeB, numsL]
  | _ :: _, [], _, _ => by simp [likeB, numsL]
  | c :: s, f :: p, acc, a => by
    rw [nums_cons, likeB]
    by_cases h1 : f = 48
    · subst h1
      cases hd : dgB c with
      | true =>
        rw [if_pos rfl, if_pos ⟨rfl, rfl⟩, Bool.true_and]
        exact like_nums s p _ _
      | false =>
        have hc : ¬ (48 : UInt8) = c := by
          rintro rfl
          rw [dgB_48] at hd
          cases hd
        rw [if_pos rfl, if_neg (by simp), if_neg hc]
        rfl
    · rw [if_neg h1, if_neg (by intro h; exact h1 h.1)]
      by_cases h2 : f = c
      · subst h2
        rw [if_pos rfl]
        simp only [beq_self_eq_true, Bool.true_and]
        exact like_nums s p _ _
      · rw [if_neg h2, show (c == f) = false by simpa using fun e : c = f => h2 e.symm]
        rfl
theorem like_append : ∀ (p q s : List UInt8), likeB s (p ++ q) = true ↔ ∃ a b, s = a ++ b ∧ likeB a p = true ∧ likeB b q = true
  | [], q, s => by
    constructor
    · intro h; exact ⟨[], s, rfl, rfl, h⟩
    · rintro ⟨a, b, rfl, h1, h2⟩
      cases a with
      | nil => exact h2
      | cons x a => simp [likeB] at h1
  | f :: p, q, [] => by
    constructor
    · intro h; simp [likeB] at h
    · rintro ⟨a, b, h, h1, _⟩
      cases a with
      | nil => simp [likeB] at h1
      | cons x a => cases h
  | f :: p, q, c :: s => by
    show ((if f = 48 then dgB c else c == f) && likeB s (p ++ q)) = true ↔ _
    rw [Bool.and_eq_true, like_append p q s]
    constructor
    · rintro ⟨h1, a, b, rfl, h2, h3⟩
      exact ⟨c :: a, b, rfl, by show (_ && _) = true; rw [h1, h2]; rfl, h3⟩
    · rintro ⟨a, b, h, h1, h2⟩
      cases a with
      | nil => simp [likeB] at h1
      | cons x a =>
        rw [List.cons_append] at h
        injection h with e1 e2
        subst e1 e2
        have h1' : ((if f = 48 then dgB c else c == f) && likeB a p) = true := h1
        rw [Bool.and_eq_true] at h1'
        exact ⟨h1'.1, a, b, rfl, h1'.2, h2⟩
theorem like_digits : ∀ (n : Nat) (s : List UInt8), likeB s (List.replicate n 48) = true ↔ s.length = n ∧ ∀ c ∈ s, dgB c = true
  | 0, [] => by simp [likeB]
  | 0, _ :: _ => by simp [likeB]
  | n + 1, [] => by simp [likeB, List.replicate_succ]
  | n + 1, c :: s => by
    rw [List.replicate_succ]
    show ((if (48 : UInt8) = 48 then dgB c else c == 48) && likeB s (List.replicate n 48)) = true ↔ _
    rw [if_pos rfl, Bool.and_eq_true, like_digits n s]
    simp only [List.length_cons, List.mem_cons, forall_eq_or_imp]
    constructor
    · rintro ⟨h1, h2, h3⟩; exact ⟨by omega, h1, h3⟩
    · rintro ⟨h1, h2, h3⟩; exact ⟨h2, by omega, h3⟩
theorem like_one (f : UInt8) (hf : f ≠ 48) (s : List UInt8) : likeB s [f] = true ↔ s = [f] := by
  match s with
  | [] => simp [likeB]
  | [c] => simp [likeB, hf]
  | c :: d :: r => simp [likeB]
theorem like_length : ∀ (s p : List UInt8), likeB s p = true → s.length = p.length
  | [], [], _ => rfl
  | [], _ :: _, h => by simp [likeB] at h
  | _ :: _, [], h => by simp [likeB] at h
  | c :: s, f :: p, h => by
    have h' : ((if f = 48 then dgB c else c == f) && likeB s p) = true := h
    rw [Bool.and_eq_true] at h'
    simp [like_length s p h'.2]
theorem nums_digits : ∀ (L s p : List UInt8) (acc : List Nat) (a : Nat), (∀ c ∈ L, dgB c = true) → numsL acc a (L ++ s) (List.replicate L.length 48 ++ p) = numsL acc (numFrom a L) s p
  | [], s, p, acc, a, _ => rfl
  | c :: L, s, p, acc, a, h => by
    rw [List.length_cons, List.replicate_succ, List.cons_append, List.cons_append, nums_cons, if_pos ⟨rfl, h c List.mem_cons_self⟩, nums_digits L s p _ _ (fun x hx => h x (List.mem_cons_of_mem _ hx))]
    rfl
theorem nums_sign (f : UInt8) (hf : f ≠ 48) (s p : List UInt8) (acc : List Nat) (a : Nat) : numsL acc a (f :: s) (f :: p) = numsL (acc ++ [a]) 0 s p := by
  rw [nums_cons, if_neg (by intro h; exact hf h.1), if_pos rfl]
/-- Two rows of digits with signs between. -/
theorem numFrom_lt : ∀ (L : List UInt8) (a k : Nat), (∀ c ∈ L, dgB c = true) → a < 10 ^ k → numFrom a L < 10 ^ (k + L.length)
  | [], a, k, _, h => h
  | c :: L, a, k, h, ha => by
    have hc : 48 ≤ c.toNat ∧ c.toNat ≤ 57 := by simpa [dgB] using h c List.mem_cons_self
    have := numFrom_lt L (a * 10 + (c.toNat - 48)) (k + 1) (fun x hx => h x (List.mem_cons_of_mem _ hx)) (by rw [Nat.pow_succ]; omega)
    rw [List.length_cons, show k + (L.length + 1) = k + 1 + L.length by omega]
    exact this
theorem numOf_lt (L : List UInt8) (h : ∀ c ∈ L, dgB c = true) : numOf L < 10 ^ L.length := by
  have := numFrom_lt L 0 0 h (by decide)
  rwa [Nat.zero_add] at this
theorem decFrom_num : ∀ (L : List UInt8) (a : Nat), (∀ c ∈ L, dgB c = true) → Lib.decFrom a L = some (numFrom a L)
  | [], a, _ => rfl
  | c :: L, a, h => by
    have hc : 48 ≤ c.toNat ∧ c.toNat ≤ 57 := by simpa [dgB] using h c List.mem_cons_self
    have hd : Lib.digitVal c = some (c.toNat - 48) := by unfold Lib.digitVal; rw [if_pos hc]
    rw [Lib.decFrom, hd]
    exact decFrom_num L _ (fun x hx => h x (List.mem_cons_of_mem _ hx))
theorem atoi_num (L : List UInt8) (h : ∀ c ∈ L, dgB c = true) (h0 : L ≠ []) : Lib.atoi L = some (numOf L : Int) := by
  match L, h0 with
  | c :: L, _ =>
    have hc : 48 ≤ c.toNat ∧ c.toNat ≤ 57 := by simpa [dgB] using h c List.mem_cons_self
    have n1 : (c == 45) = false := by
      rw [beq_eq_false_iff_ne]
      rintro rfl
      have : (45 : UInt8).toNat = 45 := rfl
      omega
    have n2 : (c == 43) = false := by
      rw [beq_eq_false_iff_ne]
      rintro rfl
      have : (43 : UInt8).toNat = 43 := rfl
      omega
    rw [Lib.atoi, n1, n2]
    simp only [Bool.false_eq_true, if_false, Lib.decNat, List.isEmpty_cons]
    rw [decFrom_num _ _ h]
    rfl
/-- The forms. -/
def dateFm : List UInt8 := [48, 48, 48, 48, 45, 48, 48, 45, 48, 48]
def clockFm : List UInt8 := [48, 48, 58, 48, 48, 58, 48, 48]
def minFm : List UInt8 := [48, 48, 77, 48, 48, 83]
theorem like_date (s : List UInt8) : likeB s dateFm = true ↔ ∃ Y M D : List UInt8, s = Y ++ 45 :: (M ++ 45 :: D) ∧ Y.length = 4 ∧ M.length = 2 ∧ D.length = 2 ∧ (∀ c ∈ Y, dgB c = true) ∧ (∀ c ∈ M, dgB c = true) ∧ (∀ c ∈ D, dgB c = true) := by
  rw [show dateFm = List.replicate 4 48 ++ ([45] ++ (List.replicate 2 48 ++ ([45] ++ List.replicate 2 48))) from rfl, like_append]
  simp only [like_append, like_digits, like_one 45 (by decide)]
  constructor
  · rintro ⟨Y, _, rfl, ⟨h1, h2⟩, _, _, rfl, rfl, M, _, rfl, ⟨h3, h4⟩, _, D, rfl, rfl, h5, h6⟩
    exact ⟨Y, M, D, rfl, h1, h3, h5, h2, h4, h6⟩
  · rintro ⟨Y, M, D, rfl, h1, h3, h5, h2, h4, h6⟩
    exact ⟨Y, _, rfl, ⟨h1, h2⟩, _, _, rfl, rfl, M, _, rfl, ⟨h3, h4⟩, _, D, rfl, rfl, h5, h6⟩
theorem like_clock (s : List UInt8) : likeB s clockFm = true ↔ ∃ Y M D : List UInt8, s = Y ++ 58 :: (M ++ 58 :: D) ∧ Y.length = 2 ∧ M.length = 2 ∧ D.length = 2 ∧ (∀ c ∈ Y, dgB c = true) ∧ (∀ c ∈ M, dgB c = true) ∧ (∀ c ∈ D, dgB c = true) := by
  rw [show clockFm = List.replicate 2 48 ++ ([58] ++ (List.replicate 2 48 ++ ([58] ++ List.replicate 2 48))) from rfl, like_append]
  simp only [like_append, like_digits, like_one 58 (by decide)]
  constructor
  · rintro ⟨Y, _, rfl, ⟨h1, h2⟩, _, _, rfl, rfl, M, _, rfl, ⟨h3, h4⟩, _, D, rfl, rfl, h5, h6⟩
    exact ⟨Y, M, D, rfl, h1, h3, h5, h2, h4, h6⟩
  · rintro ⟨Y, M, D, rfl, h1, h3, h5, h2, h4, h6⟩
    exact ⟨Y, _, rfl, ⟨h1, h2⟩, _, _, rfl, rfl, M, _, rfl, ⟨h3, h4⟩, _, D, rfl, rfl, h5, h6⟩
theorem like_min (s : List UInt8) : likeB s minFm = true ↔ ∃ M S : List UInt8, s = M ++ 77 :: (S ++ [83]) ∧ M.length = 2 ∧ S.length = 2 ∧ (∀ c ∈ M, dgB c = true) ∧ (∀ c ∈ S, dgB c = true) := by
  rw [show minFm = List.replicate 2 48 ++ ([77] ++ (List.replicate 2 48 ++ [83])) from rfl, like_append]
  simp only [like_append, like_digits, like_one 77 (by decide), like_one 83 (by decide)]
  constructor
  · rintro ⟨M, _, rfl, ⟨h1, h2⟩, _, _, rfl, rfl, S, _, rfl, ⟨h3, h4⟩, rfl⟩
    exact ⟨M, S, rfl, h1, h3, h2, h4⟩
  · rintro ⟨M, S, rfl, h1, h3, h2, h4⟩
    exact ⟨M, _, rfl, ⟨h1, h2⟩, _, _, rfl, rfl, S, _, rfl, ⟨h3, h4⟩, rfl⟩
theorem nums_date {Y M D : List UInt8} (h1 : Y.length = 4) (h2 : M.length = 2) (h3 : D.length = 2) (g1 : ∀ c ∈ Y, dgB c = true) (g2 : ∀ c ∈ M, dgB c = true) (g3 : ∀ c ∈ D, dgB c = true) :
    numsL [] 0 (Y ++ 45 :: (M ++ 45 :: D)) dateFm = some [numOf Y, numOf M, numOf D] := by
  rw [show dateFm = List.replicate Y.length 48 ++ (45 :: (List.replicate M.length 48 ++ (45 :: (List.replicate D.length 48 ++ [])))) by rw [h1, h2, h3]; rfl,
    nums_digits _ _ _ _ _ g1, nums_sign 45 (by decide), nums_digits _ _ _ _ _ g2, nums_sign 45 (by decide)]
  have := nums_digits D [] [] ([] ++ [numFrom 0 Y] ++ [numFrom 0 M]) 0 g3
  rw [List.append_nil] at this
  rw [this, nums_nil]
  rfl
theorem nums_clock {Y M D : List UInt8} (h1 : Y.length = 2) (h2 : M.length = 2) (h3 : D.length = 2) (g1 : ∀ c ∈ Y, dgB c = true) (g2 : ∀ c ∈ M, dgB c = true) (g3 : ∀ c ∈ D, dgB c = true) :
    numsL [] 0 (Y ++ 58 :: (M ++ 58 :: D)) clockFm = some [numOf Y, numOf M, numOf D] := by
  rw [show clockFm = List.replicate Y.length 48 ++ (58 :: (List.replicate M.length 48 ++ (58 :: (List.replicate D.length 48 ++ [])))) by rw [h1, h2, h3]; rfl,
    nums_digits _ _ _ _ _ g1, nums_sign 58 (by decide), nums_digits _ _ _ _ _ g2, nums_sign 58 (by decide)]
  have := nums_digits D [] [] ([] ++ [numFrom 0 Y] ++ [numFrom 0 M]) 0 g3
  rw [List.append_nil] at this
  rw [this, nums_nil]
  rfl
theorem nums_min {M S : List UInt8} (h2 : M.length = 2) (h3 : S.length = 2) (g2 : ∀ c ∈ M, dgB c = true) (g3 : ∀ c ∈ S, dgB c = true) :
    numsL [] 0 (M ++ 77 :: (S ++ [83])) minFm = some [numOf M, numOf S, 0] := by
  rw [show minFm = List.replicate M.length 48 ++ (77 :: (List.replicate S.length 48 ++ [83])) by rw [h2, h3]; rfl,
    nums_digits _ _ _ _ _ g2, nums_sign 77 (by decide), nums_digits _ _ _ _ _ g3, nums_sign 83 (by decide), nums_nil]
  rfl
theorem nums_none {s p : List UInt8} (h : likeB s p = false) (acc : List Nat) (a : Nat) : numsL acc a s p = none := by
  rw [like_nums s p acc a] at h
  cases hn : numsL acc a s p with
  | none => rfl
  | some L => rw [hn] at h; cases h
/-- A number in at least so many digits. -/
def padL (n least : Nat) : List UInt8 := List.replicate (least - (Lib.decDigits n).length) 48 ++ Lib.decDigits n
theorem dec_digits (n : Nat) : ∀ c ∈ Lib.decDigits n, dgB c = true := by
  induction n using Nat.strongRecOn with
  | _ n ih =>
    rw [Lib.decDigits]
    split
    · rename_i h
      intro c hc
      rw [List.mem_singleton] at hc
      subst hc
      simp [dgB]
      omega
    · intro c hc
      rcases List.mem_append.1 hc with hc | hc
      · exact ih (n / 10) (by omega) c hc
      · rw [List.mem_singleton] at hc
        subst hc
        simp [dgB]
        omega
theorem pad_digits (n least : Nat) : ∀ c ∈ padL n least, dgB c = true := by
  intro c hc
  rcases List.mem_append.1 hc with hc | hc
  · rw [List.eq_of_mem_replicate hc]; rfl
  · exact dec_digits n c hc
theorem numFrom_append (a : Nat) (L M : List UInt8) : numFrom a (L ++ M) = numFrom (numFrom a L) M := List.foldl_append
theorem numFrom_noughts : ∀ k, numFrom 0 (List.replicate k 48) = 0
  | 0 => rfl
  | k + 1 => by rw [List.replicate_succ]; exact numFrom_noughts k
theorem num_dec (n : Nat) : numOf (Lib.decDigits n) = n := by
  induction n using Nat.strongRecOn with
  | _ n ih =>
    rw [Lib.decDigits]
    split
    · rename_i h
      simp [numOf, numFrom]
      omega
    · unfold numOf
      rw [numFrom_append]
      have := ih (n / 10) (by omega)
      unfold numOf at this
      rw [this]
      simp [numFrom]
      omega
theorem num_pad (n least : Nat) : numOf (padL n least) = n := by
  unfold numOf padL
  rw [numFrom_append, numFrom_noughts]
  exact num_dec n
theorem dec_length_le : ∀ (k n : Nat), 1 ≤ k → n < 10 ^ k → (Lib.decDigits n).length ≤ k
  | 0, _, h, _ => absurd h (by decide)
  | k + 1, n, _, h => by
    rw [Lib.decDigits]
    split
    · simp
    · rename_i hn
      have hk : 1 ≤ k := by
        rcases Nat.eq_zero_or_pos k with e | e
        · subst e; omega
        · exact e
      rw [Nat.pow_succ] at h
      have := dec_length_le k (n / 10) hk (by omega)
      simp
      exact this
theorem pad_length (n least : Nat) (h1 : 1 ≤ least) (h : n < 10 ^ least) : (padL n least).length = least := by
  have := dec_length_le least n h1 h
  unfold padL
  simp
  omega
theorem repeat_nought : ∀ k, Lib.repeatL [48] k = List.replicate k 48
  | 0 => rfl
  | k + 1 => by rw [Lib.repeatL, repeat_nought k, List.replicate_succ]; rfl
#print axioms nums_min
#print axioms num_pad
end Go.Proofs.YtfoclhpnlemmnaaGreatDoor
