/- Plain mathematics of code lengths: how many symbols have each length, their room. No Go text here. -/
import Derived.WalkKit
namespace Go.Proofs.YthgnhcdodfildaaDoor

/-- The numbers of M as integers. -/
def up (M : List Nat) : List Int := M.map fun x : Nat => (x : Int)
@[simp] theorem length_up (M : List Nat) : (up M).length = M.length := by simp [up]
theorem up_get (M : List Nat) (i : Nat) (h : i < M.length) : (up M)[i]'(by simpa using h) = ((M[i] : Nat) : Int) := by simp [up]
theorem up_of (L : List Int) (h : ∀ x ∈ L, 0 ≤ x) : L = up (L.map Int.toNat) := by
  induction L with
  | nil => rfl
  | cons x L ih =>
    have h0 := h x (by simp)
    have := ih (fun y hy => h y (by simp [hy]))
    simp only [up, List.map_cons, List.map_map] at this ⊢
    rw [← this]
    congr 1
    simp; omega

/-- How many of M are l; of 0 none is counted. -/
def cntN (M : List Nat) (l : Nat) : Nat := if l = 0 then 0 else M.count l
/-- f with the number v at i. -/
def upd (f : Nat → Nat) (i v : Nat) : Nat → Nat := fun j => if j = i then v else f j
/-- The sum of f l times 2 to the 15 - l, l below n. -/
def rsum (f : Nat → Nat) : Nat → Nat
  | 0 => 0
  | n + 1 => rsum f n + f n * 2 ^ (15 - n)
/-- The sum of f l, l below n. -/
def ssum (f : Nat → Nat) : Nat → Nat
  | 0 => 0
  | n + 1 => ssum f n + f n
/-- The room of the lengths M. -/
def roomN : List Nat → Nat
  | [] => 0
  | x :: M => (if x = 0 then 0 else 2 ^ (15 - x)) + roomN M
/-- How many of M are above 0. -/
def manyN : List Nat → Nat
  | [] => 0
  | x :: M => (if x = 0 then 0 else 1) + manyN M

theorem cntN_nil : cntN [] = fun _ => 0 := by funext l; simp [cntN]
theorem cntN_zero (M : List Nat) : cntN M 0 = 0 := rfl
theorem cntN_snoc (M : List Nat) (x : Nat) (hx : 0 < x) : cntN (M ++ [x]) = upd (cntN M) x (cntN M x + 1) := by
  funext l
  unfold cntN upd
  by_cases e : l = x
  · subst e; simp [show ¬ l = 0 by omega]
  · by_cases h0 : l = 0
    · simp [h0]; omega
    · simp [h0, e, show ¬ x = l by omega]
theorem cntN_snoc0 (M : List Nat) : cntN (M ++ [0]) = cntN M := by
  funext l
  unfold cntN
  by_cases h0 : l = 0
  · simp [h0]
  · simp [h0, show ¬ 0 = l by omega]
theorem take_snoc (M : List Nat) (k : Nat) (h : k < M.length) : M.take (k + 1) = M.take k ++ [M[k]] := by
  rw [List.take_succ_eq_append_getElem h]

theorem rsum_upd (f : Nat → Nat) (i n : Nat) : rsum (upd f i (f i + 1)) n = rsum f n + if i < n then 2 ^ (15 - i) else 0 := by
  induction n with
  | zero => simp [rsum]
  | succ n ih =>
    unfold rsum
    rw [ih]
    by_cases e : n = i
    · subst e
      rw [if_neg (by omega), if_pos (by omega)]
      have : upd f n (f n + 1) n = f n + 1 := by simp [upd]
      rw [this, Nat.add_mul]; omega
    · have : upd f i (f i + 1) n = f n := by simp [upd, e]
      rw [this]
      by_cases h : i < n
      · rw [if_pos h, if_pos (by omega)]; omega
      · rw [if_neg h, if_neg (by omega)]; omega
theorem ssum_upd (f : Nat → Nat) (i n : Nat) : ssum (upd f i (f i + 1)) n = ssum f n + if i < n then 1 else 0 := by
  induction n with
  | zero => simp [ssum]
  | succ n ih =>
    unfold ssum
    rw [ih]
    by_cases e : n = i
    · subst e
      rw [if_neg (by omega), if_pos (by omega)]
      have : upd f n (f n + 1) n = f n + 1 := by simp [upd]
      rw [this]; omega
    · have : upd f i (f i + 1) n = f n := by simp [upd, e]
      rw [this]
      by_cases h : i < n
      · rw [if_pos h, if_pos (by omega)]; omega
      · rw [if_neg h, if_neg (by omega)]; omega
theorem rsum_zero (n : Nat) : rsum (fun _ => 0) n = 0 := by
  induction n with
  | zero => rfl
  | succ n ih => simp [rsum, ih]
theorem ssum_zero (n : Nat) : ssum (fun _ => 0) n = 0 := by
  induction n with
  | zero => rfl
  | succ n ih => simp [ssum, ih]
theorem roomN_snoc (M : List Nat) (x : Nat) : roomN (M ++ [x]) = roomN M + if x = 0 then 0 else 2 ^ (15 - x) := by
  induction M with
  | nil => simp [roomN]
  | cons y M ih => simp only [List.cons_append, roomN, ih]; omega
theorem manyN_snoc (M : List Nat) (x : Nat) : manyN (M ++ [x]) = manyN M + if x = 0 then 0 else 1 := by
  induction M with
  | nil => simp [manyN]
  | cons y M ih => simp only [List.cons_append, manyN, ih]; omega

theorem rsum_cnt (M : List Nat) (h : ∀ x ∈ M, x ≤ 15) (k : Nat) (hk : k ≤ M.length) : rsum (cntN (M.take k)) 16 = roomN (M.take k) ∧ ssum (cntN (M.take k)) 16 = manyN (M.take k) := by
  induction k with
  | zero => simp [cntN_nil, rsum_zero, ssum_zero, roomN, manyN]
  | succ k ih =>
    obtain ⟨i1, i2⟩ := ih (by omega)
    have hx := h M[k] (List.getElem_mem (by omega))
    rw [take_snoc M k (by omega), roomN_snoc, manyN_snoc]
    generalize M[k] = x at *
    by_cases h0 : x = 0
    · subst h0; rw [cntN_snoc0, i1, i2]; simp
    · rw [cntN_snoc _ _ (by omega), rsum_upd, ssum_upd, i1, i2]
      simp [h0, show x < 16 by omega]
theorem rsum_all (M : List Nat) (h : ∀ x ∈ M, x ≤ 15) : rsum (cntN M) 16 = roomN M := by
  have := (rsum_cnt M h M.length (Nat.le_refl _)).1; simpa using this
theorem ssum_all (M : List Nat) (h : ∀ x ∈ M, x ≤ 15) : ssum (cntN M) 16 = manyN M := by
  have := (rsum_cnt M h M.length (Nat.le_refl _)).2; simpa using this

theorem manyN_le (M : List Nat) : manyN M ≤ M.length := by
  induction M with
  | nil => simp [manyN]
  | cons x M ih => simp only [manyN, List.length_cons]; split <;> omega
theorem pow_15 (n : Nat) : 2 ^ (15 - n) ≤ 32768 := Nat.pow_le_pow_right (by decide) (show 15 - n ≤ 15 by omega)
theorem roomN_le (M : List Nat) : roomN M ≤ M.length * 32768 := by
  induction M with
  | nil => simp [roomN]
  | cons x M ih =>
    have := pow_15 x
    simp only [roomN, List.length_cons]; split <;> omega
theorem cntN_le (M : List Nat) (l : Nat) : cntN M l ≤ M.length := by
  unfold cntN; split
  · omega
  · exact List.count_le_length
theorem rsum_mono (f : Nat → Nat) (m n : Nat) (h : m ≤ n) : rsum f m ≤ rsum f n := by
  induction n with
  | zero => have : m = 0 := by omega
            subst this; exact Nat.le_refl _
  | succ n ih =>
    by_cases e : m = n + 1
    · subst e; exact Nat.le_refl _
    · have := ih (by omega)
      show _ ≤ rsum f n + f n * 2 ^ (15 - n)
      omega
theorem ssum_mono (f : Nat → Nat) (m n : Nat) (h : m ≤ n) : ssum f m ≤ ssum f n := by
  induction n with
  | zero => have : m = 0 := by omega
            subst this; exact Nat.le_refl _
  | succ n ih =>
    by_cases e : m = n + 1
    · subst e; exact Nat.le_refl _
    · have := ih (by omega)
      show _ ≤ ssum f n + f n
      omega

/-- Just one of M is above 0: that one tells the room, and how many are 1. -/
theorem one_of (M : List Nat) (h : ∀ x ∈ M, x ≤ 15) (h1 : manyN M = 1) : roomN M = 16384 ↔ cntN M 1 = 1 := by
  have key : ∀ N : List Nat, manyN N = 0 → roomN N = 0 ∧ N.count 1 = 0 := by
    intro N
    induction N with
    | nil => simp [roomN]
    | cons x N ih =>
      intro hN
      simp only [manyN] at hN
      by_cases h0 : x = 0
      · subst h0
        simp only [if_true] at hN
        obtain ⟨a, b⟩ := ih (by omega)
        simp [roomN, a, b]
      · rw [if_neg h0] at hN; omega
  induction M with
  | nil => simp [manyN] at h1
  | cons x M ih =>
    simp only [manyN] at h1
    by_cases h0 : x = 0
    · subst h0
      simp only [if_true] at h1
      have := ih (fun y hy => h y (by simp [hy])) (by omega)
      simpa [roomN, cntN, List.count_cons] using this
    · rw [if_neg h0] at h1
      obtain ⟨a, b⟩ := key M (by omega)
      have hx := h x (by simp)
      simp only [roomN, a, if_neg h0, cntN, List.count_cons, b]
      by_cases e : x = 1
      · subst e; simp
      · have hp : 2 ^ (15 - x) ≤ 2 ^ 13 := Nat.pow_le_pow_right (by decide) (by omega)
        simp [e]; omega

/-- Are lengths of that room, so many of them above 0, a code's? -/
def codeB (room many : Nat) : Bool := decide (many = 0 ∨ room = 32768 ∨ (many = 1 ∧ room = 16384))
/-- What Check answers. -/
def chk (L : List Int) : Int :=
  if 512 < L.length then 3 else if ∃ x ∈ L, x < 0 ∨ 15 < x then 1 else if 32768 < roomN (L.map Int.toNat) then 20 else if codeB (roomN (L.map Int.toNat)) (manyN (L.map Int.toNat)) then 0 else 21
theorem up_toNat (M : List Nat) : (up M).map Int.toNat = M := by
  unfold up; rw [List.map_map]; conv => rhs; rw [← List.map_id M]
  apply List.map_congr_left; intro x _; simp
theorem chk_long (L : List Int) (h : 512 < L.length) : chk L = 3 := by unfold chk; rw [if_pos h]
theorem chk_arg (L : List Int) (h : L.length ≤ 512) (hx : ∃ x ∈ L, x < 0 ∨ 15 < x) : chk L = 1 := by unfold chk; rw [if_neg (by omega), if_pos hx]
theorem not_bad (M : List Nat) (hx : ∀ x ∈ M, x ≤ 15) : ¬ ∃ x ∈ up M, x < 0 ∨ 15 < x := by
  rintro ⟨x, hm, hb⟩
  simp only [up, List.mem_map] at hm
  obtain ⟨y, hy, rfl⟩ := hm
  have := hx y hy
  omega
theorem chk_over (M : List Nat) (h : M.length ≤ 512) (hx : ∀ x ∈ M, x ≤ 15) (hr : 32768 < roomN M) : chk (up M) = 20 := by
  unfold chk; rw [if_neg (by simpa using h), if_neg (not_bad M hx), up_toNat, if_pos hr]
theorem chk_less (M : List Nat) (h : M.length ≤ 512) (hx : ∀ x ∈ M, x ≤ 15) (hr : roomN M ≤ 32768) (hc : codeB (roomN M) (manyN M) = false) : chk (up M) = 21 := by
  unfold chk; rw [if_neg (by simpa using h), if_neg (not_bad M hx), up_toNat, if_neg (by omega), hc]; rfl
theorem chk_ok (M : List Nat) (h : M.length ≤ 512) (hx : ∀ x ∈ M, x ≤ 15) (hr : roomN M ≤ 32768) (hc : codeB (roomN M) (manyN M) = true) : chk (up M) = 0 := by
  unfold chk; rw [if_neg (by simpa using h), if_neg (not_bad M hx), up_toNat, if_neg (by omega), hc]; rfl
/-- Lengths that are a code's. -/
structure Code (M : List Nat) : Prop where
  short : M.length ≤ 512
  le : ∀ x ∈ M, x ≤ 15
  room : roomN M ≤ 32768
  is : codeB (roomN M) (manyN M) = true
theorem code_of (L : List Int) (h : chk L = 0) : ∃ M, L = up M ∧ Code M := by
  unfold chk at h
  split at h
  · cases h
  split at h
  · cases h
  rename_i h1 h2
  have h0 : ∀ x ∈ L, 0 ≤ x ∧ x ≤ 15 := by
    intro x hx
    by_cases hh : x < 0 ∨ 15 < x
    · exact absurd ⟨x, hx, hh⟩ h2
    · omega
  split at h
  · cases h
  split at h
  · rename_i h3 h4
    refine ⟨_, up_of L (fun x hx => (h0 x hx).1), by simpa using h1, ?_, by omega, h4⟩
    intro x hx
    simp only [List.mem_map] at hx
    obtain ⟨y, hy, rfl⟩ := hx
    have := h0 y hy
    omega
  · cases h
theorem Code.ok {M : List Nat} (h : Code M) : chk (up M) = 0 := chk_ok M h.short h.le h.room h.is
theorem rsum_le (f : Nat → Nat) (h : ∀ i, f i ≤ 512) (n : Nat) : rsum f n ≤ n * 16777216 := by
  induction n with
  | zero => simp [rsum]
  | succ n ih =>
    have h1 := pow_15 n
    have h2 : f n * 2 ^ (15 - n) ≤ 512 * 32768 := Nat.mul_le_mul (h n) h1
    show rsum f n + f n * 2 ^ (15 - n) ≤ _
    omega
theorem ssum_le (f : Nat → Nat) (h : ∀ i, f i ≤ 512) (n : Nat) : ssum f n ≤ n * 512 := by
  induction n with
  | zero => simp [ssum]
  | succ n ih =>
    have h2 := h n
    show ssum f n + f n ≤ _
    omega
theorem term_le (f : Nat → Nat) (h : ∀ i, f i ≤ 512) (n : Nat) : f n * 2 ^ (15 - n) ≤ 16777216 := Nat.mul_le_mul (h n) (pow_15 n)
/-- What areCodes asks. -/
def areB (f : Nat → Nat) : Bool := decide (rsum f 16 = 32768 ∨ ssum f 16 = 0 ∨ (ssum f 16 = 1 ∧ f 1 = 1))
theorem are_code (M : List Nat) (h : ∀ x ∈ M, x ≤ 15) : areB (cntN M) = codeB (roomN M) (manyN M) := by
  unfold areB codeB
  rw [rsum_all M h, ssum_all M h]
  apply decide_eq_decide.2
  have := one_of M h
  constructor
  · rintro (h1 | h1 | ⟨h1, h2⟩)
    · exact Or.inr (Or.inl h1)
    · exact Or.inl h1
    · exact Or.inr (Or.inr ⟨h1, (this h1).2 h2⟩)
  · rintro (h1 | h1 | ⟨h1, h2⟩)
    · exact Or.inr (Or.inl h1)
    · exact Or.inl h1
    · exact Or.inr (Or.inr ⟨h1, (this h1).1 h2⟩)
#print axioms code_of
end Go.Proofs.YthgnhcdodfildaaDoor
/- Plain mathematics of canonical codes: the first code of each length, each symbol's code. No Go text here. -/
namespace Go.Proofs.YthgnhcdodfildaaDoor

/-- The first code of each length, f l of which there are. -/
def firstN (f : Nat → Nat) : Nat → Nat
  | 0 => 0
  | l + 1 => 2 * (firstN f l + f l)
/-- The code of symbol i. -/
def codeN (M : List Nat) (i : Nat) : Nat := if M.getD i 0 = 0 then 0 else firstN (cntN M) (M.getD i 0) + cntN (M.take i) (M.getD i 0)
/-- The codes of all symbols. -/
def codesN (M : List Nat) : List Nat := (List.range M.length).map (codeN M)
@[simp] theorem codesN_length (M : List Nat) : (codesN M).length = M.length := by simp [codesN]
theorem codesN_get (M : List Nat) (i : Nat) (h : i < M.length) : (codesN M)[i]'(by simpa using h) = codeN M i := by simp [codesN]

theorem first_sum (f : Nat → Nat) (l : Nat) (h : l ≤ 15) : firstN f l * 2 ^ (15 - l) = rsum f l := by
  induction l with
  | zero => simp [firstN, rsum]
  | succ l ih =>
    have e : 2 ^ (15 - l) = 2 * 2 ^ (15 - (l + 1)) := by
      rw [show 15 - l = (15 - (l + 1)) + 1 by omega, Nat.pow_succ]; omega
    show 2 * (firstN f l + f l) * 2 ^ (15 - (l + 1)) = rsum f l + f l * 2 ^ (15 - l)
    rw [← ih (by omega), ← Nat.add_mul, e, Nat.mul_comm 2 (_ + _), Nat.mul_assoc]
theorem first_cnt_sum (f : Nat → Nat) (l : Nat) (h : l ≤ 15) : (firstN f l + f l) * 2 ^ (15 - l) = rsum f (l + 1) := by
  show _ = rsum f l + f l * 2 ^ (15 - l)
  rw [← first_sum f l h, Nat.add_mul]
/-- Where the room is no greater than 2^15 the codes of each length fit into it. -/
theorem first_fits (f : Nat → Nat) (hr : rsum f 16 ≤ 32768) (l : Nat) (h : l ≤ 15) : firstN f l + f l ≤ 2 ^ l := by
  have h1 := first_cnt_sum f l h
  have h2 := rsum_mono f (l + 1) 16 (by omega)
  have h3 : 2 ^ l * 2 ^ (15 - l) = 32768 := by rw [← Nat.pow_add, show l + (15 - l) = 15 by omega]
  have h4 : 0 < 2 ^ (15 - l) := Nat.pow_pos (by decide)
  refine Nat.le_of_mul_le_mul_right ?_ h4
  rw [h1, h3]; omega
theorem pow_le_15 (l : Nat) (h : l ≤ 15) : 2 ^ l ≤ 32768 := Nat.pow_le_pow_right (by decide) h

theorem Code.fits {M : List Nat} (h : Code M) (l : Nat) (hl : l ≤ 15) : firstN (cntN M) l + cntN M l ≤ 2 ^ l :=
  first_fits _ (by rw [rsum_all M h.le]; exact h.room) l hl

theorem count_take_le (M : List Nat) (i l : Nat) : cntN (M.take i) l ≤ cntN M l := by
  unfold cntN
  split
  · omega
  · exact (List.take_sublist i M).count_le l
theorem count_take_lt (M : List Nat) (i : Nat) (h : i < M.length) (h0 : 0 < M[i]) : cntN (M.take i) M[i] < cntN M M[i] := by
  have h1 : cntN (M.take (i + 1)) M[i] = cntN (M.take i) M[i] + 1 := by
    rw [take_snoc M i h, cntN_snoc _ _ h0]; simp [upd]
  have h2 := count_take_le M (i + 1) M[i]
  omega
theorem getD_get (M : List Nat) (i : Nat) (h : i < M.length) : M.getD i 0 = M[i] := by simp [h]
theorem codeN_lt {M : List Nat} (hM : Code M) (i : Nat) (h : i < M.length) : codeN M i < 2 ^ M[i] := by
  unfold codeN
  rw [getD_get M i h]
  split
  · exact Nat.pow_pos (by decide)
  · have h1 := count_take_lt M i h (by omega)
    have h2 := hM.fits M[i] (hM.le _ (List.getElem_mem h))
    omega
theorem codeN_lt32 {M : List Nat} (hM : Code M) (i : Nat) (h : i < M.length) : codeN M i < 32768 :=
  Nat.lt_of_lt_of_le (codeN_lt hM i h) (pow_le_15 _ (hM.le _ (List.getElem_mem h)))

/-- What Codes has next of each length behind k symbols. -/
def nextN (M : List Nat) (k : Nat) : Nat → Nat := fun l => firstN (cntN M) l + cntN (M.take k) l
theorem nextN_zero (M : List Nat) : nextN M 0 = firstN (cntN M) := by
  funext l; simp [nextN, cntN_nil]
theorem nextN_snoc (M : List Nat) (k : Nat) (h : k < M.length) (h0 : 0 < M[k]) : nextN M (k + 1) = upd (nextN M k) M[k] (nextN M k M[k] + 1) := by
  funext l
  unfold nextN
  rw [take_snoc M k h, cntN_snoc _ _ h0]
  unfold upd
  split
  · rename_i e; rw [e]; omega
  · rfl
theorem nextN_snoc0 (M : List Nat) (k : Nat) (h : k < M.length) (h0 : M[k] = 0) : nextN M (k + 1) = nextN M k := by
  funext l
  unfold nextN
  rw [take_snoc M k h, h0, cntN_snoc0]
theorem nextN_code (M : List Nat) (k : Nat) (h : k < M.length) (h0 : 0 < M[k]) : codeN M k = nextN M k M[k] := by
  unfold codeN nextN
  rw [getD_get M k h, if_neg (by omega)]
theorem nextN_le {M : List Nat} (hM : Code M) (k l : Nat) (hl : l ≤ 15) : nextN M k l ≤ 32768 := by
  have h1 := hM.fits l hl
  have h2 := count_take_le M k l
  have h3 := pow_le_15 l hl
  unfold nextN; omega

/-- The codes of the symbols that p holds of; 0 of the others. -/
def partN (M : List Nat) (p : Nat → Bool) : List Nat := (List.range M.length).map fun i => if p i then codeN M i else 0
@[simp] theorem partN_length (M : List Nat) (p : Nat → Bool) : (partN M p).length = M.length := by simp [partN]
theorem partN_set (M : List Nat) (p q : Nat → Bool) (k : Nat) (hq : q k = true) (hpq : ∀ i, i ≠ k → i < M.length → q i = p i) : (partN M p).set k (codeN M k) = partN M q := by
  apply List.ext_getElem
  · simp
  · intro i h1 h2
    have hi : i < M.length := by simpa using h2
    rw [List.getElem_set]
    simp only [partN, List.getElem_map, List.getElem_range]
    split
    · rename_i e; subst e; rw [hq]; rfl
    · rw [hpq i (by omega) hi]
theorem partN_same (M : List Nat) (p q : Nat → Bool) (h : ∀ i, i < M.length → codeN M i = 0 ∨ p i = q i) : partN M p = partN M q := by
  apply List.ext_getElem
  · simp
  · intro i h1 h2
    have hi : i < M.length := by simpa using h2
    simp only [partN, List.getElem_map, List.getElem_range]
    rcases h i hi with h | h
    · rw [h]; simp
    · rw [h]
theorem partN_all (M : List Nat) (p : Nat → Bool) (h : ∀ i, i < M.length → codeN M i = 0 ∨ p i = true) : partN M p = codesN M := by
  apply List.ext_getElem
  · simp
  · intro i h1 h2
    have hi : i < M.length := by simpa using h2
    simp only [partN, codesN, List.getElem_map, List.getElem_range]
    rcases h i hi with h | h
    · rw [h]; simp
    · rw [h]; rfl
theorem partN_none (M : List Nat) (p : Nat → Bool) (h : ∀ i, i < M.length → codeN M i = 0 ∨ p i = false) : partN M p = List.replicate M.length 0 := by
  apply List.ext_getElem
  · simp
  · intro i h1 h2
    have hi : i < M.length := by simpa using h1
    simp only [partN, List.getElem_map, List.getElem_range, List.getElem_replicate]
    rcases h i hi with h | h
    · rw [h]; simp
    · rw [h]; simp
theorem codeN_of0 (M : List Nat) (i : Nat) (h : i < M.length) (h0 : M[i] = 0) : codeN M i = 0 := by
  unfold codeN; rw [getD_get M i h, if_pos h0]
#print axioms partN_all
end Go.Proofs.YthgnhcdodfildaaDoor
