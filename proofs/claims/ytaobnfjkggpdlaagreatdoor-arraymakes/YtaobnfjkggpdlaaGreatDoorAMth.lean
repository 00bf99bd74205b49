/- Values, arrays and arguments as plain data: which may be. No Go text here. -/
import Derived.Test.YtaobnfjkggpdlaaGreatDoorFrame
namespace Go.Proofs.YtaobnfjkggpdlaaGreatDoor
open Go.RowKit

/-- A value. -/
structure Vv where
  k : Int
  n : Nat
  s : ByteArray
  y : Bool
  e : Int
instance : Inhabited Vv := ⟨⟨0, 0, ⟨#[]⟩, false, 0⟩⟩
/-- A value's cells. -/
def vC (v : Vv) : List Value := [.int .i64 v.k, .float .f64 v.n, .string v.s, .bool v.y, .int .i64 v.e]
def vsC (L : List Vv) : List Value := L.flatMap vC
@[simp] theorem vC_len (v : Vv) : (vC v).length = 5 := rfl
@[simp] theorem vsC_nil : vsC [] = [] := rfl
theorem vsC_cons (v : Vv) (L : List Vv) : vsC (v :: L) = vC v ++ vsC L := rfl
theorem vsC_app (A B : List Vv) : vsC (A ++ B) = vsC A ++ vsC B := by simp [vsC]
theorem vsC_one (v : Vv) : vsC [v] = vC v := by simp [vsC]
@[simp] theorem vsC_len (L : List Vv) : (vsC L).length = L.length * 5 := by
  induction L with
  | nil => rfl
  | cons v L ih => rw [vsC_cons, List.length_append, ih, vC_len, List.length_cons]; omega
theorem vsC_get (L : List Vv) : ∀ (i : Nat) (h : i < L.length) (j : Nat), j < 5 → (vsC L)[i * 5 + j]? = (vC L[i])[j]? := by
  induction L with
  | nil => intro i h; simp at h
  | cons v L ih =>
    intro i h j hj
    cases i with
    | zero =>
      rw [vsC_cons, Nat.zero_mul, Nat.zero_add, List.getElem?_append_left (by simpa using hj)]
      rfl
    | succ i =>
      have e : (i + 1) * 5 + j = 5 + (i * 5 + j) := by omega
      rw [vsC_cons, List.getElem?_append_right (by simp; omega), vC_len, e, Nat.add_sub_cancel_left, ih i (by simpa using h) j hj]
      rfl
theorem vC_oneCell (v : Vv) : ∀ u ∈ vC v, u.oneCell' = true := by
  intro u hu
  simp [vC] at hu
  rcases hu with rfl | rfl | rfl | rfl | rfl <;> rfl
theorem vsC_oneCell (L : List Vv) : ∀ u ∈ vsC L, u.oneCell' = true := by
  intro u hu
  obtain ⟨v, _, h⟩ := List.mem_flatMap.1 hu
  exact vC_oneCell v u h
/-- A value that is within reach. -/
def Vok (v : Vv) : Prop := v.n < 18446744073709551616 ∧ v.s.size ≤ 140737488355328
/-- Where values lie. -/
def VsAt (w : World) (ao : Option Addr) (L : List Vv) : Prop := L = [] ∨ ∃ b off, ao = some ⟨b, off, none⟩ ∧ b < w.heap.size ∧ ∀ i (h : i < L.length), w.cell? ⟨b, off + i * 5, none⟩ = some (.int .i64 L[i].k) ∧ w.cell? ⟨b, off + i * 5 + 1, none⟩ = some (.float .f64 L[i].n) ∧ w.cell? ⟨b, off + i * 5 + 2, none⟩ = some (.string L[i].s) ∧ w.cell? ⟨b, off + i * 5 + 3, none⟩ = some (.bool L[i].y) ∧ w.cell? ⟨b, off + i * 5 + 4, none⟩ = some (.int .i64 L[i].e)
theorem VsAt.keep {w w' : World} {ao : Option Addr} {L : List Vv} (h : VsAt w ao L) (hf : Fr noB w w') : VsAt w' ao L := by
  rcases h with h | ⟨b, off, rfl, hb, hc⟩
  · exact Or.inl h
  · exact Or.inr ⟨b, off, rfl, Nat.lt_of_lt_of_le hb hf.size, fun i hi => ⟨(hf.cell (a := ⟨b, off + i * 5, none⟩) hb id).trans (hc i hi).1, (hf.cell (a := ⟨b, off + i * 5 + 1, none⟩) hb id).trans (hc i hi).2.1, (hf.cell (a := ⟨b, off + i * 5 + 2, none⟩) hb id).trans (hc i hi).2.2.1, (hf.cell (a := ⟨b, off + i * 5 + 3, none⟩) hb id).trans (hc i hi).2.2.2.1, (hf.cell (a := ⟨b, off + i * 5 + 4, none⟩) hb id).trans (hc i hi).2.2.2.2⟩⟩
theorem VsAt.get {w : World} {ao : Option Addr} {L : List Vv} (h : VsAt w ao L) (i : Nat) (hi : i < L.length) : ∃ b off, ao = some ⟨b, off, none⟩ ∧ b < w.heap.size ∧ w.cell? ⟨b, off + i * 5, none⟩ = some (.int .i64 L[i].k) ∧ w.cell? ⟨b, off + i * 5 + 1, none⟩ = some (.float .f64 L[i].n) ∧ w.cell? ⟨b, off + i * 5 + 2, none⟩ = some (.string L[i].s) ∧ w.cell? ⟨b, off + i * 5 + 3, none⟩ = some (.bool L[i].y) ∧ w.cell? ⟨b, off + i * 5 + 4, none⟩ = some (.int .i64 L[i].e) := by
  rcases h with h | ⟨b, off, rfl, hb, hc⟩
  · subst h; simp at hi
  · exact ⟨b, off, rfl, hb, hc i hi⟩
/-- A told place: its row, its column, its value. -/
structure Pl where
  r : Int
  c : Int
  v : Vv
instance : Inhabited Pl := ⟨⟨0, 0, default⟩⟩
def pC (p : Pl) : List Value := [.int .i64 p.r, .int .i64 p.c, .int .i64 p.v.k, .float .f64 p.v.n, .string p.v.s, .bool p.v.y, .int .i64 p.v.e]
/-- Where told places lie. -/
def PsAt (w : World) (ao : Option Addr) (L : List Pl) : Prop := L = [] ∨ ∃ b off, ao = some ⟨b, off, none⟩ ∧ b < w.heap.size ∧ ∀ i (h : i < L.length), w.cell? ⟨b, off + i * 7, none⟩ = some (.int .i64 L[i].r) ∧ w.cell? ⟨b, off + i * 7 + 1, none⟩ = some (.int .i64 L[i].c) ∧ w.cell? ⟨b, off + i * 7 + 2, none⟩ = some (.int .i64 L[i].v.k) ∧ w.cell? ⟨b, off + i * 7 + 3, none⟩ = some (.float .f64 L[i].v.n) ∧ w.cell? ⟨b, off + i * 7 + 4, none⟩ = some (.string L[i].v.s) ∧ w.cell? ⟨b, off + i * 7 + 5, none⟩ = some (.bool L[i].v.y) ∧ w.cell? ⟨b, off + i * 7 + 6, none⟩ = some (.int .i64 L[i].v.e)
theorem PsAt.keep {w w' : World} {ao : Option Addr} {L : List Pl} (h : PsAt w ao L) (hf : Fr noB w w') : PsAt w' ao L := by
  rcases h with h | ⟨b, off, rfl, hb, hc⟩
  · exact Or.inl h
  · exact Or.inr ⟨b, off, rfl, Nat.lt_of_lt_of_le hb hf.size, fun i hi => ⟨(hf.cell (a := ⟨b, off + i * 7, none⟩) hb id).trans (hc i hi).1, (hf.cell (a := ⟨b, off + i * 7 + 1, none⟩) hb id).trans (hc i hi).2.1, (hf.cell (a := ⟨b, off + i * 7 + 2, none⟩) hb id).trans (hc i hi).2.2.1, (hf.cell (a := ⟨b, off + i * 7 + 3, none⟩) hb id).trans (hc i hi).2.2.2.1, (hf.cell (a := ⟨b, off + i * 7 + 4, none⟩) hb id).trans (hc i hi).2.2.2.2.1, (hf.cell (a := ⟨b, off + i * 7 + 5, none⟩) hb id).trans (hc i hi).2.2.2.2.2.1, (hf.cell (a := ⟨b, off + i * 7 + 6, none⟩) hb id).trans (hc i hi).2.2.2.2.2.2⟩⟩
theorem PsAt.get {w : World} {ao : Option Addr} {L : List Pl} (h : PsAt w ao L) (i : Nat) (hi : i < L.length) : ∃ b off, ao = some ⟨b, off, none⟩ ∧ b < w.heap.size ∧ w.cell? ⟨b, off + i * 7, none⟩ = some (.int .i64 L[i].r) ∧ w.cell? ⟨b, off + i * 7 + 1, none⟩ = some (.int .i64 L[i].c) ∧ w.cell? ⟨b, off + i * 7 + 2, none⟩ = some (.int .i64 L[i].v.k) ∧ w.cell? ⟨b, off + i * 7 + 3, none⟩ = some (.float .f64 L[i].v.n) ∧ w.cell? ⟨b, off + i * 7 + 4, none⟩ = some (.string L[i].v.s) ∧ w.cell? ⟨b, off + i * 7 + 5, none⟩ = some (.bool L[i].v.y) ∧ w.cell? ⟨b, off + i * 7 + 6, none⟩ = some (.int .i64 L[i].v.e) := by
  rcases h with h | ⟨b, off, rfl, hb, hc⟩
  · subst h; simp at hi
  · exact ⟨b, off, rfl, hb, hc i hi⟩
/-- The first error of a list, by a function. -/
def fstE {α : Type} (f : α → Int) : List α → Int
  | [] => 0
  | v :: L => if f v = 0 then fstE f L else f v
theorem fstE_hit {α : Type} (f : α → Int) (L : List α) (k : Nat) (hk : k < L.length) (h1 : ∀ j (hj : j < L.length), j < k → f L[j] = 0) (h2 : f L[k] ≠ 0) : fstE f L = f L[k] := by
  induction L generalizing k with
  | nil => simp at hk
  | cons v L ih =>
    cases k with
    | zero => simp only [List.getElem_cons_zero] at h2 ⊢; simp [fstE, h2]
    | succ k =>
      have h0 : f v = 0 := h1 0 (by simp) (by omega)
      simp only [fstE, h0, if_true, List.getElem_cons_succ]
      exact ih k (by simpa using hk) (fun j hj h => h1 (j + 1) (by simpa using hj) (by omega)) h2
theorem fstE_none {α : Type} (f : α → Int) (L : List α) (h1 : ∀ j (hj : j < L.length), f L[j] = 0) : fstE f L = 0 := by
  induction L with
  | nil => rfl
  | cons v L ih =>
    have h0 : f v = 0 := h1 0 (by simp)
    simp only [fstE, h0, if_true]
    exact ih (fun j hj => h1 (j + 1) (by simpa using hj))
/-- May an array be? By an error of each value. -/
def arrF (f : Vv → Int) (r c : Int) (L : List Vv) : Int :=
  if r < 1 ∨ c < 1 then 1 else if 4096 < r * c then 3 else if (L.length : Int) ≠ r * c then 1 else fstE f L
/-- May a place be told? -/
def plOk (r c : Int) (p : Pl) : Bool := decide (0 ≤ p.r ∧ p.r < r ∧ 0 ≤ p.c ∧ p.c < c ∧ p.v.k ≠ 0)
/-- Are places told in their order, from a place's number on? -/
def laidF (r c : Int) : Int → List Pl → Bool
  | _, [] => true
  | nx, p :: P => plOk r c p && decide (nx ≤ p.r * c + p.c) && laidF r c (p.r * c + p.c + 1) P
/-- May an argument be? -/
def argF (f : Vv → Int) (m : Bool) (r c : Int) (P : List Pl) : Int :=
  if r < 1 ∨ 1048576 < r ∨ c < 1 ∨ 1024 < c then 1 else if m = true ∧ (1 < r ∨ 1 < c ∨ 0 < P.length) then 1 else if laidF r c 0 P = false then 1 else fstE (fun p => f p.v) P
theorem laidF_drop (r c nx : Int) (P : List Pl) (k : Nat) (hk : k < P.length) : laidF r c nx (P.drop k) = (plOk r c P[k] && decide (nx ≤ P[k].r * c + P[k].c) && laidF r c (P[k].r * c + P[k].c + 1) (P.drop (k + 1))) := by
  rw [List.drop_eq_getElem_cons hk]
  rfl
/-- A place stands behind another one by their numbers as it does by rows and columns. -/
theorem place_lt {c r1 c1 r2 c2 : Int} (h1 : 0 ≤ c1) (h2 : c1 < c) (h3 : 0 ≤ c2) (h4 : c2 < c) : r1 * c + c1 + 1 ≤ r2 * c + c2 ↔ ¬ (r2 < r1 ∨ r2 = r1 ∧ c2 ≤ c1) := by
  have key : ∀ a b : Int, a < b → a * c + c ≤ b * c := by
    intro a b h
    have := Int.mul_le_mul_of_nonneg_right (show a + 1 ≤ b by omega) (show 0 ≤ c by omega)
    rw [Int.add_mul, Int.one_mul] at this
    exact this
  rcases Int.lt_trichotomy r1 r2 with h | h | h
  · have := key _ _ h
    constructor
    · intro _; omega
    · intro _; omega
  · subst h
    constructor
    · intro _; omega
    · intro _; omega
  · have := key _ _ h
    constructor
    · intro _; omega
    · intro _; omega
#print axioms place_lt
end Go.Proofs.YtaobnfjkggpdlaaGreatDoor
