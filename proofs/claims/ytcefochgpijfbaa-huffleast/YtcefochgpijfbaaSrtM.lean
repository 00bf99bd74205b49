/- Plain mathematics of exchanges within a list, and of what is in order. No Go text here. -/
import Derived.Test.YtcefochgpijfbaaCod
namespace Go.Proofs.Ytcefochgpijfbaa

/-- A package in memory: its weight, the slice of its symbols. -/
abbrev PV := Nat × Value
def dP : PV := (0, .slice none 0 0)
/-- Element t. -/
def at_ (D : List PV) (t : Nat) : PV := D.getD t dP
theorem at_get (D : List PV) (t : Nat) (h : t < D.length) : at_ D t = D[t] := by simp [at_, h]
theorem ext_at {D E : List PV} (hl : D.length = E.length) (h : ∀ t, t < D.length → at_ D t = at_ E t) : D = E := by
  apply List.ext_getElem hl
  intro t h1 h2
  have := h t h1
  rwa [at_get D t h1, at_get E t h2] at this
/-- Elements i and j exchanged. -/
def swp (D : List PV) (i j : Nat) : List PV := (D.set i (at_ D j)).set j (at_ D i)
@[simp] theorem swp_length (D : List PV) (i j : Nat) : (swp D i j).length = D.length := by simp [swp]
theorem at_set (D : List PV) (i t : Nat) (p : PV) (hi : i < D.length) : at_ (D.set i p) t = if t = i then p else at_ D t := by
  unfold at_
  by_cases e : t = i
  · subst e; simp [hi]
  · rw [if_neg e]
    simp [List.getElem?_set_ne (show i ≠ t by omega)]
theorem at_swp (D : List PV) (i j t : Nat) (hi : i < D.length) (hj : j < D.length) : at_ (swp D i j) t = if t = j then at_ D i else if t = i then at_ D j else at_ D t := by
  unfold swp
  rw [at_set _ _ _ _ (by simpa using hj), at_set _ _ _ _ hi]
theorem swp_perm (D : List PV) (i j : Nat) (hi : i < D.length) (hj : j < D.length) : (swp D i j).Perm D := by
  have := Array.swap_perm (xs := D.toArray) (i := i) (j := j) (by simpa using hi) (by simpa using hj)
  have h2 := this.toList
  have e : (D.toArray.swap i j (by simpa using hi) (by simpa using hj)).toList = swp D i j := by
    simp [Array.swap, swp, at_, hi, hj]
  rw [e] at h2
  simpa using h2
/-- E is D but for exchanges within [a, b). -/
inductive Like (a b : Nat) (D : List PV) : List PV → Prop
  | refl : Like a b D D
  | step (E : List PV) (i j : Nat) : Like a b D E → a ≤ i → i < b → a ≤ j → j < b → i < E.length → j < E.length → Like a b D (swp E i j)
theorem Like.trans {a b : Nat} {D E F : List PV} (h : Like a b D E) (k : Like a b E F) : Like a b D F := by
  induction k with
  | refl => exact h
  | step F i j _ h1 h2 h3 h4 h5 h6 ih => exact Like.step F i j ih h1 h2 h3 h4 h5 h6
theorem Like.mono {a b a' b' : Nat} {D E : List PV} (h : Like a b D E) (ha : a' ≤ a) (hb : b ≤ b') : Like a' b' D E := by
  induction h with
  | refl => exact Like.refl
  | step F i j _ h1 h2 h3 h4 h5 h6 ih => exact Like.step F i j ih (by omega) (by omega) (by omega) (by omega) h5 h6
theorem Like.length {a b : Nat} {D E : List PV} (h : Like a b D E) : E.length = D.length := by
  induction h with
  | refl => rfl
  | step F i j _ _ _ _ _ _ _ ih => simpa using ih
theorem Like.perm {a b : Nat} {D E : List PV} (h : Like a b D E) : E.Perm D := by
  induction h with
  | refl => exact List.Perm.refl _
  | step F i j _ _ _ _ _ h5 h6 ih => exact (swp_perm F i j h5 h6).trans ih
theorem Like.out {a b : Nat} {D E : List PV} (h : Like a b D E) (t : Nat) (ht : t < a ∨ b ≤ t) : at_ E t = at_ D t := by
  induction h with
  | refl => rfl
  | step F i j _ h1 h2 h3 h4 h5 h6 ih => rw [at_swp F i j t h5 h6, if_neg (by omega), if_neg (by omega), ih]
theorem Like.all {a b : Nat} {D E : List PV} (P : PV → Prop) (h : Like a b D E) (hP : ∀ t, a ≤ t → t < b → P (at_ D t)) : ∀ t, a ≤ t → t < b → P (at_ E t) := by
  induction h with
  | refl => exact hP
  | step F i j _ h1 h2 h3 h4 h5 h6 ih =>
    intro t h7 h8
    rw [at_swp F i j t h5 h6]
    split
    · exact ih i h1 h2
    · split
      · exact ih j h3 h4
      · exact ih t h7 h8
/-- Every package's symbols are a slice. -/
def AllSl (D : List PV) : Prop := ∀ p ∈ D, ∃ ao l c, p.2 = Value.slice ao l c
theorem AllSl.perm {D E : List PV} (h : AllSl D) (hp : E.Perm D) : AllSl E := fun p hm => h p (hp.mem_iff.1 hm)
/-- In order from a to b. -/
def SortP (D : List PV) (a b : Nat) : Prop := ∀ i j, a ≤ i → i ≤ j → j < b → (at_ D i).1 ≤ (at_ D j).1
theorem SortP.same {D E : List PV} {a b : Nat} (h : SortP D a b) (he : ∀ t, a ≤ t → t < b → at_ E t = at_ D t) : SortP E a b := fun i j h1 h2 h3 => by
  rw [he i h1 (by omega), he j (by omega) h3]; exact h i j h1 h2 h3
#print axioms swp_perm
end Go.Proofs.Ytcefochgpijfbaa
