/- Packages in memory and the packages that they are. No Go text here. -/
import Derived.Test.YtcefochgpijfbaaStb
import Derived.Test.YtcefochgpijfbaaLeastO
namespace Go.Proofs.Ytcefochgpijfbaa
open Go.RowKit

/-- v is a slice of the symbols s, in a row of ints of its own. -/
def Sy (w : World) (v : Value) (s : List Nat) : Prop := ∃ b cap cs, v = .slice (some ⟨b, 0, none⟩) s.length cap ∧ 0 < s.length ∧ s.length ≤ cap ∧ cap ≤ maxLen ∧ w.heap[b]? = some (.cells cs 3 (0, 0)) ∧ ∀ i (h : i < s.length), cs[i]? = some (.int .i64 ((s[i] : Nat) : Int))
/-- p in memory is the package q. -/
def RepP (w : World) (p : PV) (q : Pk) : Prop := p.1 = q.w ∧ Sy w p.2 q.s
/-- The packages D in memory are the packages Q. -/
inductive RepL (w : World) : List PV → List Pk → Prop
  | nil : RepL w [] []
  | cons {p : PV} {q : Pk} {D : List PV} {Q : List Pk} : RepP w p q → RepL w D Q → RepL w (p :: D) (q :: Q)
theorem Sy.keep {S : Nat → Prop} {w w' : World} {v : Value} {s : List Nat} (h : Sy w v s) (hF : Fr S w w') (hs : ∀ b cs, w.heap[b]? = some (.cells cs 3 (0, 0)) → ¬ S b) : Sy w' v s := by
  obtain ⟨b, cap, cs, h1, h2, h3, h4, h5, h6⟩ := h
  exact ⟨b, cap, cs, h1, h2, h3, h4, hF.obj h5 (hs b cs h5), h6⟩
/-- A row of packages is no row of symbols. -/
theorem PRow.other {w : World} {g : Nat} {D : List PV} (h : PRow w g D) : ∀ b cs, w.heap[b]? = some (.cells cs 3 (0, 0)) → ¬ oneB g b := by
  intro b cs hb e
  obtain ⟨rest, hh⟩ := h
  have e' : b = g := e
  subst e'
  rw [hb] at hh
  simp at hh
theorem RepL.keep {S : Nat → Prop} {w w' : World} {D : List PV} {Q : List Pk} (h : RepL w D Q) (hF : Fr S w w') (hs : ∀ b cs, w.heap[b]? = some (.cells cs 3 (0, 0)) → ¬ S b) : RepL w' D Q := by
  induction h with
  | nil => exact RepL.nil
  | cons hp _ ih => exact RepL.cons ⟨hp.1, hp.2.keep hF hs⟩ ih
theorem RepL.length {w : World} {D : List PV} {Q : List Pk} (h : RepL w D Q) : D.length = Q.length := by
  induction h with
  | nil => rfl
  | cons _ _ ih => simp [ih]
theorem RepL.get {w : World} {D : List PV} {Q : List Pk} (h : RepL w D Q) : ∀ i (h1 : i < Q.length), RepP w (at_ D i) Q[i] := by
  induction h with
  | nil => intro i h1; simp at h1
  | cons hp _ ih =>
    intro i h1
    match i with
    | 0 => exact hp
    | i + 1 => exact ih i (by simpa using h1)
theorem RepL.append {w : World} {D E : List PV} {Q R : List Pk} (h : RepL w D Q) (k : RepL w E R) : RepL w (D ++ E) (Q ++ R) := by
  induction h with
  | nil => exact k
  | cons hp _ ih => exact RepL.cons hp ih
theorem RepL.drop {w : World} {D : List PV} {Q : List Pk} (h : RepL w D Q) : ∀ n, RepL w (D.drop n) (Q.drop n) := by
  induction h with
  | nil => intro n; simp; exact RepL.nil
  | cons hp hr ih =>
    intro n
    match n with
    | 0 => exact RepL.cons hp hr
    | n + 1 => exact ih n
theorem RepL.take {w : World} {D : List PV} {Q : List Pk} (h : RepL w D Q) : ∀ n, RepL w (D.take n) (Q.take n) := by
  induction h with
  | nil => intro n; simp; exact RepL.nil
  | cons hp hr ih =>
    intro n
    match n with
    | 0 => exact RepL.nil
    | n + 1 => exact RepL.cons hp (ih n)
theorem RepL.sl {w : World} {D : List PV} {Q : List Pk} (h : RepL w D Q) : AllSl D := by
  induction h with
  | nil => intro p hp; simp at hp
  | cons hp _ ih =>
    intro p hm
    rcases List.mem_cons.1 hm with rfl | hm
    · obtain ⟨b, cap, cs, h1, _⟩ := hp.2
      exact ⟨_, _, _, h1⟩
    · exact ih p hm
/-- Packages in another order in memory: they are the same ones in another order. -/
theorem RepL.perm {w : World} {D E : List PV} (hp : E.Perm D) : ∀ {Q : List Pk}, RepL w D Q → ∃ L : List Pk, L.Perm Q ∧ RepL w E L := by
  induction hp with
  | nil => intro Q h; exact ⟨Q, List.Perm.refl _, h⟩
  | cons x _ ih =>
    intro Q h
    cases h with
    | cons hx hr =>
      obtain ⟨L, h1, h2⟩ := ih hr
      exact ⟨_ :: L, h1.cons _, RepL.cons hx h2⟩
  | swap x y l =>
    intro Q h
    cases h with
    | cons hx hr =>
      cases hr with
      | cons hy hr => exact ⟨_, List.Perm.swap _ _ _, RepL.cons hy (RepL.cons hx hr)⟩
  | trans _ _ ih1 ih2 =>
    intro Q h
    obtain ⟨L, h1, h2⟩ := ih2 h
    obtain ⟨M, h3, h4⟩ := ih1 h2
    exact ⟨M, h3.trans h1, h4⟩
theorem RepL.up {w : World} {D : List PV} {Q : List Pk} (h : RepL w D Q) (hs : SortP D 0 D.length) : UpP Q := by
  intro i j hij hj
  have hl := h.length
  have h1 := (h.get i (by omega)).1
  have h2 := (h.get j hj).1
  rw [← h1, ← h2]
  exact hs i j (by omega) hij (by omega)
/-- The leaves, once sorted. -/
theorem sorted_leaves {w : World} {D E : List PV} {C : List Nat} (h : RepL w D (leavesP 0 C)) (hp : E.Perm D) (hs : SortP E 0 D.length) : ∃ L, LeafOk C L ∧ RepL w E L := by
  obtain ⟨L, h1, h2⟩ := RepL.perm hp h
  exact ⟨L, ⟨h1, h2.up (by rw [hp.length_eq]; exact hs)⟩, h2⟩
#print axioms sorted_leaves
#print axioms PRow.other
end Go.Proofs.Ytcefochgpijfbaa
