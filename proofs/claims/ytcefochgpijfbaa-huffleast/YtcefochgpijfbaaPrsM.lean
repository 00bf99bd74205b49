/- Plain mathematics of pairs. -/
import Derived.Test.YtcefochgpijfbaaCat
namespace Go.Proofs.Ytcefochgpijfbaa
open Go.RowKit

theorem pairs_more (Q : List Pk) : ∀ (k : Nat) (q r : Pk), Q[2 * k]? = some q → Q[2 * k + 1]? = some r → pairsP (Q.take (2 * (k + 1))) = pairsP (Q.take (2 * k)) ++ [⟨q.w + r.w, q.s ++ r.s⟩] := by
  intro k
  induction k generalizing Q with
  | zero =>
    intro q r h1 h2
    match Q, h1, h2 with
    | a :: b :: l, h1, h2 =>
      simp at h1 h2
      subst h1 h2
      simp [pairsP]
  | succ k ih =>
    intro q r h1 h2
    rw [show 2 * (k + 1) = 2 * k + 1 + 1 by omega] at h1 h2
    match Q, h1, h2 with
    | a :: b :: l, h1, h2 =>
      simp only [List.getElem?_cons_succ] at h1 h2
      have := ih l q r h1 h2
      rw [show 2 * (k + 1 + 1) = 2 * (k + 1) + 1 + 1 by omega, List.take_succ_cons, List.take_succ_cons, show 2 * (k + 1) = 2 * k + 1 + 1 by omega, List.take_succ_cons, List.take_succ_cons]
      simp only [pairsP, List.cons_append]
      rw [show 2 * k + 1 + 1 = 2 * (k + 1) by omega, this]
theorem pairs_end (Q : List Pk) : ∀ k, Q.length ≤ 2 * k + 1 → pairsP (Q.take (2 * k)) = pairsP Q := by
  intro k
  induction k generalizing Q with
  | zero =>
    intro h
    match Q, h with
    | [], _ => rfl
    | [a], _ => rfl
  | succ k ih =>
    intro h
    match Q, h with
    | [], _ => rfl
    | [a], _ => rw [List.take_of_length_le (by simp; omega)]
    | a :: b :: l, h =>
      have h' : l.length ≤ 2 * k + 1 := by simp only [List.length_cons] at h; omega
      rw [show 2 * (k + 1) = 2 * k + 1 + 1 by omega, List.take_succ_cons, List.take_succ_cons]
      simp only [pairsP]
      rw [ih l h']
#print axioms pairs_more
#print axioms pairs_end
end Go.Proofs.Ytcefochgpijfbaa
