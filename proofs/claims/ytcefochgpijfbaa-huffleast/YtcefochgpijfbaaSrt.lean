/- Packages as they lie in a row; exchanges of ranges. -/
import Derived.Test.YtcefochgpijfbaaArr
import Derived.Test.YtcefochgpijfbaaSrtM
import Derived.BigRegion
import Derived.Deep.CutRange
import Derived.Deep.LoopGhost
import Derived.Deep.QuietTactic
import Derived.BigQuiet
namespace Go.Proofs.Ytcefochgpijfbaa
open Go.RowKit

/-- The cells of packages. -/
def pCells (D : List PV) : List Value := D.flatMap fun p => [Value.int .i64 (p.1 : Int), p.2]
/-- Row g begins with the packages D. -/
def PRow (w : World) (g : Nat) (D : List PV) : Prop := ∃ rest, w.heap[g]? = some (.cells (pCells D ++ rest).toArray 36 (0, 0))
@[simp] theorem pCells_length (D : List PV) : (pCells D).length = D.length * 2 := by
  induction D with
  | nil => rfl
  | cons p D ih => simp only [pCells, List.flatMap_cons, List.length_append, List.length_cons, List.length_nil] at *; omega
theorem pCells_get (D : List PV) (i : Nat) (h : i < D.length) : (pCells D)[i * 2]? = some (.int .i64 (D[i].1 : Int)) ∧ (pCells D)[i * 2 + 1]? = some D[i].2 := by
  induction D generalizing i with
  | nil => simp at h
  | cons p D ih =>
    match i with
    | 0 => simp [pCells]
    | i + 1 =>
      have := ih i (by simpa using h)
      simp only [pCells, List.flatMap_cons] at *
      rw [show (i + 1) * 2 = i * 2 + 1 + 1 by omega, show i * 2 + 1 + 1 + 1 = (i * 2 + 1) + 1 + 1 by omega]
      simpa using this
theorem pCells_set (D : List PV) (i : Nat) (p : PV) : ((pCells D).set (i * 2) (.int .i64 (p.1 : Int))).set (i * 2 + 1) p.2 = pCells (D.set i p) := by
  induction D generalizing i with
  | nil => simp [pCells]
  | cons q D ih =>
    match i with
    | 0 => simp [pCells]
    | i + 1 =>
      have := ih i
      simp only [pCells, List.flatMap_cons, List.set_cons_succ] at *
      rw [show (i + 1) * 2 = i * 2 + 1 + 1 by omega, show i * 2 + 1 + 1 + 1 = (i * 2 + 1) + 1 + 1 by omega]
      simpa using this
theorem PRow.cells {w : World} {g : Nat} {D : List PV} (h : PRow w g D) (i : Nat) (hi : i < D.length) : w.cell? ⟨g, i * 2, none⟩ = some (.int .i64 (D[i].1 : Int)) ∧ w.cell? ⟨g, i * 2 + 1, none⟩ = some D[i].2 := by
  obtain ⟨rest, hh⟩ := h
  obtain ⟨h1, h2⟩ := pCells_get D i hi
  have hl := pCells_length D
  constructor
  · refine cellOf hh ?_
    rw [List.getElem?_toArray, List.getElem?_append_left (by omega)]; exact h1
  · refine cellOf hh ?_
    rw [List.getElem?_toArray, List.getElem?_append_left (by omega)]; exact h2
theorem PRow.free {w : World} {g : Nat} {D : List PV} (h : PRow w g D) (o : Nat) : w.frozen? ⟨g, o, none⟩ = false := by
  obtain ⟨rest, hh⟩ := h
  exact freeOf o hh
theorem PRow.put {w : World} {g : Nat} {D : List PV} (h : PRow w g D) (i : Nat) (hi : i < D.length) (p : PV) : PRow ((w.setCell ⟨g, i * 2, none⟩ (.int .i64 (p.1 : Int))).setCell ⟨g, i * 2 + 1, none⟩ p.2) g (D.set i p) := by
  obtain ⟨rest, hh⟩ := h
  refine ⟨rest, ?_⟩
  have h1 := setOf (i * 2 + 1) p.2 (setOf (i * 2) (.int .i64 (p.1 : Int)) hh)
  rw [h1]
  congr 2
  rw [List.setIfInBounds_toArray, List.setIfInBounds_toArray, ← pCells_set]
  have hl := pCells_length D
  rw [List.set_append_left _ _ (by omega), List.set_append_left _ _ (by simp; omega)]
theorem PRow.keep {S : Nat → Prop} {w w' : World} {g : Nat} {D : List PV} (h : PRow w g D) (hF : Fr S w w') (hs : ¬ S g) : PRow w' g D := by
  obtain ⟨rest, hh⟩ := h
  exact ⟨rest, hF.obj hh hs⟩

theorem PRow.two {w : World} {g : Nat} {D : List PV} (h : PRow w g D) (hS : AllSl D) (i : Nat) (hi : i < D.length) : ∃ ao l c, (at_ D i).2 = Value.slice ao l c ∧ w.cell? ⟨g, i * 2, none⟩ = some (.int .i64 ((at_ D i).1 : Int)) ∧ w.cell? ⟨g, i * 2 + 1, none⟩ = some (.slice ao l c) := by
  obtain ⟨h1, h2⟩ := h.cells i hi
  obtain ⟨ao, l, c, e⟩ := hS _ (List.getElem_mem hi)
  refine ⟨ao, l, c, by rw [at_get D i hi]; exact e, by rw [at_get D i hi]; exact h1, by rw [h2, e]⟩
/-- What an exchange leaves. -/
theorem PRow.swap {w : World} {g : Nat} {D : List PV} (h : PRow w g D) (i j : Nat) (hi : i < D.length) (hj : j < D.length) {a1 a2 : Option Addr} {l1 c1 l2 c2 : Nat} (e1 : (at_ D i).2 = .slice a1 l1 c1) (e2 : (at_ D j).2 = .slice a2 l2 c2) :
    PRow ((((w.setCell ⟨g, i * 2, none⟩ (.int .i64 ((at_ D j).1 : Int))).setCell ⟨g, i * 2 + 1, none⟩ (.slice a2 l2 c2)).setCell ⟨g, j * 2, none⟩ (.int .i64 ((at_ D i).1 : Int))).setCell ⟨g, j * 2 + 1, none⟩ (.slice a1 l1 c1)) g (swp D i j) := by
  have h1 := h.put i hi (at_ D j)
  have h2 := h1.put j (by simpa using hj) (at_ D i)
  rw [e1, e2] at h2
  exact h2
theorem Fr.four {a w : World} {g : Nat} (h : Fr (oneB g) a w) (o1 o2 o3 o4 : Nat) (v1 v2 v3 v4 : Value) : Fr (oneB g) a ((((w.setCell ⟨g, o1, none⟩ v1).setCell ⟨g, o2, none⟩ v2).setCell ⟨g, o3, none⟩ v3).setCell ⟨g, o4, none⟩ v4) :=
  (((h.setOne _ _).setOne _ _).setOne _ _).setOne _ _

/-- The places of two ranges exchanged. -/
def sgm (a b n t : Nat) : Nat := if a ≤ t ∧ t < a + n then t - a + b else if b ≤ t ∧ t < b + n then t - b + a else t

set_option maxHeartbeats 800000 in
theorem swapRange_any (g cap a b n : Nat) (f : Value) (D : List PV) (w : World) (h : PRow w g D) (hS : AllSl D) (hab : a + n ≤ b) (hb : b + n ≤ D.length) (hl : D.length ≤ 100000) :
    Calls Try.prog 35 #[.slice (some ⟨g, 0, none⟩) D.length cap, .int .i64 (a : Int), .int .i64 (b : Int), .int .i64 (n : Int), f] w fun e w' => e = .returned (.tuple #[]) ∧ ∃ E, PRow w' g E ∧ Like a (b + n) D E ∧ (∀ t, at_ E t = at_ D (sgm a b n t)) ∧ Fr (oneB g) w w' := by
  obtain ⟨N, hN⟩ : ∃ N, D.length = N := ⟨_, rfl⟩
  rw [hN] at hb hl ⊢
  have HN : Hid (D.length = N) := hN
  clear hN
  go_enter Try.func35, Try.ntmps35
  go_wp2_with fail
  go_loopw [10] (fun i wr => ∃ (k : Nat) (E : List PV), k ≤ n ∧ i = .int .i64 (k : Int) ∧ PRow wr g E ∧ Like a (b + n) D E ∧ (∀ t, at_ E t = at_ D (sgm a b k t)) ∧ Fr (oneB g) w wr) (fun i _ => n - (intOf i).toNat)
  case atStart => exact ⟨0, D, by omega, rfl, h, Like.refl, fun t => by unfold sgm; rw [if_neg (by omega), if_neg (by omega)], Fr.refl _ _⟩
  case round =>
    obtain ⟨k, E, hk, rfl, hP, hL, hA, hF⟩ := hrel
    by_cases hlt : k < n
    · have hEl : E.length = N := hL.length.trans HN.out
      have hSE := hS.perm hL.perm
      obtain ⟨a1, l1, q1, e1, c11, c12⟩ := hP.two hSE (a + k) (by omega)
      obtain ⟨a2, l2, q2, e2, c21, c22⟩ := hP.two hSE (b + k) (by omega)
      have f1 := hP.free ((a + k) * 2)
      have f2 := hP.free ((a + k) * 2 + 1)
      have f3 := hP.free ((b + k) * 2)
      have f4 := hP.free ((b + k) * 2 + 1)
      have hsw := hP.swap (a + k) (b + k) (by omega) (by omega) e1 e2
      have hne : ¬ (a + k) * 2 = (b + k) * 2 := by omega
      have hne2 : ¬ (a + k) * 2 = (b + k) * 2 + 1 := by omega
      have hne3 : ¬ (a + k) * 2 + 1 = (b + k) * 2 := by omega
      have hne4 : ¬ (a + k) * 2 + 1 = (b + k) * 2 + 1 := by omega
      have hI1 : (a : Int) + (k : Int) < (N : Int) := by omega
      have hI2 : (b : Int) + (k : Int) < (N : Int) := by omega
      have HX : Hid (E.length = N ∧ ∀ t, at_ (swp E (a + k) (b + k)) t = at_ D (sgm a b (k + 1) t)) := by
        refine ⟨hEl, fun t => ?_⟩
        rw [at_swp E _ _ t (by omega) (by omega), hA, hA, hA]
        unfold sgm
        by_cases t1 : t = b + k
        · subst t1
          rw [if_pos rfl, if_neg (by omega), if_neg (by omega), if_neg (by omega), if_pos (by omega)]
          congr 1; omega
        · rw [if_neg t1]
          by_cases t2 : t = a + k
          · subst t2
            rw [if_pos rfl, if_neg (by omega), if_neg (by omega), if_pos (by omega)]
            congr 1; omega
          · rw [if_neg t2]
            by_cases t3 : a ≤ t ∧ t < a + k
            · rw [if_pos t3, if_pos (by omega)]
            · rw [if_neg t3, if_neg (show ¬ (a ≤ t ∧ t < a + (k + 1)) by omega)]
              by_cases t4 : b ≤ t ∧ t < b + k
              · rw [if_pos t4, if_pos (by omega)]
              · rw [if_neg t4, if_neg (by omega)]
      generalize (at_ E (a + k)).1 = x1 at *
      generalize (at_ E (b + k)).1 = x2 at *
      have HA : Hid _ := hA
      clear e1 e2 hA hEl
      go_wp2_with fail
      go_region
      go_wp2_with fail
      go_roundw
      case rel =>
        have hEl := HX.out.1
        exact ⟨k + 1, _, by omega, by go_num, hsw, Like.step E _ _ hL (by omega) (by omega) (by omega) (by omega) (by omega) (by omega), HX.out.2, (hF.four _ _ _ _ _ _ _ _).drew⟩
      case measure => simp [intOf]; omega
    · have : k = n := by omega
      subst this
      go_wp2_with fail
      go_end0
      exact ⟨rfl, E, hP, hL, hA, hF⟩
#print axioms swapRange_any
end Go.Proofs.Ytcefochgpijfbaa
