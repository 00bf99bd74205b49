/- The contract of the sort's symmetric merge; the mathematics of blocks. -/
import Derived.Test.YtcefochgpijfbaaSymD
namespace Go.Proofs.Ytcefochgpijfbaa
open Go.RowKit

theorem symMerge_any (g cap N : Nat) (hl : N ≤ 100000) (z : Nat) : SymAt g cap N z := by
  induction z with
  | zero => intro a m b D w hz; omega
  | succ z ih =>
    intro a m b D w hz h hS hN ham hmb hb h1 h2
    by_cases c1 : m = a + 1
    · subst c1
      have := symFirst_any g cap a b D w h hS hmb (by omega) (by omega) h2
      rwa [hN] at this
    · by_cases c2 : b = m + 1
      · have := symLast_any g cap a m b c2 D w h hS (by omega) (by omega) (by omega) h1
        rwa [hN] at this
      · by_cases c3 : (a + b) / 2 < m
        · exact symAbove_any g cap N z a m b _ _ ((a + b) / 2 + m - 1) _ _ ih (by omega) D w h hS hN (by omega) (by omega) hb hl h1 h2 rfl rfl (by omega) c3 rfl rfl
        · exact symBelow_any g cap N z a m b _ _ ((a + b) / 2 + m - 1) _ _ ih (by omega) D w h hS hN (by omega) (by omega) hb hl h1 h2 rfl rfl (by omega) c3 rfl rfl

/-- In order within each block of c, up to n. -/
def BlkS (D : List PV) (c n : Nat) : Prop := ∀ i j, i ≤ j → j < n → i / c = j / c → (at_ D i).1 ≤ (at_ D j).1
/-- In order within each block of c2 up to a, and of c from there on. -/
def MixS (D : List PV) (c c2 a n : Nat) : Prop := BlkS D c2 a ∧ ∀ i j, a ≤ i → i ≤ j → j < n → i / c = j / c → (at_ D i).1 ≤ (at_ D j).1
theorem BlkS.whole {D : List PV} {c n : Nat} (h : BlkS D c n) (hc : n ≤ c) : SortP D 0 n := fun i j _ h2 h3 => h i j h2 h3 (by rw [Nat.div_eq_of_lt (by omega), Nat.div_eq_of_lt (by omega)])
theorem in_block {i k c : Nat} (h1 : k * c ≤ i) (h2 : i < k * c + c) : i / c = k :=
  Nat.div_eq_of_lt_le h1 (by rw [Nat.add_mul, Nat.one_mul]; exact h2)
theorem apart {i j k c : Nat} (hc : 0 < c) (h1 : i < k * c) (h2 : k * c ≤ j) : ¬ i / c = j / c := by
  have := (Nat.div_lt_iff_lt_mul hc).2 h1
  have := (Nat.le_div_iff_mul_le hc).2 h2
  omega
theorem BlkS.more {D E : List PV} {c k b : Nat} (hc : 0 < c) (h : BlkS D c (k * c)) (hL : Like (k * c) b D E) (hs : SortP E (k * c) b) : BlkS E c b := fun i j h1 h2 h3 => by
  by_cases c1 : j < k * c
  · rw [hL.out i (Or.inl (by omega)), hL.out j (Or.inl c1)]; exact h i j h1 c1 h3
  · by_cases c2 : i < k * c
    · exact absurd h3 (apart hc c2 (by omega))
    · exact hs i j (by omega) h1 h2
theorem MixS.start {D : List PV} {c n : Nat} (h : BlkS D c n) : MixS D c (2 * c) 0 n := ⟨fun i j _ h2 => by omega, fun i j _ h2 h3 h4 => h i j h2 h3 h4⟩
theorem MixS.first {D : List PV} {c k n : Nat} (h : MixS D c (2 * c) (k * (2 * c)) n) (hn : k * (2 * c) + c ≤ n) : SortP D (k * (2 * c)) (k * (2 * c) + c) := fun i j h1 h2 h3 => by
  refine h.2 i j h1 h2 (by omega) ?_
  have e : k * (2 * c) = (k * 2) * c := by rw [Nat.mul_assoc]
  rw [e] at h1 h3
  rw [in_block h1 (by omega), in_block (by omega) h3]
theorem MixS.second {D : List PV} {c k n b : Nat} (h : MixS D c (2 * c) (k * (2 * c)) n) (hb : b ≤ n) (hb2 : b ≤ k * (2 * c) + 2 * c) : SortP D (k * (2 * c) + c) b := fun i j h1 h2 h3 => by
  refine h.2 i j (by omega) h2 (by omega) ?_
  have e : k * (2 * c) = (k * 2) * c := by rw [Nat.mul_assoc]
  have e2 : (k * 2 + 1) * c = k * 2 * c + c := by rw [Nat.add_mul, Nat.one_mul]
  rw [e] at h1 hb2
  rw [in_block (k := k * 2 + 1) (by omega) (by omega), in_block (k := k * 2 + 1) (by omega) (by omega)]
theorem MixS.step {D E : List PV} {c k n : Nat} (hc : 0 < c) (h : MixS D c (2 * c) (k * (2 * c)) n) (hL : Like (k * (2 * c)) (k * (2 * c) + 2 * c) D E) (hs : SortP E (k * (2 * c)) (k * (2 * c) + 2 * c)) : MixS E c (2 * c) ((k + 1) * (2 * c)) n := by
  have e : (k + 1) * (2 * c) = k * (2 * c) + 2 * c := by rw [Nat.add_mul, Nat.one_mul]
  refine ⟨?_, fun i j h1 h2 h3 h4 => ?_⟩
  · rw [e]; exact BlkS.more (by omega) h.1 hL hs
  · rw [hL.out i (Or.inr (by omega)), hL.out j (Or.inr (by omega))]
    exact h.2 i j (by omega) h2 h3 h4
theorem MixS.stay {D : List PV} {c k n : Nat} (hc : 0 < c) (h : MixS D c (2 * c) (k * (2 * c)) n) (hn : n ≤ k * (2 * c) + c) : BlkS D (2 * c) n := fun i j h1 h2 h3 => by
  by_cases c1 : j < k * (2 * c)
  · exact h.1 i j h1 c1 h3
  · by_cases c2 : i < k * (2 * c)
    · exact absurd h3 (apart (by omega) c2 (by omega))
    · refine h.2 i j (by omega) h1 h2 ?_
      have e : k * (2 * c) = (k * 2) * c := by rw [Nat.mul_assoc]
      rw [e] at hn c1 c2
      rw [in_block (k := k * 2) (by omega) (by omega), in_block (k := k * 2) (by omega) (by omega)]
#print axioms symMerge_any
#print axioms MixS.stay
end Go.Proofs.Ytcefochgpijfbaa
