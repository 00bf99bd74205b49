/- slices.Grow of what was said. -/
import Derived.Test.YthgnhcdodfildaaDoorK22
import Derived.Lib.AppendZerosOnto
import Derived.Lib.Walk
import Derived.Lib.SliceRun
namespace Go.Proofs.YthgnhcdodfildaaDoor
open Go.RowKit

theorem Tryd.undI : Tryd.prog.underlying 3 = some (.int .i64) := by kernel_rfl

set_option maxRecDepth 100000 in
set_option maxHeartbeats 1600000 in
theorem grow_own (g q n cap : Nat) (cur : Array Value) (w : World) (hh : w.heap[g]? = some (.cells cur 5 (0, 0))) (hq : q ≤ cap) (hc : cur.size = cap) (hcm : cap ≤ maxLen) (hn : q + n ≤ 140737488355328) :
    Calls Tryd.prog 99 #[.slice (some ⟨g, 0, none⟩) q cap, .int .i64 (n : Int)] w fun e w' => ∃ g' cap', e = .returned (.slice (some ⟨g', 0, none⟩) q cap') ∧ (g' = g ∨ w.heap.size ≤ g') ∧ ∃ cur', w'.heap[g']? = some (.cells cur' 5 (0, 0)) ∧ cur'.size = cap' ∧ cap' ≤ maxLen ∧ q + n ≤ cap' ∧ cur'.toList.take q = cur.toList.take q ∧ Fr noB w w' := by
  obtain ⟨i0, hi, hz0, hz1, hz2⟩ := info_parts Tryd.info5'
  have hcm' : cap ≤ 9223372036854775807 := by unfold maxLen at hcm; omega
  have h1 : ¬ ((n : Int) < 0) := by omega
  have HH : Hid (w.heap[g]? = some (.cells cur 5 (0, 0))) := hh
  have HC : Hid (cur.size = cap ∧ cap ≤ maxLen) := ⟨hc, hcm⟩
  by_cases hfit : q + n ≤ cap
  · have h2 : ¬ ((n : Int) - ((cap : Int) - (q : Int)) > 0) := by omega
    clear hh hc hcm
    go_enter Tryd.func99, Tryd.ntmps99
    go_wp2_with fail
    go_ret
    exact ⟨g, cap, rfl, Or.inl rfl, cur, HH.out, HC.out.1, HC.out.2, hfit, rfl, Fr.refl _ _⟩
  · obtain ⟨k, hk⟩ : ∃ k : Nat, k = q + n - cap := ⟨_, rfl⟩
    have h2 : (n : Int) - ((cap : Int) - (q : Int)) = (k : Int) := by omega
    have hold : (Builtin.firstCells i0.size cap (.slice (some ⟨g, 0, none⟩) cap cap)).run Tryd.prog w.drew = .ok cur.toList.toArray w.drew := by
      rw [hz1]
      refine run_firstCells_some (w := w.drew) 1 cap ⟨g, 0, none⟩ cap cap cur.toList (by simp [hc]) (fun j v hj => ?_)
      have : w.cell? ⟨g, j, none⟩ = some v := cellOf hh (by simpa using hj)
      rw [add_none, Nat.zero_add]
      exact this
    have hrz : ∀ ty, (Builtin.append_ #[22, 3] ty #[.slice (some ⟨g, 0, none⟩) cap cap, .int .i64 (k : Int)]).run Tryd.prog w = _ := fun ty => Lib.run_append_grow_zeros w 22 3 ty 5 i0 (.int .u8 0) .i64 .i64 Tryd.underlying22 Tryd.undI hi hz0 (some ⟨g, 0, none⟩) cap cap cur.toList hold k (by omega) (by omega) (by omega) (by omega) (by rw [hz2]; omega) (by rw [hz2]; exact growslice_fits (by omega) (by omega))
    have hG := grownCap_ge w (cap + k) cap 5
    have hG2 := grownCap_le_maxLen w (cap + k) cap 5 (by unfold maxLen; omega)
    obtain ⟨G, hGe⟩ : ∃ G, G = grownCap w (cap + k) cap 5 := ⟨_, rfl⟩
    rw [← hGe] at hrz hG hG2
    have HG2 : Hid (cap + k ≤ G ∧ G ≤ maxLen) := ⟨hG, hG2⟩
    have HK : Hid (k = q + n - cap) := hk
    have h3 : (k : Int) > 0 := by omega
    have h5 : q ≤ G := by omega
    unfold maxLen at hG2
    clear hh hc hcm hGe hold hk
    go_enter Tryd.func99, Tryd.ntmps99
    go_wp2_with (at_builtin; refine Lib.wpList_append_run _ rfl _ _ _ _ rfl _ _ rfl rfl _ _ (hrz _) ?_)
    go_ret
    refine ⟨w.heap.size, G, rfl, Or.inr (Nat.le_refl _), _, heap_alloc_new _ _, ?_, HG2.out.2, ?_, ?_, ((Fr.refl _ _).alloc _).drew⟩
    · have := HG2.out.1
      have := HC.out.1
      simp [Builtin.zeroCells]
      omega
    · have := HG2.out.1
      have := HK.out
      omega
    · have := HC.out.1
      rw [Array.toList_append, List.take_append_of_le_length (by simp; omega)]
#print axioms grow_own
end Go.Proofs.YthgnhcdodfildaaDoor
