/- What the reading of an argument says of memory: slices of ints. -/
import Derived.Test.YtcefochgpijfbaaDoorRows
import Derived.Test.YtcefochgpijfbaaDoorArr
import Derived.ProofKit
import Derived.OpenShut
import Derived.Deep.Slices
import Derived.SizedLaws
import Derived.ChangeOld
namespace Go.Proofs.YtcefochgpijfbaaDoor
open Go.ChangeShapes Go.WideShapes Go.ChangeAt Go.RowKit Go.Deep

theorem own : ownKnob Tryd.prog.godebug = none := by kernel_rfl
theorem laidOut : laidOutB Tryd.prog = true := by kernel_rfl
theorem bytesInt : Tryd.prog.bytesOf 3 = 8 := by kernel_rfl

theorem lt_of_cellAt {w : World} {a : Addr} {v : Value} (h : w.cell? a = some v) : a.block < w.heap.size := by
  rcases Nat.lt_or_ge a.block w.heap.size with h' | h'
  · exact h'
  · simp [World.cell?, Array.getElem?_eq_none h'] at h

theorem ns_of_cells {k : IntKind} {W : World} {a : Addr} {len cap : Nat} {zs : List Int} (hl : len ≤ cap) (hm : cap ≤ maxLen) (hz : zs.length = cap) (hcell : ∀ i, i < cap → W.cell? (a.add i) = some (.int k (zs.getD i 0))) :
    Ns k W (.slice (some a) len cap) (zs.take len) := by
  have hlen : (zs.take len).length = len := by simp; omega
  refine ⟨some a, cap, by rw [hlen], by omega, hm, by simp, ?_⟩
  by_cases h0 : len = 0
  · left; subst h0; simp
  · right
    have c0 := hcell 0 (by omega)
    have hspot : a.spot = none := by simpa [Addr.add] using World.cell?_spot c0
    obtain ⟨b, off, sp⟩ := a
    simp only at hspot
    subst hspot
    refine ⟨b, off, rfl, ?_, fun i hi => ?_⟩
    · have := lt_of_cellAt c0
      rw [add_none] at this
      exact this
    · rw [hlen] at hi
      have c := hcell i (by omega)
      rw [add_none] at c
      rw [c]
      have hi' : i < zs.length := by omega
      simp [hi']

section
variable {H : Type} {enc : TypeId × Value → H} {W : World}

theorem open_is {fuel : Nat} {cs : List Value} {x : DataW H × List MemPlace} (h : DataW.trod enc Tryd.prog W 0 (fun _ => true) true fuel 66 cs = some x) :
    ∃ v L, cs = [v] ∧ Ns .i64 W v L ∧ (∀ y ∈ L, -9223372036854775808 ≤ y ∧ y ≤ 9223372036854775807) ∧ ((x.1 = .nil ∧ L = []) ∨ ∃ E S, x.1 = .slice E S ∧ E.length = L.length) := by
  rcases open_ints Tryd.underlying66 Tryd.underlying3 (by kernel_rfl) h with ⟨rfl, rfl⟩ | ⟨a, len, cap, zs, rfl, _, hl, hm, hz, rfl, hcell, hwz⟩
  · exact ⟨_, [], rfl, ⟨none, 0, rfl, Nat.le_refl _, by unfold maxLen; omega, fun _ => rfl, Or.inl rfl⟩, by simp, Or.inl ⟨rfl, rfl⟩⟩
  · simp at hz
    refine ⟨_, zs.take len, rfl, ns_of_cells (by omega) hm (by omega) (fun i hi => hcell i (by omega)), ?_, Or.inr ⟨_, _, rfl, by simp [lits]⟩⟩
    intro y hy
    have := bounds_i64 (hwz y (List.mem_of_mem_take hy))
    omega
end
end Go.Proofs.YtcefochgpijfbaaDoor
