/- What the reading of an argument says of memory: bytes. -/
import Derived.Test.YtlhikoomghbnjaaGreatDoorRows
import Derived.Test.YtlhikoomghbnjaaGreatDoorZBas
import Derived.ProofKit
import Derived.OpenShut
import Derived.Deep.Slices
import Derived.SizedLaws
import Derived.ChangeOld
namespace Go.Proofs.YtlhikoomghbnjaaGreatDoor
open Go.ChangeShapes Go.WideShapes Go.ChangeAt Go.RowKit Go.Deep

theorem own : ownKnob Tryz.prog.godebug = none := by kernel_rfl
theorem laidOut : laidOutB Tryz.prog = true := by kernel_rfl
theorem lt_of_cellAt {w : World} {a : Addr} {v : Value} (h : w.cell? a = some v) : a.block < w.heap.size := by
  rcases Nat.lt_or_ge a.block w.heap.size with h' | h'
  · exact h'
  · simp [World.cell?, Array.getElem?_eq_none h'] at h
theorem bs_of_cells {W : World} {a : Addr} {len cap : Nat} {zs : List Int} (hl : len ≤ cap) (hm : cap ≤ maxLen) (hz : zs.length = cap) (hp : ∀ y ∈ zs.take len, 0 ≤ y) (hcell : ∀ i, i < cap → W.cell? (a.add i) = some (.int .u8 (zs.getD i 0))) :
    Bs W (.slice (some a) len cap) ((zs.take len).map Int.toNat) := by
  have hlen : ((zs.take len).map Int.toNat).length = len := by simp; omega
  refine ⟨some a, cap, by rw [hlen], by omega, hm, by simp, ?_⟩
  by_cases h0 : len = 0
  · left; subst h0; simp
  · right
    have c0 := hcell 0 (by omega)
    have hspot : a.spot = none := by simpa [Addr.add] using World.cell?_spot c0
    obtain ⟨b, off, sp⟩ := a
    simp only at hspot
    subst hspot
    refine ⟨b, off, rfl, ?_, fun i hi => ?_⟩
    · have := lt_of_cellAt c0
      rw [add_none] at this
      exact this
    · rw [hlen] at hi
      have c := hcell i (by omega)
      rw [add_none] at c
      rw [c]
      have hi' : i < zs.length := by omega
      have hge : 0 ≤ zs[i] := hp _ (by
        rw [List.mem_take_iff_getElem]
        exact ⟨i, by omega, rfl⟩)
      simp [hi', Int.toNat_of_nonneg hge]
section
variable {H : Type} {enc : TypeId × Value → H} {W : World}
theorem open_bs {fuel : Nat} {cs : List Value} {x : DataW H × List MemPlace} (h : DataW.trod enc Tryz.prog W 0 (fun _ => true) true fuel 22 cs = some x) :
    ∃ v B, cs = [v] ∧ Bs W v B ∧ (∀ y ∈ B, y < 256) ∧ ((x.1 = .nil ∧ B = []) ∨ ∃ E S, x.1 = .slice E S ∧ E.length = B.length) := by
  rcases open_ints Tryz.underlying22 Tryz.underlying5 (by kernel_rfl) h with ⟨rfl, rfl⟩ | ⟨a, len, cap, zs, rfl, _, hl, hm, hz, rfl, hcell, hwz⟩
  · exact ⟨_, [], rfl, ⟨none, 0, rfl, Nat.le_refl _, by unfold maxLen; omega, fun _ => rfl, Or.inl rfl⟩, by simp, Or.inl ⟨rfl, rfl⟩⟩
  · simp at hz
    have hy : ∀ y ∈ zs.take len, 0 ≤ y ∧ y < 256 := fun y hy => by
      have := bounds_u8 (hwz y (List.mem_of_mem_take hy)); omega
    refine ⟨_, (zs.take len).map Int.toNat, rfl, ?_, ?_, Or.inr ⟨_, _, rfl, by simp [lits]⟩⟩
    · exact bs_of_cells (by omega) hm (by omega) (fun y h => (hy y h).1) (fun i hi => hcell i (by omega))
    · intro y h
      simp only [List.mem_map] at h
      obtain ⟨z, hz', rfl⟩ := h
      have := hy z hz'
      omega
end
#print axioms open_bs
end Go.Proofs.YtlhikoomghbnjaaGreatDoor
