/- What the reading of an argument says of memory: slices of ints. -/
import Derived.Test.YthgnhcdodfildaaDoorRows
import Derived.Test.YthgnhcdodfildaaDoorArr
import Derived.ProofKit
import Derived.OpenShut
import Derived.Deep.Slices
import Derived.SizedLaws
import Derived.ChangeOld
namespace Go.Proofs.YthgnhcdodfildaaDoor
open Go.ChangeShapes Go.WideShapes Go.ChangeAt Go.RowKit Go.Deep

theorem own : ownKnob Tryd.prog.godebug = none := by kernel_rfl
theorem laidOut : laidOutB Tryd.prog = true := by kernel_rfl
theorem bytesInt : Tryd.prog.bytesOf 3 = 8 := by kernel_rfl

theorem lt_of_cellAt {w : World} {a : Addr} {v : Value} (h : w.cell? a = some v) : a.block < w.heap.size := by
  rcases Nat.lt_or_ge a.block w.heap.size with h' | h'
  · exact h'
  · simp [World.cell?, Array.getElem?_eq_none h'] at h

theorem ns_of_cells {k : IntKind} {W : World} {a : Addr} {len cap : Nat} {zs : List Int} (hl : len ≤ cap) (hm : cap ≤ maxLen) (hz : zs.length = cap) (hcell : ∀ i, i < cap → W.cell? (a.add i) = some (.int k (zs.getD i 0))) :
    Ns k W (.slice (some a) len cap) (zs.take len) := by
  have hlen : (zs.take len).length = len := by simp; omega
  refine ⟨some a, cap, by rw [hlen], by omega, hm, by simp, ?_⟩
  by_cases h0 : len = 0
  · left; subst h0; simp
  · right
    have c0 := hcell 0 (by omega)
    have hspot : a.spot = none := by simpa [Addr.add] using World.cell?_spot c0
    obtain ⟨b, off, sp⟩ := a
    simp only at hspot
    subst hspot
    refine ⟨b, off, rfl, ?_, fun i hi => ?_⟩
    · have := lt_of_cellAt c0
      rw [add_none] at this
      exact this
    · rw [hlen] at hi
      have c := hcell i (by omega)
      rw [add_none] at c
      rw [c]
      have hi' : i < zs.length := by omega
      simp [hi']

section
variable {H : Type} {enc : TypeId × Value → H} {W : World}

theorem open_is {fuel : Nat} {cs : List Value} {x : DataW H × List MemPlace} (h : DataW.trod enc Tryd.prog W 0 (fun _ => true) true fuel 73 cs = some x) :
    ∃ v L, cs = [v] ∧ Ns .i64 W v L ∧ (∀ y ∈ L, -9223372036854775808 ≤ y ∧ y ≤ 9223372036854775807) ∧ ((x.1 = .nil ∧ L = []) ∨ ∃ E S, x.1 = .slice E S ∧ E.length = L.length) := by
  rcases open_ints Tryd.underlying73 Tryd.underlying3 (by kernel_rfl) h with ⟨rfl, rfl⟩ | ⟨a, len, cap, zs, rfl, _, hl, hm, hz, rfl, hcell, hwz⟩
  · exact ⟨_, [], rfl, ⟨none, 0, rfl, Nat.le_refl _, by unfold maxLen; omega, fun _ => rfl, Or.inl rfl⟩, by simp, Or.inl ⟨rfl, rfl⟩⟩
  · simp at hz
    refine ⟨_, zs.take len, rfl, ns_of_cells (by omega) hm (by omega) (fun i hi => hcell i (by omega)), ?_, Or.inr ⟨_, _, rfl, by simp [lits]⟩⟩
    intro y hy
    have := bounds_i64 (hwz y (List.mem_of_mem_take hy))
    omega
end
end Go.Proofs.YthgnhcdodfildaaDoor
/- What the reading of an argument says of memory: slices of uint32, of bytes. -/
namespace Go.Proofs.YthgnhcdodfildaaDoor
open Go.ChangeShapes Go.WideShapes Go.ChangeAt Go.RowKit Go.Deep
theorem bytesU32 : Tryd.prog.bytesOf 92 = 4 := by kernel_rfl
theorem bytesU8 : Tryd.prog.bytesOf 5 = 1 := by kernel_rfl
section
variable {H : Type} {enc : TypeId × Value → H} {W : World}

theorem open_us {fuel : Nat} {cs : List Value} {x : DataW H × List MemPlace} (h : DataW.trod enc Tryd.prog W 0 (fun _ => true) true fuel 74 cs = some x) :
    ∃ v L, cs = [v] ∧ Ns .u32 W v L ∧ (∀ y ∈ L, 0 ≤ y ∧ y < 4294967296) ∧ ((x.1 = .nil ∧ L = []) ∨ ∃ E S, x.1 = .slice E S ∧ E.length = L.length) := by
  rcases open_ints Tryd.underlying74 Tryd.underlying92 (by kernel_rfl) h with ⟨rfl, rfl⟩ | ⟨a, len, cap, zs, rfl, _, hl, hm, hz, rfl, hcell, hwz⟩
  · exact ⟨_, [], rfl, ⟨none, 0, rfl, Nat.le_refl _, by unfold maxLen; omega, fun _ => rfl, Or.inl rfl⟩, by simp, Or.inl ⟨rfl, rfl⟩⟩
  · simp at hz
    refine ⟨_, zs.take len, rfl, ns_of_cells (by omega) hm (by omega) (fun i hi => hcell i (by omega)), ?_, Or.inr ⟨_, _, rfl, by simp [lits]⟩⟩
    intro y hy
    have := bounds_u32 (hwz y (List.mem_of_mem_take hy))
    omega
theorem open_bs {fuel : Nat} {cs : List Value} {x : DataW H × List MemPlace} (h : DataW.trod enc Tryd.prog W 0 (fun _ => true) true fuel 22 cs = some x) :
    ∃ v B, cs = [v] ∧ Ns .u8 W v (up B) ∧ (∀ y ∈ B, y < 256) ∧ ((x.1 = .nil ∧ B = []) ∨ ∃ E S, x.1 = .slice E S ∧ E.length = B.length) := by
  rcases open_ints Tryd.underlying22 Tryd.underlying5 (by kernel_rfl) h with ⟨rfl, rfl⟩ | ⟨a, len, cap, zs, rfl, _, hl, hm, hz, rfl, hcell, hwz⟩
  · exact ⟨_, [], rfl, ⟨none, 0, rfl, Nat.le_refl _, by unfold maxLen; omega, fun _ => rfl, Or.inl rfl⟩, by simp, Or.inl ⟨rfl, rfl⟩⟩
  · simp at hz
    have hy : ∀ y ∈ zs.take len, 0 ≤ y ∧ y < 256 := fun y hy => by
      have := bounds_u8 (hwz y (List.mem_of_mem_take hy)); omega
    refine ⟨_, (zs.take len).map Int.toNat, rfl, ?_, ?_, Or.inr ⟨_, _, rfl, by simp [lits]⟩⟩
    · rw [← up_of _ (fun y h => (hy y h).1)]
      exact ns_of_cells (by omega) hm (by omega) (fun i hi => hcell i (by omega))
    · intro y h
      simp only [List.mem_map] at h
      obtain ⟨z, hz', rfl⟩ := h
      have := hy z hz'
      omega
end
/-- Bytes as the older contracts have them. -/
theorem bs_of_ns {w : World} {v : Value} {B : List Nat} (h : Ns .u8 w v (up B)) : Bs w v B := by
  obtain ⟨ao, cap, rfl, h1, h2, h4, h3⟩ := h
  refine ⟨ao, cap, by rw [length_up], by simpa using h1, h2, h4, ?_⟩
  rcases h3 with h3 | ⟨b, off, rfl, hb, hc⟩
  · left; simpa [up] using h3
  · exact Or.inr ⟨b, off, rfl, hb, fun i hi => by have := hc i (by simpa using hi); rwa [up_get B i hi] at this⟩
#print axioms open_bs
end Go.Proofs.YthgnhcdodfildaaDoor
