/- What the reading of an argument says of memory: slices of uint32, of bytes. -/
import Derived.Test.YtcefochgpijfbaaDoorOpenI
namespace Go.Proofs.YtcefochgpijfbaaDoor
open Go.ChangeShapes Go.WideShapes Go.ChangeAt Go.RowKit Go.Deep
theorem bytesU32 : Tryd.prog.bytesOf 76 = 4 := by kernel_rfl
theorem bytesU8 : Tryd.prog.bytesOf 5 = 1 := by kernel_rfl
section
variable {H : Type} {enc : TypeId × Value → H} {W : World}

theorem open_us {fuel : Nat} {cs : List Value} {x : DataW H × List MemPlace} (h : DataW.trod enc Tryd.prog W 0 (fun _ => true) true fuel 67 cs = some x) :
    ∃ v L, cs = [v] ∧ Ns .u32 W v L ∧ (∀ y ∈ L, 0 ≤ y ∧ y < 4294967296) ∧ ((x.1 = .nil ∧ L = []) ∨ ∃ E S, x.1 = .slice E S ∧ E.length = L.length) := by
  rcases open_ints Tryd.underlying67 Tryd.underlying76 (by kernel_rfl) h with ⟨rfl, rfl⟩ | ⟨a, len, cap, zs, rfl, _, hl, hm, hz, rfl, hcell, hwz⟩
  · exact ⟨_, [], rfl, ⟨none, 0, rfl, Nat.le_refl _, by unfold maxLen; omega, fun _ => rfl, Or.inl rfl⟩, by simp, Or.inl ⟨rfl, rfl⟩⟩
  · simp at hz
    refine ⟨_, zs.take len, rfl, ns_of_cells (by omega) hm (by omega) (fun i hi => hcell i (by omega)), ?_, Or.inr ⟨_, _, rfl, by simp [lits]⟩⟩
    intro y hy
    have := bounds_u32 (hwz y (List.mem_of_mem_take hy))
    omega
theorem open_bs {fuel : Nat} {cs : List Value} {x : DataW H × List MemPlace} (h : DataW.trod enc Tryd.prog W 0 (fun _ => true) true fuel 22 cs = some x) :
    ∃ v B, cs = [v] ∧ Ns .u8 W v (up B) ∧ (∀ y ∈ B, y < 256) ∧ ((x.1 = .nil ∧ B = []) ∨ ∃ E S, x.1 = .slice E S ∧ E.length = B.length) := by
  rcases open_ints Tryd.underlying22 Tryd.underlying5 (by kernel_rfl) h with ⟨rfl, rfl⟩ | ⟨a, len, cap, zs, rfl, _, hl, hm, hz, rfl, hcell, hwz⟩
  · exact ⟨_, [], rfl, ⟨none, 0, rfl, Nat.le_refl _, by unfold maxLen; omega, fun _ => rfl, Or.inl rfl⟩, by simp, Or.inl ⟨rfl, rfl⟩⟩
  · simp at hz
    have hy : ∀ y ∈ zs.take len, 0 ≤ y ∧ y < 256 := fun y hy => by
      have := bounds_u8 (hwz y (List.mem_of_mem_take hy)); omega
    refine ⟨_, (zs.take len).map Int.toNat, rfl, ?_, ?_, Or.inr ⟨_, _, rfl, by simp [lits]⟩⟩
    · rw [← up_of _ (fun y h => (hy y h).1)]
      exact ns_of_cells (by omega) hm (by omega) (fun i hi => hcell i (by omega))
    · intro y h
      simp only [List.mem_map] at h
      obtain ⟨z, hz', rfl⟩ := h
      have := hy z hz'
      omega
end
/-- Bytes as the older contracts have them. -/
theorem bs_of_ns {w : World} {v : Value} {B : List Nat} (h : Ns .u8 w v (up B)) : Bs w v B := by
  obtain ⟨ao, cap, rfl, h1, h2, h4, h3⟩ := h
  refine ⟨ao, cap, by rw [length_up], by simpa using h1, h2, h4, ?_⟩
  rcases h3 with h3 | ⟨b, off, rfl, hb, hc⟩
  · left; simpa [up] using h3
  · exact Or.inr ⟨b, off, rfl, hb, fun i hi => by have := hc i (by simpa using hi); rwa [up_get B i hi] at this⟩
#print axioms open_bs
end Go.Proofs.YtcefochgpijfbaaDoor
