/- Sums, differences, products and quotients of finite floats are floats. -/
import Derived.Test.YtaobnfjkggpdlaaGreatDoorAZer
import Derived.Test.YtaobnfjkggpdlaaGreatDoorNFl3
namespace Go.Proofs.YtaobnfjkggpdlaaGreatDoor
open Go.RowKit Ieee

theorem some_wf {op : BinOp} {x y r : Nat} (h : floatBits op .f64 x y = some r) : r < 18446744073709551616 := by
  have := floatBits_wf h
  simpa [Lit.wf] using this
theorem add_some {x y : Nat} (hx : Fin x) (hy : Fin y) : ∃ r, floatBits .add .f64 x y = some r ∧ r < 18446744073709551616 := by
  obtain ⟨r, h, _⟩ := add_fin (Or.inl hx) hy
  exact ⟨r, h, some_wf h⟩
theorem mul_some {x y : Nat} (hx : Fin x) (hy : Fin y) : ∃ r, floatBits .mul .f64 x y = some r ∧ r < 18446744073709551616 := by
  obtain ⟨r, h, _⟩ := mul_fin hx hy
  exact ⟨r, h, some_wf h⟩
theorem sub_some {x y : Nat} (hx : Fin x) (hy : Fin y) : ∃ r, floatBits .sub .f64 x y = some r ∧ r < 18446744073709551616 := by
  obtain ⟨s, m, e, hr⟩ := hx
  obtain ⟨t, n, f, hq⟩ := hy
  obtain ⟨d, hd⟩ : ∃ d, (Datum.number s m e).sum (Datum.number t n f).opposite = some d := ⟨_, rfl⟩
  have h : floatBits .sub .f64 x y = some (double.write d) := by
    show double.sub x y = _
    unfold Format.sub
    rw [hr, hq, hd]
    rfl
  exact ⟨_, h, some_wf h⟩
theorem quo_some {x y : Nat} (hx : Fin x) (hy : Fin y) (hz : ¬ y % 9223372036854775808 = 0) : ∃ r, floatBits .quo .f64 x y = some r ∧ r < 18446744073709551616 := by
  have hv : ¬ V y = 0 := fun h => hz ((V_zero_iff hy).1 h)
  obtain ⟨s, m, e, hr⟩ := hx
  obtain ⟨t, n, f, hq⟩ := hy
  have hn : n ≠ 0 := by
    rintro rfl
    apply hv
    rw [V_number hq]
    simp
  obtain ⟨d, hd⟩ : ∃ d, (Datum.number s m e).quotient (double.fractionBits + 2) (Datum.number t n f) = some d := by
    unfold Datum.quotient
    simp [hn]
  have h : floatBits .quo .f64 x y = some (double.write d) := by
    show double.div x y = _
    unfold Format.div
    rw [hr, hq, hd]
    rfl
  exact ⟨_, h, some_wf h⟩
#print axioms quo_some
end Go.Proofs.YtaobnfjkggpdlaaGreatDoor
