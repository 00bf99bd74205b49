/- Floats that are nought. No Go text here. -/
import Derived.Test.YtaobnfjkggpdlaaGreatDoorNToD
namespace Go.Proofs.YtaobnfjkggpdlaaGreatDoor
open Go.RowKit Ieee

theorem fin_iff (x : Nat) : finB x = true ↔ x % 9223372036854775808 < 9218868437227405312 := by
  unfold finB Format.read
  dsimp only
  rw [signWeight_d]
  have hb := binade_d
  have hi := infRung_d
  by_cases c1 : x % 9223372036854775808 < double.binade
  · rw [if_pos c1]; simp; omega
  · rw [if_neg c1]
    by_cases c2 : x % 9223372036854775808 < double.infRung
    · rw [if_pos c2]; simp; omega
    · rw [if_neg c2]
      by_cases c3 : x % 9223372036854775808 = double.infRung
      · rw [if_pos c3]; simp; omega
      · rw [if_neg c3]; simp; omega
theorem V_zero_iff {x : Nat} (hf : Fin x) : V x = 0 ↔ x % 9223372036854775808 = 0 := by
  obtain ⟨s, m, e, hr⟩ := hf
  rw [V_number hr]
  have hp := Nat.two_pow_pos (e + 1074).toNat
  have hm : m = 0 ↔ x % 9223372036854775808 = 0 := by
    unfold Format.read at hr
    dsimp only at hr
    rw [signWeight_d] at hr
    split at hr
    · injection hr with _ h2 _
      omega
    · rename_i c1
      have hb := binade_d
      split at hr
      · injection hr with _ h2 _
        omega
      · split at hr <;> cases hr
  rw [← hm]
  constructor
  · intro h
    have h2 : ((m * 2 ^ (e + 1074).toNat : Nat) : Int) = 0 := by
      cases s <;> simp at h ⊢ <;> exact h
    have h3 : m * 2 ^ (e + 1074).toNat = 0 := by omega
    rcases Nat.mul_eq_zero.1 h3 with h | h
    · exact h
    · omega
  · rintro rfl; simp
theorem zero_V : V 0 = 0 := by
  have h : double.read 0 = .number false 0 (-1074) := by decide
  rw [V_number h]; simp
theorem zero_fin : Fin 0 := ⟨false, 0, -1074, by decide⟩
theorem order_zero (x : Nat) (hf : Fin x) : (FloatKind.f64.format.order x 0 == some .eq) = decide (x % 9223372036854775808 = 0) := by
  show (double.order x 0 == some .eq) = _
  rw [order_V hf zero_fin, zero_V, cmp_eq]
  exact decide_eq_decide.2 (V_zero_iff hf)

#print axioms order_zero
end Go.Proofs.YtaobnfjkggpdlaaGreatDoor
