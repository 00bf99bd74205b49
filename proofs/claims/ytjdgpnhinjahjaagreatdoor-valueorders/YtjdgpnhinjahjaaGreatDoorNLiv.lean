/- Text(0.1) is 0.1. -/
import Derived.Test.YtjdgpnhinjahjaaGreatDoorNStr
namespace Go.Proofs.YtjdgpnhinjahjaaGreatDoor
open Go.RowKit Ieee Go.Shelf

theorem sd01 : sdOf 4591870180066957722 = 1000000000000000 ∧ spOf 4591870180066957722 = -16 := by decide +kernel
theorem dig01 : digF 4591870180066957722 = [49] ∧ dpF 4591870180066957722 = 0 := by
  have hn : Lib.nDigits 1000000000000000 = 15 + 1 := Lib.nDigits_unique 15 _ (by decide) (by decide)
  unfold digF dpF
  rw [sd01.1, sd01.2, hn]
  refine ⟨?_, by decide⟩
  rw [Lib.decDigits_eq, hn]
  decide
theorem repeat0_any (s : ByteArray) (w : World) : Calls Tryz.prog 86 #[.string s, .int .i64 0] w fun e w' => e = .returned (.string ⟨#[]⟩) ∧ w' = w :=
  Any.strings_Repeat_zero Tryz.laysLaysn105 s w
set_option maxRecDepth 100000 in
set_option maxHeartbeats 1000000 in
theorem pointed01 (w : World) : Calls Tryz.prog 85 #[.string ⟨#[48]⟩, .string ⟨#[49]⟩] w fun e w' => e = .returned (.string ⟨#[48, 46, 49]⟩) ∧ w' = w := by
  go_enter Tryz.func85, Tryz.ntmps85
  go_wp2_with fail
  go_ret
  exact ⟨by first | rfl | decide, rfl⟩
set_option maxRecDepth 100000 in
set_option maxHeartbeats 1000000 in
theorem written01 (w : World) : Calls Tryz.prog 71 #[.string ⟨#[49]⟩, .int .i64 0] w fun e w' => e = .returned (.string ⟨#[48, 46, 49]⟩) ∧ w' = w := by
  have hcat : (⟨#[]⟩ : ByteArray) ++ ⟨#[49]⟩ = ⟨#[49]⟩ := by decide
  go_enter Tryz.func71, Tryz.ntmps71
  go_wp2_with (first | (go_at_call 86; refine (repeat0_any _ _).mono ?_; rintro e w1 ⟨rfl, rfl⟩) | (go_at_call 85; refine (pointed01 _).mono ?_; rintro e w1 ⟨rfl, rfl⟩))
  go_ret
  exact ⟨rfl, rfl⟩
set_option maxRecDepth 100000 in
theorem signed01 (s : ByteArray) (w : World) : Calls Tryz.prog 70 #[.bool false, .string s] w fun e w' => e = .returned (.string s) ∧ w' = w := by
  go_enter Tryz.func70, Tryz.ntmps70
  go_wp2_with fail
  go_ret
  exact ⟨rfl, rfl⟩
set_option maxRecDepth 100000 in
set_option maxHeartbeats 1000000 in
theorem text01 (w : World) (hT : NTab w) :
    Calls Tryz.prog 64 #[.float .f64 4591870180066957722] w fun e w' => e = .returned (.tuple #[.string ⟨#[48, 46, 49]⟩, .int .i64 0]) ∧ Fr noB w w' := by
  have HD := digits_pos 4591870180066957722 w (by omega) (by decide) (by decide) hT
  rw [show 4591870180066957722 % 9223372036854775808 = 4591870180066957722 from rfl, dig01.1, dig01.2] at HD
  have hb : baOf [49] = ⟨#[49]⟩ := by decide
  rw [hb] at HD
  have hlt : (FloatKind.f64.format.order 4591870180066957722 0 == some .lt) = false := by decide +kernel
  go_enter Tryz.func64, Tryz.ntmps64
  go_wp2_with (first | (go_at_call 69; refine HD.mono ?_; rintro e w1 ⟨rfl, hF1⟩) | (go_at_call 71; refine (written01 _).mono ?_; rintro e w2 ⟨rfl, rfl⟩) | (go_at_call 70; refine (signed01 _ _).mono ?_; rintro e w2 ⟨rfl, rfl⟩))
  go_ret2
  exact ⟨rfl, hF1⟩
#print axioms text01
end Go.Proofs.YtjdgpnhinjahjaaGreatDoor
