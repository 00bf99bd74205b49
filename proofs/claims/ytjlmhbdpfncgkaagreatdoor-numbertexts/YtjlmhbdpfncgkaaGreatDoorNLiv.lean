/- live: Text(0.1) is 0.1, FromDate(1900, 1, 1) is 2. -/
import Derived.Test.YtjlmhbdpfncgkaaGreatDoorNStr
namespace Go.Proofs.YtjlmhbdpfncgkaaGreatDoor
open Go.RowKit Ieee Go.Shelf

theorem sd01 : sdOf 4591870180066957722 = 1000000000000000 ∧ spOf 4591870180066957722 = -16 := by decide +kernel
theorem dig01 : digF 4591870180066957722 = [49] ∧ dpF 4591870180066957722 = 0 := by
  have hn : Lib.nDigits 1000000000000000 = 15 + 1 := Lib.nDigits_unique 15 _ (by decide) (by decide)
  unfold digF dpF
  rw [sd01.1, sd01.2, hn]
  refine ⟨?_, by decide⟩
  rw [Lib.decDigits_eq, hn]
  decide
theorem repeat0_any (s : ByteArray) (w : World) : Calls Tryz.prog 29 #[.string s, .int .i64 0] w fun e w' => e = .returned (.string ⟨#[]⟩) ∧ w' = w :=
  Any.strings_Repeat_zero Tryz.laysLaysn105 s w
set_option maxRecDepth 100000 in
set_option maxHeartbeats 1000000 in
theorem pointed01 (w : World) : Calls Tryz.prog 26 #[.string ⟨#[48]⟩, .string ⟨#[49]⟩] w fun e w' => e = .returned (.string ⟨#[48, 46, 49]⟩) ∧ w' = w := by
  go_enter Tryz.func26, Tryz.ntmps26
  go_wp2_with fail
  go_ret
  exact ⟨by first | rfl | decide, rfl⟩
set_option maxRecDepth 100000 in
set_option maxHeartbeats 1000000 in
theorem written01 (w : World) : Calls Tryz.prog 13 #[.string ⟨#[49]⟩, .int .i64 0] w fun e w' => e = .returned (.string ⟨#[48, 46, 49]⟩) ∧ w' = w := by
  have hcat : (⟨#[]⟩ : ByteArray) ++ ⟨#[49]⟩ = ⟨#[49]⟩ := by decide
  go_enter Tryz.func13, Tryz.ntmps13
  go_wp2_with (first | (go_at_call 29; refine (repeat0_any _ _).mono ?_; rintro e w1 ⟨rfl, rfl⟩) | (go_at_call 26; refine (pointed01 _).mono ?_; rintro e w1 ⟨rfl, rfl⟩))
  go_ret
  exact ⟨rfl, rfl⟩
set_option maxRecDepth 100000 in
theorem signed01 (s : ByteArray) (w : World) : Calls Tryz.prog 12 #[.bool false, .string s] w fun e w' => e = .returned (.string s) ∧ w' = w := by
  go_enter Tryz.func12, Tryz.ntmps12
  go_wp2_with fail
  go_ret
  exact ⟨rfl, rfl⟩
set_option maxRecDepth 100000 in
set_option maxHeartbeats 1000000 in
theorem text01 (w : World) (hT : NTab w) :
    Calls Tryz.prog 5 #[.float .f64 4591870180066957722] w fun e w' => e = .returned (.tuple #[.string ⟨#[48, 46, 49]⟩, .int .i64 0]) ∧ Fr noB w w' := by
  have HD := digits_pos 4591870180066957722 w (by omega) (by decide) (by decide) hT
  rw [show 4591870180066957722 % 9223372036854775808 = 4591870180066957722 from rfl, dig01.1, dig01.2] at HD
  have hb : baOf [49] = ⟨#[49]⟩ := by decide
  rw [hb] at HD
  have hlt : (FloatKind.f64.format.order 4591870180066957722 0 == some .lt) = false := by decide +kernel
  go_enter Tryz.func5, Tryz.ntmps5
  go_wp2_with (first | (go_at_call 7; refine HD.mono ?_; rintro e w1 ⟨rfl, hF1⟩) | (go_at_call 13; refine (written01 _).mono ?_; rintro e w2 ⟨rfl, rfl⟩) | (go_at_call 12; refine (signed01 _ _).mono ?_; rintro e w2 ⟨rfl, rfl⟩))
  go_ret2
  exact ⟨rfl, hF1⟩
/-- All that the statements read of variables. -/
structure NTabs (w : World) : Prop extends NTab w where
  m : MTab w
theorem NTabs.fr {w w' : World} (h : NTabs w) (hF : Fr noB w w') : NTabs w' := ⟨h.toNTab.fr hF, h.m.fr hF⟩
set_option maxRecDepth 100000 in
set_option maxHeartbeats 1000000 in
theorem live_true (w : World) (hT : NTabs w) : Calls Tryz.prog 11 #[] w fun e w' => e = .returned (.bool true) ∧ Fr noB w w' := by
  have H1 := text01 w hT.toNTab
  have H2 : Hid (∀ W, Fr noB w W → Calls Tryz.prog 28 #[.int .i64 1900, .int .i64 1, .int .i64 1] W fun e w' => e = .returned (.tuple #[.float .f64 4611686018427387904, .int .i64 0]) ∧ w' = W) := by
    intro W hW
    have h := fromDate_any 1900 1 1 W (hT.m.fr hW)
    have hd : dateF 1900 1 1 = true := by decide
    have hv : FloatKind.f64.nearest (dayF 1900 (1 : Int).toNat 1) = 4611686018427387904 := by decide +kernel
    rw [hd, if_pos rfl, hv] at h
    exact h
  have ho : (FloatKind.f64.format.order 4611686018427387904 4611686018427387904 == some .eq) = true := by decide +kernel
  go_enter Tryz.func11, Tryz.ntmps11
  go_wp2_with (first | (go_at_call 5; refine H1.mono ?_; rintro e w1 ⟨rfl, hF1⟩) | (go_at_call 28; refine (H2.out _ hF1).mono ?_; rintro e w2 ⟨rfl, rfl⟩))
  go_ret
  exact ⟨by first | rfl | simp, hF1⟩
#print axioms live_true
end Go.Proofs.YtjlmhbdpfncgkaaGreatDoor
