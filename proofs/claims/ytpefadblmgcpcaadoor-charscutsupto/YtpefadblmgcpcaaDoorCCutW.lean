/- CharsCuts: the law's walk. -/
import Derived.Test.YtpefadblmgcpcaaDoorCLnR
import Derived.Test.YtpefadblmgcpcaaDoorCMov
import Derived.Test.YtpefadblmgcpcaaDoorCPlc
import Derived.Test.YtpefadblmgcpcaaDoorCLiv
namespace Go.Proofs.YtpefadblmgcpcaaDoor
open Go.RowKit Go.Shelf

set_option maxRecDepth 100000 in
theorem upper_any (s : ByteArray) (w : World) : Calls Tryd.prog 25 #[.string s] w fun e w' => e = .returned (.string (mvB 97 122 65 s)) ∧ Fr noB w w' := by
  have H := moved_any s 97 65 w (Or.inl ⟨rfl, rfl⟩)
  go_enter Tryd.func25, Tryd.ntmps25
  go_wp2_with (go_at_call 54; refine H.mono ?_; rintro e w1 ⟨rfl, hF⟩)
  go_ret
  exact ⟨rfl, hF⟩
set_option maxRecDepth 100000 in
theorem lower_any (s : ByteArray) (w : World) : Calls Tryd.prog 27 #[.string s] w fun e w' => e = .returned (.string (mvB 65 90 97 s)) ∧ Fr noB w w' := by
  have H := moved_any s 65 97 w (Or.inr ⟨rfl, rfl⟩)
  go_enter Tryd.func27, Tryd.ntmps27
  go_wp2_with (go_at_call 54; refine H.mono ?_; rintro e w1 ⟨rfl, hF⟩)
  go_ret
  exact ⟨rfl, hF⟩
set_option maxRecDepth 100000 in
theorem rupper_any (s : ByteArray) (w : World) (hs : s.size ≤ 1048576) : Calls Tryd.prog 26 #[.string s] w fun e w' => e = .returned (.string (mvB 97 122 65 s)) ∧ Fr noB w w' := by
  have H := cased_any s 97 65 w hs (Or.inl ⟨rfl, rfl⟩)
  go_enter Tryd.func26, Tryd.ntmps26
  go_wp2_with (go_at_call 55; refine H.mono ?_; rintro e w1 ⟨rfl, hF⟩)
  go_ret
  exact ⟨rfl, hF⟩
set_option maxRecDepth 100000 in
theorem rlower_any (s : ByteArray) (w : World) (hs : s.size ≤ 1048576) : Calls Tryd.prog 28 #[.string s] w fun e w' => e = .returned (.string (mvB 65 90 97 s)) ∧ Fr noB w w' := by
  have H := cased_any s 65 97 w hs (Or.inr ⟨rfl, rfl⟩)
  go_enter Tryd.func28, Tryd.ntmps28
  go_wp2_with (go_at_call 55; refine H.mono ?_; rintro e w1 ⟨rfl, hF⟩)
  go_ret
  exact ⟨rfl, hF⟩
set_option maxRecDepth 100000 in
set_option maxHeartbeats 1000000 in
theorem cuts_walk (s : ByteArray) (a n : Int) (w : World) (hs : s.size ≤ 1048576) (ha : -9223372036854775808 ≤ a ∧ a ≤ 9223372036854775807) (hn : -9223372036854775808 ≤ n ∧ n ≤ 9223372036854775807) (hT : Tabs w) :
    Calls Tryd.prog 6 #[.string s, .int .i64 a, .int .i64 n] w fun e w' => e = .returned (.bool true) ∧ Below w.heap.size w w' := by
  have H0 := live_true
  have H1 := fun w => lines_any s w hs
  have H2 := fun w => rlines_any s w hs
  have H3 := fun w => count_any s w (by omega)
  have H4 := fun w h => rcount_any s w hs h
  have H5 := fun w => cutc_any s a n w (by omega) ha hn
  have H6 := fun w h => rcut_any s a n w hs ha hn h
  have H7 := upper_any s
  have H8 := fun w => rupper_any s w hs
  have H9 := lower_any s
  have H10 := fun w => rlower_any s w hs
  have HT : Hid (Tabs w) := hT
  clear hT
  generalize (⟨(fromB s (gLin s) 0).toArray⟩ : ByteArray) = L at *
  generalize (runs s 0).length = c at *
  generalize cutF s a n = K at *
  generalize mvB 97 122 65 s = U at *
  generalize mvB 65 90 97 s = V at *
  go_enter Tryd.func6, Tryd.ntmps6
  go_wp2_with (first
    | (go_at_call 12; refine (H0 _).mono ?_; rintro e w0 ⟨rfl, hF0⟩)
    | (go_at_call 19; refine (H1 _).mono ?_; rintro e w1 ⟨rfl, hF1⟩; have hG1 := hF0.trans hF1)
    | (go_at_call 20; refine (H2 _).mono ?_; rintro e w2 ⟨rfl, hF2⟩; have hG2 := hG1.trans hF2)
    | (go_at_call 21; refine (H3 _).mono ?_; rintro e w3 ⟨rfl, hF3⟩; have hG3 := hG2.trans hF3)
    | (go_at_call 22; refine (H4 _ (HT.out.keep hG3)).mono ?_; rintro e w4 ⟨rfl, hF4⟩; have hG4 := hG3.trans hF4)
    | (go_at_call 23; refine (H5 _).mono ?_; rintro e w5 ⟨rfl, hF5⟩; have hG5 := hG4.trans hF5)
    | (go_at_call 24; refine (H6 _ (HT.out.keep hG5)).mono ?_; rintro e w6 ⟨rfl, hF6⟩; have hG6 := hG5.trans hF6)
    | (go_at_call 25; refine (H7 _).mono ?_; rintro e w7 ⟨rfl, hF7⟩; have hG7 := hG6.trans hF7)
    | (go_at_call 26; refine (H8 _).mono ?_; rintro e w8 ⟨rfl, hF8⟩; have hG8 := hG7.trans hF8)
    | (go_at_call 27; refine (H9 _).mono ?_; rintro e w9 ⟨rfl, hF9⟩; have hG9 := hG8.trans hF9)
    | (go_at_call 28; refine (H10 _).mono ?_; rintro e w10 ⟨rfl, hF10⟩; have hG10 := hG9.trans hF10))
  go_ret
  exact ⟨rfl, hG10.below (Nat.le_refl _) (fun _ h => h.elim)⟩
#print axioms cuts_walk
end Go.Proofs.YtpefadblmgcpcaaDoor
