/- CharsNames: the law's walk. -/
import Derived.Test.YtpefadblmgcpcaaDoorCSpl
namespace Go.Proofs.YtpefadblmgcpcaaDoor
open Go.RowKit

theorem toList_same (s : ByteArray) : (s.toList == s.toList) = true := by simp
set_option maxRecDepth 100000 in
set_option maxHeartbeats 1000000 in
theorem names_walk (s : ByteArray) (w : World) (hs : s.size ≤ 1048576) (hT : Tabs w) : Calls Tryd.prog 3 #[.string s] w fun e w' => e = .returned (.bool true) ∧ Below w.heap.size w w' := by
  have H0 := live_true
  have H1 := valid_any s
  have H2 := fun w h => rvalid_any s w hs h
  have H3 := fun w => split_any s w hs
  have H4 := fun w h => rsplit_any s w hs h
  have H5 := name_any s
  have H6 := fun w h => rname_any s w hs h
  have HT : Hid (Tabs w) := hT
  clear hT
  generalize validF s = V at *
  generalize splF s = P at *
  generalize nameF s = N at *
  go_enter Tryd.func3, Tryd.ntmps3
  go_wp2_with (first
    | (go_at_call 8; refine (H1 _).mono ?_; rintro e w1 ⟨rfl, hF1⟩)
    | (go_at_call 9; refine (H2 _ (HT.out.keep hF1)).mono ?_; rintro e w2 ⟨rfl, hF2⟩; have hG2 := hF1.trans hF2)
    | (go_at_call 10; refine (H3 _).mono ?_; rintro e w3 ⟨rfl, hF3⟩; have hG3 := hG2.trans hF3)
    | (go_at_call 11; refine (H4 _ (HT.out.keep hG3)).mono ?_; rintro e w4 ⟨rfl, hF4⟩; have hG4 := hG3.trans hF4)
    | (go_at_call 12; refine (H0 _).mono ?_; rintro e w5 ⟨rfl, hF5⟩; have hG5 := hG4.trans hF5)
    | (go_at_call 13; refine (H5 _).mono ?_; rintro e w6 ⟨rfl, hF6⟩; have hG6 := hG5.trans hF6)
    | (go_at_call 14; refine (H6 _ (HT.out.keep hG6)).mono ?_; rintro e w7 ⟨rfl, hF7⟩; have hG7 := hG6.trans hF7))
  go_ret
  exact ⟨rfl, hG7.below (Nat.le_refl _) (fun _ h => h.elim)⟩
end Go.Proofs.YtpefadblmgcpcaaDoor
