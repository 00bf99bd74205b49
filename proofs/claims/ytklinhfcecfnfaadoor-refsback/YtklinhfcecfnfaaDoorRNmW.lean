/- Quote of the document; RefsNames: the law's walk. -/
import Derived.Test.YtklinhfcecfnfaaDoorRRfN
namespace Go.Proofs.YtklinhfcecfnfaaDoor
open Go.RowKit Go.Shelf

set_option maxRecDepth 100000 in
set_option maxHeartbeats 2000000 in
theorem rquote_any (s : ByteArray) (w : World) (hs : s.size ≤ 140737488355328) (hT : Tabs w) : Calls Tryd.prog 15 #[.string s] w fun e w' => e = .returned (.tuple #[.string (quoF s), .int .i64 (quoE s)]) ∧ Fr noB w w' := by
  have H1 := rsheetName_any s w hs hT
  have H2 := fun w => rplain_any s w hs
  clear hT
  unfold quoE
  cases hs1 : shtF s with
  | false =>
    rw [hs1] at H1
    rw [quoF_no s hs1, if_neg (by simp)]
    clear hs1
    go_enter Tryd.func15, Tryd.ntmps15
    go_wp2_with (go_at_call 17; refine H1.mono ?_; rintro e w1 ⟨rfl, hF1⟩)
    go_ret2
    exact ⟨rfl, hF1⟩
  | true =>
    rw [hs1] at H1
    rw [if_pos rfl]
    have hz := shtF_size hs1
    cases hw : wrdF s with
    | true =>
      rw [quo_plain hs1 hw]
      rw [hw] at H2
      clear hs1 hw
      go_enter Tryd.func15, Tryd.ntmps15
      go_wp2_with (first | (go_at_call 17; refine H1.mono ?_; rintro e w1 ⟨rfl, hF1⟩) | (go_at_call 37; refine (H2 _).mono ?_; rintro e w2 ⟨rfl, rfl⟩))
      go_ret2
      exact ⟨rfl, hF1⟩
    | false =>
      have HE : Hid (quoF s = (⟨#[39]⟩ : ByteArray) ++ s ++ ⟨#[39]⟩) := by
        show quoF s = _
        rw [quote_join]
        exact quo_quoted hs1 hw
      rw [hw] at H2
      have z1 : (⟨#[39]⟩ : ByteArray).size = 1 := rfl
      clear hs1 hw
      go_enter Tryd.func15, Tryd.ntmps15
      go_wp2_with (first | (go_at_call 17; refine H1.mono ?_; rintro e w1 ⟨rfl, hF1⟩) | (go_at_call 37; refine (H2 _).mono ?_; rintro e w2 ⟨rfl, rfl⟩))
      go_ret2
      rw [HE.out]
      exact ⟨rfl, hF1⟩
set_option maxRecDepth 100000 in
set_option maxHeartbeats 2000000 in
theorem names_walk (s : ByteArray) (w : World) (hs : s.size ≤ 140737488355328) (hT : Tabs w) : Calls Tryd.prog 4 #[.string s] w fun e w' => e = .returned (.bool true) ∧ Below w.heap.size w w' := by
  have H0 := live_true
  have H1 := quote_two s
  have H2 := fun w h => rquote_any s w hs h
  have H3 := sheetName_any s
  have H4 := fun w h => rsheetName_any s w hs h
  have HT : Hid (Tabs w) := hT
  clear hT hs
  generalize quoF s = Q at *
  generalize quoE s = E at *
  generalize shtF s = B at *
  have hBB : (B == B) = true := by simp
  go_enter Tryd.func4, Tryd.ntmps4
  go_wp2_with (first
    | (go_at_call 14; refine (H1 _).mono ?_; rintro e w1 ⟨rfl, hF1⟩)
    | (go_at_call 15; refine (H2 _ (HT.out.keep hF1)).mono ?_; rintro e w2 ⟨rfl, hF2⟩; have hG2 := hF1.trans hF2)
    | (go_at_call 13; refine (H0 _).mono ?_; rintro e w3 ⟨rfl, hF3⟩; have hG3 := hG2.trans hF3)
    | (go_at_call 16; refine (H3 _).mono ?_; rintro e w4 ⟨rfl, hF4⟩; have hG4 := hG3.trans hF4)
    | (go_at_call 17; refine (H4 _ (HT.out.keep hG4)).mono ?_; rintro e w5 ⟨rfl, hF5⟩; have hG5 := hG4.trans hF5))
  go_ret
  exact ⟨rfl, hG5.below (Nat.le_refl _) (fun _ h => h.elim)⟩
#print axioms names_walk
end Go.Proofs.YtklinhfcecfnfaaDoor
