/- RefsBack: the law's walk. -/
import Derived.Test.YtklinhfcecfnfaaDoorRBkM
namespace Go.Proofs.YtklinhfcecfnfaaDoor
open Go.RowKit Go.Shelf

set_option maxRecDepth 100000 in
set_option maxHeartbeats 4000000 in
theorem back_no (t u : ByteArray) (fx ar : Bool) (r1 c1 : Int) (x1 y1 : Bool) (r2 c2 : Int) (x2 y2 : Bool) (w : World) (ht : t.size ≤ 140737488355328) (hu : u.size ≤ 140737488355328) (hT : Tabs w) (hU : UTab w) (hne : ¬ chkF t u fx ar r1 c1 r2 c2 x2 y2 = 0) : Calls Tryd.prog 8 #[(.agg #[.string t, .string u, .bool fx, .bool ar, .int .i64 r1, .int .i64 c1, .bool x1, .bool y1, .int .i64 r2, .int .i64 c2, .bool x2, .bool y2])] w fun e w' => e = .returned (.bool true) ∧ Fr noB w w' := by
  have H0 := live_true
  have H1 := fun w h => text_any t u fx ar r1 c1 x1 y1 r2 c2 x2 y2 w h
  have H4 := fun w h => rcheck_any t u fx ar r1 c1 x1 y1 r2 c2 x2 y2 w ht hu h
  generalize txtB t u fx ar r1 c1 x1 y1 r2 c2 x2 y2 = TX at *
  generalize chkF t u fx ar r1 c1 r2 c2 x2 y2 = E at *
  have hEE : (E == E) = true := by simp
  clear ht hu
  obtain ⟨W0, hW0⟩ : ∃ W0, w.alloc (.cells #[.string t, .string u, .bool fx, .bool ar, .int .i64 r1, .int .i64 c1, .bool x1, .bool y1, .int .i64 r2, .int .i64 c2, .bool x2, .bool y2] 34 (0, 0)) = W0 := ⟨_, rfl⟩
  have hA0 : RAt W0 w.heap.size t u fx ar r1 c1 x1 y1 r2 c2 x2 y2 := ⟨by rw [← hW0]; exact heap_alloc_new w _⟩
  have hF0 : Fr noB w W0 := by rw [← hW0]; exact (Fr.refl noB w).alloc _
  have HT : Hid (∀ W, Fr noB w W → Tabs W ∧ UTab W) := fun W hW => ⟨hT.keep hW, hU.fr hW⟩
  have HG : Hid (∀ W, Fr noB W0 W → RAt W w.heap.size t u fx ar r1 c1 x1 y1 r2 c2 x2 y2 ∧ Fr noB w W) := fun W hW => ⟨hA0.fr hW id, hF0.trans hW⟩
  have g0 := hA0.g0; have g1 := hA0.g1; have g2 := hA0.g2; have g3 := hA0.g3; have g4 := hA0.g4; have g5 := hA0.g5; have g6 := hA0.g6; have g7 := hA0.g7; have g8 := hA0.g8; have g9 := hA0.g9; have g10 := hA0.g10; have g11 := hA0.g11
  clear hA0 hF0 hT hU
  go_enter Tryd.func8, Tryd.ntmps8
  go_wp2_with (first
    | (go_at_call 18; refine (H1 _ (HT.out _ (HG.out _ (Fr.refl _ _)).2).2).mono ?_; rintro e w1 ⟨rfl, hF1⟩)
    | (go_at_call 13; refine (H0 _).mono ?_; rintro e w2 ⟨rfl, hF2⟩; have hA2 := (HG.out w2 (by repeat first | assumption | exact Fr.refl _ _ | refine Fr.trans ?_ (by assumption))).1; have q2x0 := hA2.g0; have q2x1 := hA2.g1; have q2x2 := hA2.g2; have q2x3 := hA2.g3; have q2x4 := hA2.g4; have q2x5 := hA2.g5; have q2x6 := hA2.g6; have q2x7 := hA2.g7; have q2x8 := hA2.g8; have q2x9 := hA2.g9; have q2x10 := hA2.g10; have q2x11 := hA2.g11)
    | (go_at_call 21; refine (H4 _ (HT.out _ (HG.out _ (by repeat first | assumption | exact Fr.refl _ _ | refine Fr.trans ?_ (by assumption))).2).1).mono ?_; rintro e w3 ⟨rfl, hF3⟩))
  go_ret
  exact ⟨rfl, (HG.out _ (by repeat first | assumption | exact Fr.refl _ _ | refine Fr.trans ?_ (by assumption))).2⟩
set_option maxRecDepth 100000 in
set_option maxHeartbeats 4000000 in
theorem back_ok (t u : ByteArray) (fx ar : Bool) (a1 b1 : Nat) (x1 y1 : Bool) (a2 b2 : Nat) (x2 y2 : Bool) (w : World) (hT : Tabs w) (hU : UTab w) (hok : chkF t u fx ar a1 b1 a2 b2 x2 y2 = 0) : Calls Tryd.prog 8 #[(.agg #[.string t, .string u, .bool fx, .bool ar, .int .i64 (a1 : Int), .int .i64 (b1 : Int), .bool x1, .bool y1, .int .i64 (a2 : Int), .int .i64 (b2 : Int), .bool x2, .bool y2])] w fun e w' => e = .returned (.bool true) ∧ Fr noB w w' := by
  have H0 := live_true
  obtain ⟨a, b, c, d, e1, e2, e3, e4, ha, hb, hc, hd, hs, hz⟩ := chk_ok hok
  obtain rfl : a1 = a := by omega
  obtain rfl : b1 = b := by omega
  obtain rfl : a2 = c := by omega
  obtain rfl : b2 = d := by omega
  have H1 := fun w h => text_ok t u fx ar a1 b1 x1 y1 a2 b2 x2 y2 w hok ha hb hc hd h
  have hlen : (baL (texL t u fx ar a1 b1 x1 y1 a2 b2 x2 y2)).size ≤ 140737488355328 := by
    rw [baL_size]
    unfold texL
    have l1 := cel_len t a1 b1 x1 y1 ha hb
    have l2 := cel_len u a2 b2 x2 y2 hc hd
    have l3 : (dolL fx).length ≤ 1 := by cases fx <;> decide
    cases ar
    · simp only [List.length_append, Bool.false_eq_true, if_false, List.length_nil]; omega
    · simp only [List.length_append, if_true, List.length_cons]; omega
  have H2 := fun w => parse_ok (baL (texL t u fx ar a1 b1 x1 y1 a2 b2 x2 y2)) _ w hlen (rf_back t u fx ar a1 b1 x1 y1 a2 b2 x2 y2 ha hb hc hd hs (fun h => by obtain ⟨p, q, r⟩ := hz h; exact ⟨by omega, by omega, r⟩))
  simp only [refV] at H2
  generalize baL (texL t u fx ar a1 b1 x1 y1 a2 b2 x2 y2) = TX at *
  clear hok hlen hs hz ha hb hc hd e1 e2 e3 e4
  obtain ⟨r1, hr1⟩ : ∃ r1 : Int, (a1 : Int) = r1 := ⟨_, rfl⟩
  obtain ⟨c1, hc1⟩ : ∃ c1 : Int, (b1 : Int) = c1 := ⟨_, rfl⟩
  obtain ⟨r2, hr2⟩ : ∃ r2 : Int, (a2 : Int) = r2 := ⟨_, rfl⟩
  obtain ⟨c2, hc2⟩ : ∃ c2 : Int, (b2 : Int) = c2 := ⟨_, rfl⟩
  rw [hr1, hc1, hr2, hc2] at H1 H2
  rw [hr1, hc1, hr2, hc2]
  clear hr1 hc1 hr2 hc2
  obtain ⟨W0, hW0⟩ : ∃ W0, w.alloc (.cells #[.string t, .string u, .bool fx, .bool ar, .int .i64 r1, .int .i64 c1, .bool x1, .bool y1, .int .i64 r2, .int .i64 c2, .bool x2, .bool y2] 34 (0, 0)) = W0 := ⟨_, rfl⟩
  have hA0 : RAt W0 w.heap.size t u fx ar r1 c1 x1 y1 r2 c2 x2 y2 := ⟨by rw [← hW0]; exact heap_alloc_new w _⟩
  have hF0 : Fr noB w W0 := by rw [← hW0]; exact (Fr.refl noB w).alloc _
  have HT : Hid (∀ W, Fr noB w W → Tabs W ∧ UTab W) := fun W hW => ⟨hT.keep hW, hU.fr hW⟩
  have HG : Hid (∀ W, Fr noB W0 W → RAt W w.heap.size t u fx ar r1 c1 x1 y1 r2 c2 x2 y2 ∧ Fr noB w W) := fun W hW => ⟨hA0.fr hW id, hF0.trans hW⟩
  have g0 := hA0.g0; have g1 := hA0.g1; have g2 := hA0.g2; have g3 := hA0.g3; have g4 := hA0.g4; have g5 := hA0.g5; have g6 := hA0.g6; have g7 := hA0.g7; have g8 := hA0.g8; have g9 := hA0.g9; have g10 := hA0.g10; have g11 := hA0.g11
  clear hA0 hF0 hT hU
  go_enter Tryd.func8, Tryd.ntmps8
  go_wp2_with (first
    | (go_at_call 18; refine (H1 _ (HT.out _ (HG.out _ (Fr.refl _ _)).2).2).mono ?_; rintro e w1 ⟨rfl, hF1⟩)
    | (go_at_call 13; refine (H0 _).mono ?_; rintro e w2 ⟨rfl, hF2⟩)
    | (go_at_call 22; refine (H2 _).mono ?_; rintro e w3 ⟨rfl, hF3⟩; have hA3 := (HG.out (w3.alloc (.cells #[.string t, .string u, .bool fx, .bool ar, .int .i64 r1, .int .i64 c1, .bool x1, .bool y1, .int .i64 r2, .int .i64 c2, .bool x2, .bool y2] 34 (0, 0))) (Fr.alloc (by repeat first | assumption | exact Fr.refl _ _ | refine Fr.trans ?_ (by assumption)) _)).1; have q3x0 := hA3.g0; have q3x1 := hA3.g1; have q3x2 := hA3.g2; have q3x3 := hA3.g3; have q3x4 := hA3.g4; have q3x5 := hA3.g5; have q3x6 := hA3.g6; have q3x7 := hA3.g7; have q3x8 := hA3.g8; have q3x9 := hA3.g9; have q3x10 := hA3.g10; have q3x11 := hA3.g11))
  go_ret
  exact ⟨rfl, (HG.out _ (Fr.alloc (by repeat first | assumption | exact Fr.refl _ _ | refine Fr.trans ?_ (by assumption)) _)).2⟩
theorem back_walk (t u : ByteArray) (fx ar : Bool) (r1 c1 : Int) (x1 y1 : Bool) (r2 c2 : Int) (x2 y2 : Bool) (w : World) (ht : t.size ≤ 140737488355328) (hu : u.size ≤ 140737488355328) (hT : Tabs w) (hU : UTab w) : Calls Tryd.prog 8 #[(.agg #[.string t, .string u, .bool fx, .bool ar, .int .i64 r1, .int .i64 c1, .bool x1, .bool y1, .int .i64 r2, .int .i64 c2, .bool x2, .bool y2])] w fun e w' => e = .returned (.bool true) ∧ Below w.heap.size w w' := by
  by_cases h : chkF t u fx ar r1 c1 r2 c2 x2 y2 = 0
  · obtain ⟨a, b, c, d, rfl, rfl, rfl, rfl, _⟩ := chk_ok h
    exact (back_ok t u fx ar a b x1 y1 c d x2 y2 w hT hU h).mono fun e w' ⟨h1, h2⟩ => ⟨h1, h2.below (Nat.le_refl _) (fun _ h => h.elim)⟩
  · exact (back_no t u fx ar r1 c1 x1 y1 r2 c2 x2 y2 w ht hu hT hU h).mono fun e w' ⟨h1, h2⟩ => ⟨h1, h2.below (Nat.le_refl _) (fun _ h => h.elim)⟩
#print axioms back_walk
end Go.Proofs.YtklinhfcecfnfaaDoor
