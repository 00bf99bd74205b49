/- Check: the program's contract and the document's. -/
import Derived.Test.YthokhnbecgkpbaaDoorRChk
namespace Go.Proofs.YthokhnbecgkpbaaDoor
open Go.RowKit Go.Shelf

set_option maxRecDepth 100000 in
set_option maxHeartbeats 4000000 in
theorem check_any (t u : ByteArray) (fx ar : Bool) (r1 c1 : Int) (x1 y1 : Bool) (r2 c2 : Int) (x2 y2 : Bool) (w : World) :
    Calls Tryd.prog 52 #[(.agg #[.string t, .string u, .bool fx, .bool ar, .int .i64 r1, .int .i64 c1, .bool x1, .bool y1, .int .i64 r2, .int .i64 c2, .bool x2, .bool y2])] w fun e w' => e = .returned (.int .i64 (chkF t u fx ar r1 c1 r2 c2 x2 y2)) ∧ Fr noB w w' := by
  have H1 := sheetsFit_any t u fx ar r1 c1 x1 y1 r2 c2 x2 y2
  have H2 := cornersFit_any t u fx ar r1 c1 x1 y1 r2 c2 x2 y2
  obtain ⟨W0, hW0⟩ : ∃ W0, w.alloc (.cells #[.string t, .string u, .bool fx, .bool ar, .int .i64 r1, .int .i64 c1, .bool x1, .bool y1, .int .i64 r2, .int .i64 c2, .bool x2, .bool y2] 46 (0, 0)) = W0 := ⟨_, rfl⟩
  have hA0 : RAt W0 w.heap.size t u fx ar r1 c1 x1 y1 r2 c2 x2 y2 := ⟨by rw [← hW0]; exact heap_alloc_new w _⟩
  have hF0 : Fr noB w W0 := by rw [← hW0]; exact (Fr.refl noB w).alloc _
  have HG : Hid (∀ W, Fr noB W0 W → RAt W w.heap.size t u fx ar r1 c1 x1 y1 r2 c2 x2 y2) := fun W hW => hA0.fr hW id
  have g0 := hA0.g0; have g1 := hA0.g1; have g2 := hA0.g2; have g3 := hA0.g3; have g4 := hA0.g4; have g5 := hA0.g5; have g6 := hA0.g6; have g7 := hA0.g7; have g8 := hA0.g8; have g9 := hA0.g9; have g10 := hA0.g10; have g11 := hA0.g11
  have HF : Hid _ := hF0
  unfold chkF
  clear hA0 hF0
  generalize shsB t u fx = SB at *
  generalize corsB ar r1 c1 r2 c2 x2 y2 = CB at *
  unfold empB
  cases SB with
  | false =>
    rw [if_pos rfl]
    go_enter Tryd.func52, Tryd.ntmps52
    go_wp2_with (go_at_call 62; refine (H1 _).mono ?_; rintro e w1 ⟨rfl, hF1⟩)
    go_ret
    exact ⟨rfl, HF.out.trans hF1⟩
  | true =>
    rw [if_neg (by simp)]
    cases CB with
    | false =>
      rw [if_pos (by simp)]
      go_enter Tryd.func52, Tryd.ntmps52
      go_wp2_with (first
        | (go_at_call 62; refine (H1 _).mono ?_; rintro e w1 ⟨rfl, hF1⟩; have hA1 := HG.out _ hF1; have k0 := hA1.g0; have k1 := hA1.g1; have k2 := hA1.g2; have k3 := hA1.g3; have k4 := hA1.g4; have k5 := hA1.g5; have k6 := hA1.g6; have k7 := hA1.g7; have k8 := hA1.g8; have k9 := hA1.g9; have k10 := hA1.g10; have k11 := hA1.g11)
        | (go_at_call 63; refine (H2 _).mono ?_; rintro e w2 ⟨rfl, hF2⟩))
      go_ret
      exact ⟨rfl, HF.out.trans (hF1.trans hF2)⟩
    | true =>
      cases hu : u.toList.isEmpty <;> cases ar
      all_goals
        go_enter Tryd.func52, Tryd.ntmps52
        go_wp2_with (first
          | (go_at_call 62; refine (H1 _).mono ?_; rintro e w1 ⟨rfl, hF1⟩; have hA1 := HG.out _ hF1; have k0 := hA1.g0; have k1 := hA1.g1; have k2 := hA1.g2; have k3 := hA1.g3; have k4 := hA1.g4; have k5 := hA1.g5; have k6 := hA1.g6; have k7 := hA1.g7; have k8 := hA1.g8; have k9 := hA1.g9; have k10 := hA1.g10; have k11 := hA1.g11)
          | (go_at_call 63; refine (H2 _).mono ?_; rintro e w2 ⟨rfl, hF2⟩; have hA2 := HG.out _ (hF1.trans hF2); have m1 := hA2.g1; have m3 := hA2.g3))
        go_ret
        exact ⟨rfl, HF.out.trans (hF1.trans hF2)⟩
#print axioms check_any
/-- The document's words for the sheets. -/
theorem shs_doc (t u : ByteArray) (fx : Bool) : ((!(empB t) && !(shtF t)) || (!(empB u) && !(shtF u)) || (empB t && (!(empB u) || fx))) = !(shsB t u fx) := by
  unfold shsB
  cases empB t <;> cases empB u <;> cases shtF t <;> cases shtF u <;> cases fx <;> rfl
/-- The document's words for the corners. -/
theorem cors_doc (u : ByteArray) (ar : Bool) (r1 c1 r2 c2 : Int) (x2 y2 : Bool) : (!(corB r1 c1) || (ar && !(corB r2 c2)) || (!ar && (!(zerB r2 c2 x2 y2) || !(empB u)))) = (!(corsB ar r1 c1 r2 c2 x2 y2) || (!(empB u) && !ar)) := by
  have h : zerB r2 c2 x2 y2 = true → corB r2 c2 = true := by
    intro h
    rcases zer_cases r2 c2 x2 y2 with ⟨_, rfl, rfl, _, _⟩ | ⟨hz, _⟩
    · rfl
    · rw [h] at hz; cases hz
  unfold corsB
  cases hz : zerB r2 c2 x2 y2
  · cases ar <;> cases corB r1 c1 <;> cases corB r2 c2 <;> cases empB u <;> rfl
  · rw [h hz]
    cases ar <;> cases corB r1 c1 <;> cases empB u <;> rfl
theorem chk_doc (t u : ByteArray) (fx ar : Bool) (r1 c1 r2 c2 : Int) (x2 y2 : Bool) : chkF t u fx ar r1 c1 r2 c2 x2 y2 = (if ((!(empB t) && !(shtF t)) || (!(empB u) && !(shtF u)) || (empB t && (!(empB u) || fx))) = true then 111 else if (!(corB r1 c1) || (ar && !(corB r2 c2)) || (!ar && (!(zerB r2 c2 x2 y2) || !(empB u)))) = true then 110 else 0) := by
  rw [shs_doc, cors_doc]
  unfold chkF
  cases shsB t u fx <;> rfl
set_option maxRecDepth 100000 in
set_option maxHeartbeats 8000000 in
theorem rck_b1 (t u : ByteArray) (fx ar : Bool) (r1 c1 : Int) (x1 y1 : Bool) (r2 c2 : Int) (x2 y2 : Bool) (w : World) (ht : t.size ≤ 140737488355328) (hu : u.size ≤ 140737488355328) (hT : Tabs w) (e1 : t.toList.isEmpty = true) (e2 : u.toList.isEmpty = true) (hf : fx = true) :
    Calls Tryd.prog 20 #[(.agg #[.string t, .string u, .bool fx, .bool ar, .int .i64 r1, .int .i64 c1, .bool x1, .bool y1, .int .i64 r2, .int .i64 c2, .bool x2, .bool y2])] w fun e w' => e = .returned (.int .i64 (chkF t u fx ar r1 c1 r2 c2 x2 y2)) ∧ Fr noB w w' := by
  have H1 := fun w h => rsheetName_any t w ht h
  have H2 := fun w h => rsheetName_any u w hu h
  have H3 := rcorner_any r1 c1 x1 y1
  have H4 := rcorner_any r2 c2 x2 y2
  obtain ⟨W0, hW0⟩ : ∃ W0, w.alloc (.cells #[.string t, .string u, .bool fx, .bool ar, .int .i64 r1, .int .i64 c1, .bool x1, .bool y1, .int .i64 r2, .int .i64 c2, .bool x2, .bool y2] 46 (0, 0)) = W0 := ⟨_, rfl⟩
  have hA0 : RAt W0 w.heap.size t u fx ar r1 c1 x1 y1 r2 c2 x2 y2 := ⟨by rw [← hW0]; exact heap_alloc_new w _⟩
  have hF0 : Fr noB w W0 := by rw [← hW0]; exact (Fr.refl noB w).alloc _
  have HT : Hid (∀ W, Fr noB w W → Tabs W) := fun W hW => hT.keep hW
  have HG : Hid (∀ W, Fr noB W0 W → RAt W w.heap.size t u fx ar r1 c1 x1 y1 r2 c2 x2 y2 ∧ Fr noB w W) := fun W hW => ⟨hA0.fr hW id, hF0.trans hW⟩
  have g0 := hA0.g0; have g1 := hA0.g1; have g2 := hA0.g2; have g3 := hA0.g3; have g4 := hA0.g4; have g5 := hA0.g5; have g6 := hA0.g6; have g7 := hA0.g7; have g8 := hA0.g8; have g9 := hA0.g9; have g10 := hA0.g10; have g11 := hA0.g11
  clear hA0 hF0 hT ht hu
  rw [chk_doc]
  unfold empB
  subst hf
  rw [e1]
  rw [e2]
  rw [if_pos (by simp)]
  go_enter Tryd.func20, Tryd.ntmps20
  go_wp2_with fail
  go_ret
  exact ⟨rfl, (HG.out _ (by repeat first | assumption | exact Fr.refl _ _ | refine Fr.trans ?_ (by assumption))).2⟩
set_option maxRecDepth 100000 in
set_option maxHeartbeats 8000000 in
theorem rck_b2 (t u : ByteArray) (fx ar : Bool) (r1 c1 : Int) (x1 y1 : Bool) (r2 c2 : Int) (x2 y2 : Bool) (w : World) (ht : t.size ≤ 140737488355328) (hu : u.size ≤ 140737488355328) (hT : Tabs w) (e1 : t.toList.isEmpty = true) (e2 : u.toList.isEmpty = false) :
    Calls Tryd.prog 20 #[(.agg #[.string t, .string u, .bool fx, .bool ar, .int .i64 r1, .int .i64 c1, .bool x1, .bool y1, .int .i64 r2, .int .i64 c2, .bool x2, .bool y2])] w fun e w' => e = .returned (.int .i64 (chkF t u fx ar r1 c1 r2 c2 x2 y2)) ∧ Fr noB w w' := by
  have H1 := fun w h => rsheetName_any t w ht h
  have H2 := fun w h => rsheetName_any u w hu h
  have H3 := rcorner_any r1 c1 x1 y1
  have H4 := rcorner_any r2 c2 x2 y2
  obtain ⟨W0, hW0⟩ : ∃ W0, w.alloc (.cells #[.string t, .string u, .bool fx, .bool ar, .int .i64 r1, .int .i64 c1, .bool x1, .bool y1, .int .i64 r2, .int .i64 c2, .bool x2, .bool y2] 46 (0, 0)) = W0 := ⟨_, rfl⟩
  have hA0 : RAt W0 w.heap.size t u fx ar r1 c1 x1 y1 r2 c2 x2 y2 := ⟨by rw [← hW0]; exact heap_alloc_new w _⟩
  have hF0 : Fr noB w W0 := by rw [← hW0]; exact (Fr.refl noB w).alloc _
  have HT : Hid (∀ W, Fr noB w W → Tabs W) := fun W hW => hT.keep hW
  have HG : Hid (∀ W, Fr noB W0 W → RAt W w.heap.size t u fx ar r1 c1 x1 y1 r2 c2 x2 y2 ∧ Fr noB w W) := fun W hW => ⟨hA0.fr hW id, hF0.trans hW⟩
  have g0 := hA0.g0; have g1 := hA0.g1; have g2 := hA0.g2; have g3 := hA0.g3; have g4 := hA0.g4; have g5 := hA0.g5; have g6 := hA0.g6; have g7 := hA0.g7; have g8 := hA0.g8; have g9 := hA0.g9; have g10 := hA0.g10; have g11 := hA0.g11
  clear hA0 hF0 hT ht hu
  rw [chk_doc]
  unfold empB
  rw [e1]
  rw [e2]
  generalize shtF u = SU at *
  cases SU
  all_goals
    generalize corB r1 c1 = KA at *
    generalize corB r2 c2 = KB at *
    rw [if_pos (by simp)]
    go_enter Tryd.func20, Tryd.ntmps20
    go_wp2_with (first
      | (go_at_call 33; (with_reducible refine (H2 _ (HT.out _ (HG.out _ (by repeat first | assumption | exact Fr.refl _ _ | refine Fr.trans ?_ (by assumption))).2)).mono ?_); rintro e w2 ⟨rfl, hF2⟩; have hA2 := (HG.out w2 (by repeat first | assumption | exact Fr.refl _ _ | refine Fr.trans ?_ (by assumption))).1; have q20 := hA2.g0; have q21 := hA2.g1; have q22 := hA2.g2; have q23 := hA2.g3; have q24 := hA2.g4; have q25 := hA2.g5; have q26 := hA2.g6; have q27 := hA2.g7; have q28 := hA2.g8; have q29 := hA2.g9; have q210 := hA2.g10; have q211 := hA2.g11))
    go_ret
    exact ⟨rfl, (HG.out _ (by repeat first | assumption | exact Fr.refl _ _ | refine Fr.trans ?_ (by assumption))).2⟩
set_option maxRecDepth 100000 in
set_option maxHeartbeats 8000000 in
theorem rck_b3 (t u : ByteArray) (fx ar : Bool) (r1 c1 : Int) (x1 y1 : Bool) (r2 c2 : Int) (x2 y2 : Bool) (w : World) (ht : t.size ≤ 140737488355328) (hu : u.size ≤ 140737488355328) (hT : Tabs w) (e1 : t.toList.isEmpty = false) (s1 : shtF t = false) :
    Calls Tryd.prog 20 #[(.agg #[.string t, .string u, .bool fx, .bool ar, .int .i64 r1, .int .i64 c1, .bool x1, .bool y1, .int .i64 r2, .int .i64 c2, .bool x2, .bool y2])] w fun e w' => e = .returned (.int .i64 (chkF t u fx ar r1 c1 r2 c2 x2 y2)) ∧ Fr noB w w' := by
  have H1 := fun w h => rsheetName_any t w ht h
  have H2 := fun w h => rsheetName_any u w hu h
  have H3 := rcorner_any r1 c1 x1 y1
  have H4 := rcorner_any r2 c2 x2 y2
  obtain ⟨W0, hW0⟩ : ∃ W0, w.alloc (.cells #[.string t, .string u, .bool fx, .bool ar, .int .i64 r1, .int .i64 c1, .bool x1, .bool y1, .int .i64 r2, .int .i64 c2, .bool x2, .bool y2] 46 (0, 0)) = W0 := ⟨_, rfl⟩
  have hA0 : RAt W0 w.heap.size t u fx ar r1 c1 x1 y1 r2 c2 x2 y2 := ⟨by rw [← hW0]; exact heap_alloc_new w _⟩
  have hF0 : Fr noB w W0 := by rw [← hW0]; exact (Fr.refl noB w).alloc _
  have HT : Hid (∀ W, Fr noB w W → Tabs W) := fun W hW => hT.keep hW
  have HG : Hid (∀ W, Fr noB W0 W → RAt W w.heap.size t u fx ar r1 c1 x1 y1 r2 c2 x2 y2 ∧ Fr noB w W) := fun W hW => ⟨hA0.fr hW id, hF0.trans hW⟩
  have g0 := hA0.g0; have g1 := hA0.g1; have g2 := hA0.g2; have g3 := hA0.g3; have g4 := hA0.g4; have g5 := hA0.g5; have g6 := hA0.g6; have g7 := hA0.g7; have g8 := hA0.g8; have g9 := hA0.g9; have g10 := hA0.g10; have g11 := hA0.g11
  clear hA0 hF0 hT ht hu
  rw [chk_doc]
  unfold empB
  rw [e1]
  rw [s1] at H1 ⊢
  rw [if_pos (by simp)]
  go_enter Tryd.func20, Tryd.ntmps20
  go_wp2_with (first
    | (go_at_call 33; (with_reducible refine (H1 _ (HT.out _ (HG.out _ (by repeat first | assumption | exact Fr.refl _ _ | refine Fr.trans ?_ (by assumption))).2)).mono ?_); rintro e w1 ⟨rfl, hF1⟩; have hA1 := (HG.out w1 (by repeat first | assumption | exact Fr.refl _ _ | refine Fr.trans ?_ (by assumption))).1; have q10 := hA1.g0; have q11 := hA1.g1; have q12 := hA1.g2; have q13 := hA1.g3; have q14 := hA1.g4; have q15 := hA1.g5; have q16 := hA1.g6; have q17 := hA1.g7; have q18 := hA1.g8; have q19 := hA1.g9; have q110 := hA1.g10; have q111 := hA1.g11))
  go_ret
  exact ⟨rfl, (HG.out _ (by repeat first | assumption | exact Fr.refl _ _ | refine Fr.trans ?_ (by assumption))).2⟩
set_option maxRecDepth 100000 in
set_option maxHeartbeats 8000000 in
theorem rck_b4 (t u : ByteArray) (fx ar : Bool) (r1 c1 : Int) (x1 y1 : Bool) (r2 c2 : Int) (x2 y2 : Bool) (w : World) (ht : t.size ≤ 140737488355328) (hu : u.size ≤ 140737488355328) (hT : Tabs w) (e1 : t.toList.isEmpty = false) (s1 : shtF t = true) (e2 : u.toList.isEmpty = false) (s2 : shtF u = false) :
    Calls Tryd.prog 20 #[(.agg #[.string t, .string u, .bool fx, .bool ar, .int .i64 r1, .int .i64 c1, .bool x1, .bool y1, .int .i64 r2, .int .i64 c2, .bool x2, .bool y2])] w fun e w' => e = .returned (.int .i64 (chkF t u fx ar r1 c1 r2 c2 x2 y2)) ∧ Fr noB w w' := by
  have H1 := fun w h => rsheetName_any t w ht h
  have H2 := fun w h => rsheetName_any u w hu h
  have H3 := rcorner_any r1 c1 x1 y1
  have H4 := rcorner_any r2 c2 x2 y2
  obtain ⟨W0, hW0⟩ : ∃ W0, w.alloc (.cells #[.string t, .string u, .bool fx, .bool ar, .int .i64 r1, .int .i64 c1, .bool x1, .bool y1, .int .i64 r2, .int .i64 c2, .bool x2, .bool y2] 46 (0, 0)) = W0 := ⟨_, rfl⟩
  have hA0 : RAt W0 w.heap.size t u fx ar r1 c1 x1 y1 r2 c2 x2 y2 := ⟨by rw [← hW0]; exact heap_alloc_new w _⟩
  have hF0 : Fr noB w W0 := by rw [← hW0]; exact (Fr.refl noB w).alloc _
  have HT : Hid (∀ W, Fr noB w W → Tabs W) := fun W hW => hT.keep hW
  have HG : Hid (∀ W, Fr noB W0 W → RAt W w.heap.size t u fx ar r1 c1 x1 y1 r2 c2 x2 y2 ∧ Fr noB w W) := fun W hW => ⟨hA0.fr hW id, hF0.trans hW⟩
  have g0 := hA0.g0; have g1 := hA0.g1; have g2 := hA0.g2; have g3 := hA0.g3; have g4 := hA0.g4; have g5 := hA0.g5; have g6 := hA0.g6; have g7 := hA0.g7; have g8 := hA0.g8; have g9 := hA0.g9; have g10 := hA0.g10; have g11 := hA0.g11
  clear hA0 hF0 hT ht hu
  rw [chk_doc]
  unfold empB
  rw [e1]
  rw [s1] at H1 ⊢
  rw [e2]
  rw [s2] at H2 ⊢
  rw [if_pos (by simp)]
  go_enter Tryd.func20, Tryd.ntmps20
  go_wp2_with (first
    | (go_at_call 33; (with_reducible refine (H1 _ (HT.out _ (HG.out _ (by repeat first | assumption | exact Fr.refl _ _ | refine Fr.trans ?_ (by assumption))).2)).mono ?_); rintro e w1 ⟨rfl, hF1⟩; have hA1 := (HG.out w1 (by repeat first | assumption | exact Fr.refl _ _ | refine Fr.trans ?_ (by assumption))).1; have q10 := hA1.g0; have q11 := hA1.g1; have q12 := hA1.g2; have q13 := hA1.g3; have q14 := hA1.g4; have q15 := hA1.g5; have q16 := hA1.g6; have q17 := hA1.g7; have q18 := hA1.g8; have q19 := hA1.g9; have q110 := hA1.g10; have q111 := hA1.g11)
    | (go_at_call 33; (with_reducible refine (H2 _ (HT.out _ (HG.out _ (by repeat first | assumption | exact Fr.refl _ _ | refine Fr.trans ?_ (by assumption))).2)).mono ?_); rintro e w2 ⟨rfl, hF2⟩; have hA2 := (HG.out w2 (by repeat first | assumption | exact Fr.refl _ _ | refine Fr.trans ?_ (by assumption))).1; have q20 := hA2.g0; have q21 := hA2.g1; have q22 := hA2.g2; have q23 := hA2.g3; have q24 := hA2.g4; have q25 := hA2.g5; have q26 := hA2.g6; have q27 := hA2.g7; have q28 := hA2.g8; have q29 := hA2.g9; have q210 := hA2.g10; have q211 := hA2.g11))
  go_ret
  exact ⟨rfl, (HG.out _ (by repeat first | assumption | exact Fr.refl _ _ | refine Fr.trans ?_ (by assumption))).2⟩
set_option maxRecDepth 100000 in
set_option maxHeartbeats 8000000 in
theorem rck_g1 (t u : ByteArray) (fx ar : Bool) (r1 c1 : Int) (x1 y1 : Bool) (r2 c2 : Int) (x2 y2 : Bool) (w : World) (ht : t.size ≤ 140737488355328) (hu : u.size ≤ 140737488355328) (hT : Tabs w) (e1 : t.toList.isEmpty = true) (e2 : u.toList.isEmpty = true) (hf : fx = false) :
    Calls Tryd.prog 20 #[(.agg #[.string t, .string u, .bool fx, .bool ar, .int .i64 r1, .int .i64 c1, .bool x1, .bool y1, .int .i64 r2, .int .i64 c2, .bool x2, .bool y2])] w fun e w' => e = .returned (.int .i64 (chkF t u fx ar r1 c1 r2 c2 x2 y2)) ∧ Fr noB w w' := by
  have H1 := fun w h => rsheetName_any t w ht h
  have H2 := fun w h => rsheetName_any u w hu h
  have H3 := rcorner_any r1 c1 x1 y1
  have H4 := rcorner_any r2 c2 x2 y2
  obtain ⟨W0, hW0⟩ : ∃ W0, w.alloc (.cells #[.string t, .string u, .bool fx, .bool ar, .int .i64 r1, .int .i64 c1, .bool x1, .bool y1, .int .i64 r2, .int .i64 c2, .bool x2, .bool y2] 46 (0, 0)) = W0 := ⟨_, rfl⟩
  have hA0 : RAt W0 w.heap.size t u fx ar r1 c1 x1 y1 r2 c2 x2 y2 := ⟨by rw [← hW0]; exact heap_alloc_new w _⟩
  have hF0 : Fr noB w W0 := by rw [← hW0]; exact (Fr.refl noB w).alloc _
  have HT : Hid (∀ W, Fr noB w W → Tabs W) := fun W hW => hT.keep hW
  have HG : Hid (∀ W, Fr noB W0 W → RAt W w.heap.size t u fx ar r1 c1 x1 y1 r2 c2 x2 y2 ∧ Fr noB w W) := fun W hW => ⟨hA0.fr hW id, hF0.trans hW⟩
  have g0 := hA0.g0; have g1 := hA0.g1; have g2 := hA0.g2; have g3 := hA0.g3; have g4 := hA0.g4; have g5 := hA0.g5; have g6 := hA0.g6; have g7 := hA0.g7; have g8 := hA0.g8; have g9 := hA0.g9; have g10 := hA0.g10; have g11 := hA0.g11
  clear hA0 hF0 hT ht hu
  rw [chk_doc]
  unfold empB
  subst hf
  rw [e1]
  rw [e2]
  rw [if_neg (by simp)]
  generalize corB r1 c1 = KA at *
  generalize corB r2 c2 = KB at *
  cases KA with
  | false =>
    rw [if_pos (by simp)]
    go_enter Tryd.func20, Tryd.ntmps20
    go_wp2_with (first
      | (go_at_call 40; (with_reducible refine (H3 _).mono ?_); rintro e w3 ⟨rfl, hF3⟩; have hA3 := (HG.out w3 (by repeat first | assumption | exact Fr.refl _ _ | refine Fr.trans ?_ (by assumption))).1; have q30 := hA3.g0; have q31 := hA3.g1; have q32 := hA3.g2; have q33 := hA3.g3; have q34 := hA3.g4; have q35 := hA3.g5; have q36 := hA3.g6; have q37 := hA3.g7; have q38 := hA3.g8; have q39 := hA3.g9; have q310 := hA3.g10; have q311 := hA3.g11; clear H3))
    go_ret
    exact ⟨rfl, (HG.out _ (by repeat first | assumption | exact Fr.refl _ _ | refine Fr.trans ?_ (by assumption))).2⟩
  | true =>
    cases ar with
    | true =>
      cases KB with
      | false =>
        rw [if_pos (by simp)]
        go_enter Tryd.func20, Tryd.ntmps20
        go_wp2_with (first
          | (go_at_call 40; (with_reducible refine (H3 _).mono ?_); rintro e w3 ⟨rfl, hF3⟩; have hA3 := (HG.out w3 (by repeat first | assumption | exact Fr.refl _ _ | refine Fr.trans ?_ (by assumption))).1; have q30 := hA3.g0; have q31 := hA3.g1; have q32 := hA3.g2; have q33 := hA3.g3; have q34 := hA3.g4; have q35 := hA3.g5; have q36 := hA3.g6; have q37 := hA3.g7; have q38 := hA3.g8; have q39 := hA3.g9; have q310 := hA3.g10; have q311 := hA3.g11; clear H3)
          | (go_at_call 40; (with_reducible refine (H4 _).mono ?_); rintro e w4 ⟨rfl, hF4⟩; have hA4 := (HG.out w4 (by repeat first | assumption | exact Fr.refl _ _ | refine Fr.trans ?_ (by assumption))).1; have q40 := hA4.g0; have q41 := hA4.g1; have q42 := hA4.g2; have q43 := hA4.g3; have q44 := hA4.g4; have q45 := hA4.g5; have q46 := hA4.g6; have q47 := hA4.g7; have q48 := hA4.g8; have q49 := hA4.g9; have q410 := hA4.g10; have q411 := hA4.g11))
        go_ret
        exact ⟨rfl, (HG.out _ (by repeat first | assumption | exact Fr.refl _ _ | refine Fr.trans ?_ (by assumption))).2⟩
      | true =>
        rw [if_neg (by simp)]
        go_enter Tryd.func20, Tryd.ntmps20
        go_wp2_with (first
          | (go_at_call 40; (with_reducible refine (H3 _).mono ?_); rintro e w3 ⟨rfl, hF3⟩; have hA3 := (HG.out w3 (by repeat first | assumption | exact Fr.refl _ _ | refine Fr.trans ?_ (by assumption))).1; have q30 := hA3.g0; have q31 := hA3.g1; have q32 := hA3.g2; have q33 := hA3.g3; have q34 := hA3.g4; have q35 := hA3.g5; have q36 := hA3.g6; have q37 := hA3.g7; have q38 := hA3.g8; have q39 := hA3.g9; have q310 := hA3.g10; have q311 := hA3.g11; clear H3)
          | (go_at_call 40; (with_reducible refine (H4 _).mono ?_); rintro e w4 ⟨rfl, hF4⟩; have hA4 := (HG.out w4 (by repeat first | assumption | exact Fr.refl _ _ | refine Fr.trans ?_ (by assumption))).1; have q40 := hA4.g0; have q41 := hA4.g1; have q42 := hA4.g2; have q43 := hA4.g3; have q44 := hA4.g4; have q45 := hA4.g5; have q46 := hA4.g6; have q47 := hA4.g7; have q48 := hA4.g8; have q49 := hA4.g9; have q410 := hA4.g10; have q411 := hA4.g11))
        go_ret
        exact ⟨rfl, (HG.out _ (by repeat first | assumption | exact Fr.refl _ _ | refine Fr.trans ?_ (by assumption))).2⟩
    | false =>
      rcases zer_cases r2 c2 x2 y2 with ⟨hz, rfl, rfl, rfl, rfl⟩ | ⟨hz, hn⟩
      · rw [hz]
        rw [if_neg (by simp)]
        go_enter Tryd.func20, Tryd.ntmps20
        go_wp2_with (first
          | (go_at_call 40; (with_reducible refine (H3 _).mono ?_); rintro e w3 ⟨rfl, hF3⟩; have hA3 := (HG.out w3 (by repeat first | assumption | exact Fr.refl _ _ | refine Fr.trans ?_ (by assumption))).1; have q30 := hA3.g0; have q31 := hA3.g1; have q32 := hA3.g2; have q33 := hA3.g3; have q34 := hA3.g4; have q35 := hA3.g5; have q36 := hA3.g6; have q37 := hA3.g7; have q38 := hA3.g8; have q39 := hA3.g9; have q310 := hA3.g10; have q311 := hA3.g11; clear H3))
        go_ret
        exact ⟨rfl, (HG.out _ (by repeat first | assumption | exact Fr.refl _ _ | refine Fr.trans ?_ (by assumption))).2⟩
      · rw [hz, if_pos (by simp)]
        rcases hn with hn | ⟨rfl, hn⟩ | ⟨rfl, rfl, rfl⟩ | ⟨rfl, rfl, rfl, rfl⟩
        all_goals
          go_enter Tryd.func20, Tryd.ntmps20
          go_wp2_with (first
            | (go_at_call 40; (with_reducible refine (H3 _).mono ?_); rintro e w3 ⟨rfl, hF3⟩; have hA3 := (HG.out w3 (by repeat first | assumption | exact Fr.refl _ _ | refine Fr.trans ?_ (by assumption))).1; have q30 := hA3.g0; have q31 := hA3.g1; have q32 := hA3.g2; have q33 := hA3.g3; have q34 := hA3.g4; have q35 := hA3.g5; have q36 := hA3.g6; have q37 := hA3.g7; have q38 := hA3.g8; have q39 := hA3.g9; have q310 := hA3.g10; have q311 := hA3.g11; clear H3))
          go_ret
          exact ⟨rfl, (HG.out _ (by repeat first | assumption | exact Fr.refl _ _ | refine Fr.trans ?_ (by assumption))).2⟩
set_option maxRecDepth 100000 in
set_option maxHeartbeats 8000000 in
theorem rck_g2 (t u : ByteArray) (fx ar : Bool) (r1 c1 : Int) (x1 y1 : Bool) (r2 c2 : Int) (x2 y2 : Bool) (w : World) (ht : t.size ≤ 140737488355328) (hu : u.size ≤ 140737488355328) (hT : Tabs w) (e1 : t.toList.isEmpty = false) (s1 : shtF t = true) (e2 : u.toList.isEmpty = true) :
    Calls Tryd.prog 20 #[(.agg #[.string t, .string u, .bool fx, .bool ar, .int .i64 r1, .int .i64 c1, .bool x1, .bool y1, .int .i64 r2, .int .i64 c2, .bool x2, .bool y2])] w fun e w' => e = .returned (.int .i64 (chkF t u fx ar r1 c1 r2 c2 x2 y2)) ∧ Fr noB w w' := by
  have H1 := fun w h => rsheetName_any t w ht h
  have H2 := fun w h => rsheetName_any u w hu h
  have H3 := rcorner_any r1 c1 x1 y1
  have H4 := rcorner_any r2 c2 x2 y2
  obtain ⟨W0, hW0⟩ : ∃ W0, w.alloc (.cells #[.string t, .string u, .bool fx, .bool ar, .int .i64 r1, .int .i64 c1, .bool x1, .bool y1, .int .i64 r2, .int .i64 c2, .bool x2, .bool y2] 46 (0, 0)) = W0 := ⟨_, rfl⟩
  have hA0 : RAt W0 w.heap.size t u fx ar r1 c1 x1 y1 r2 c2 x2 y2 := ⟨by rw [← hW0]; exact heap_alloc_new w _⟩
  have hF0 : Fr noB w W0 := by rw [← hW0]; exact (Fr.refl noB w).alloc _
  have HT : Hid (∀ W, Fr noB w W → Tabs W) := fun W hW => hT.keep hW
  have HG : Hid (∀ W, Fr noB W0 W → RAt W w.heap.size t u fx ar r1 c1 x1 y1 r2 c2 x2 y2 ∧ Fr noB w W) := fun W hW => ⟨hA0.fr hW id, hF0.trans hW⟩
  have g0 := hA0.g0; have g1 := hA0.g1; have g2 := hA0.g2; have g3 := hA0.g3; have g4 := hA0.g4; have g5 := hA0.g5; have g6 := hA0.g6; have g7 := hA0.g7; have g8 := hA0.g8; have g9 := hA0.g9; have g10 := hA0.g10; have g11 := hA0.g11
  clear hA0 hF0 hT ht hu
  rw [chk_doc]
  unfold empB
  rw [e1]
  rw [s1] at H1 ⊢
  rw [e2]
  rw [if_neg (by simp)]
  generalize corB r1 c1 = KA at *
  generalize corB r2 c2 = KB at *
  cases KA with
  | false =>
    rw [if_pos (by simp)]
    go_enter Tryd.func20, Tryd.ntmps20
    go_wp2_with (first
      | (go_at_call 33; (with_reducible refine (H1 _ (HT.out _ (HG.out _ (by repeat first | assumption | exact Fr.refl _ _ | refine Fr.trans ?_ (by assumption))).2)).mono ?_); rintro e w1 ⟨rfl, hF1⟩; have hA1 := (HG.out w1 (by repeat first | assumption | exact Fr.refl _ _ | refine Fr.trans ?_ (by assumption))).1; have q10 := hA1.g0; have q11 := hA1.g1; have q12 := hA1.g2; have q13 := hA1.g3; have q14 := hA1.g4; have q15 := hA1.g5; have q16 := hA1.g6; have q17 := hA1.g7; have q18 := hA1.g8; have q19 := hA1.g9; have q110 := hA1.g10; have q111 := hA1.g11)
      | (go_at_call 40; (with_reducible refine (H3 _).mono ?_); rintro e w3 ⟨rfl, hF3⟩; have hA3 := (HG.out w3 (by repeat first | assumption | exact Fr.refl _ _ | refine Fr.trans ?_ (by assumption))).1; have q30 := hA3.g0; have q31 := hA3.g1; have q32 := hA3.g2; have q33 := hA3.g3; have q34 := hA3.g4; have q35 := hA3.g5; have q36 := hA3.g6; have q37 := hA3.g7; have q38 := hA3.g8; have q39 := hA3.g9; have q310 := hA3.g10; have q311 := hA3.g11; clear H3))
    go_ret
    exact ⟨rfl, (HG.out _ (by repeat first | assumption | exact Fr.refl _ _ | refine Fr.trans ?_ (by assumption))).2⟩
  | true =>
    cases ar with
    | true =>
      cases KB with
      | false =>
        rw [if_pos (by simp)]
        go_enter Tryd.func20, Tryd.ntmps20
        go_wp2_with (first
          | (go_at_call 33; (with_reducible refine (H1 _ (HT.out _ (HG.out _ (by repeat first | assumption | exact Fr.refl _ _ | refine Fr.trans ?_ (by assumption))).2)).mono ?_); rintro e w1 ⟨rfl, hF1⟩; have hA1 := (HG.out w1 (by repeat first | assumption | exact Fr.refl _ _ | refine Fr.trans ?_ (by assumption))).1; have q10 := hA1.g0; have q11 := hA1.g1; have q12 := hA1.g2; have q13 := hA1.g3; have q14 := hA1.g4; have q15 := hA1.g5; have q16 := hA1.g6; have q17 := hA1.g7; have q18 := hA1.g8; have q19 := hA1.g9; have q110 := hA1.g10; have q111 := hA1.g11)
          | (go_at_call 40; (with_reducible refine (H3 _).mono ?_); rintro e w3 ⟨rfl, hF3⟩; have hA3 := (HG.out w3 (by repeat first | assumption | exact Fr.refl _ _ | refine Fr.trans ?_ (by assumption))).1; have q30 := hA3.g0; have q31 := hA3.g1; have q32 := hA3.g2; have q33 := hA3.g3; have q34 := hA3.g4; have q35 := hA3.g5; have q36 := hA3.g6; have q37 := hA3.g7; have q38 := hA3.g8; have q39 := hA3.g9; have q310 := hA3.g10; have q311 := hA3.g11; clear H3)
          | (go_at_call 40; (with_reducible refine (H4 _).mono ?_); rintro e w4 ⟨rfl, hF4⟩; have hA4 := (HG.out w4 (by repeat first | assumption | exact Fr.refl _ _ | refine Fr.trans ?_ (by assumption))).1; have q40 := hA4.g0; have q41 := hA4.g1; have q42 := hA4.g2; have q43 := hA4.g3; have q44 := hA4.g4; have q45 := hA4.g5; have q46 := hA4.g6; have q47 := hA4.g7; have q48 := hA4.g8; have q49 := hA4.g9; have q410 := hA4.g10; have q411 := hA4.g11))
        go_ret
        exact ⟨rfl, (HG.out _ (by repeat first | assumption | exact Fr.refl _ _ | refine Fr.trans ?_ (by assumption))).2⟩
      | true =>
        rw [if_neg (by simp)]
        go_enter Tryd.func20, Tryd.ntmps20
        go_wp2_with (first
          | (go_at_call 33; (with_reducible refine (H1 _ (HT.out _ (HG.out _ (by repeat first | assumption | exact Fr.refl _ _ | refine Fr.trans ?_ (by assumption))).2)).mono ?_); rintro e w1 ⟨rfl, hF1⟩; have hA1 := (HG.out w1 (by repeat first | assumption | exact Fr.refl _ _ | refine Fr.trans ?_ (by assumption))).1; have q10 := hA1.g0; have q11 := hA1.g1; have q12 := hA1.g2; have q13 := hA1.g3; have q14 := hA1.g4; have q15 := hA1.g5; have q16 := hA1.g6; have q17 := hA1.g7; have q18 := hA1.g8; have q19 := hA1.g9; have q110 := hA1.g10; have q111 := hA1.g11)
          | (go_at_call 40; (with_reducible refine (H3 _).mono ?_); rintro e w3 ⟨rfl, hF3⟩; have hA3 := (HG.out w3 (by repeat first | assumption | exact Fr.refl _ _ | refine Fr.trans ?_ (by assumption))).1; have q30 := hA3.g0; have q31 := hA3.g1; have q32 := hA3.g2; have q33 := hA3.g3; have q34 := hA3.g4; have q35 := hA3.g5; have q36 := hA3.g6; have q37 := hA3.g7; have q38 := hA3.g8; have q39 := hA3.g9; have q310 := hA3.g10; have q311 := hA3.g11; clear H3)
          | (go_at_call 40; (with_reducible refine (H4 _).mono ?_); rintro e w4 ⟨rfl, hF4⟩; have hA4 := (HG.out w4 (by repeat first | assumption | exact Fr.refl _ _ | refine Fr.trans ?_ (by assumption))).1; have q40 := hA4.g0; have q41 := hA4.g1; have q42 := hA4.g2; have q43 := hA4.g3; have q44 := hA4.g4; have q45 := hA4.g5; have q46 := hA4.g6; have q47 := hA4.g7; have q48 := hA4.g8; have q49 := hA4.g9; have q410 := hA4.g10; have q411 := hA4.g11))
        go_ret
        exact ⟨rfl, (HG.out _ (by repeat first | assumption | exact Fr.refl _ _ | refine Fr.trans ?_ (by assumption))).2⟩
    | false =>
      rcases zer_cases r2 c2 x2 y2 with ⟨hz, rfl, rfl, rfl, rfl⟩ | ⟨hz, hn⟩
      · rw [hz]
        rw [if_neg (by simp)]
        go_enter Tryd.func20, Tryd.ntmps20
        go_wp2_with (first
          | (go_at_call 33; (with_reducible refine (H1 _ (HT.out _ (HG.out _ (by repeat first | assumption | exact Fr.refl _ _ | refine Fr.trans ?_ (by assumption))).2)).mono ?_); rintro e w1 ⟨rfl, hF1⟩; have hA1 := (HG.out w1 (by repeat first | assumption | exact Fr.refl _ _ | refine Fr.trans ?_ (by assumption))).1; have q10 := hA1.g0; have q11 := hA1.g1; have q12 := hA1.g2; have q13 := hA1.g3; have q14 := hA1.g4; have q15 := hA1.g5; have q16 := hA1.g6; have q17 := hA1.g7; have q18 := hA1.g8; have q19 := hA1.g9; have q110 := hA1.g10; have q111 := hA1.g11)
          | (go_at_call 40; (with_reducible refine (H3 _).mono ?_); rintro e w3 ⟨rfl, hF3⟩; have hA3 := (HG.out w3 (by repeat first | assumption | exact Fr.refl _ _ | refine Fr.trans ?_ (by assumption))).1; have q30 := hA3.g0; have q31 := hA3.g1; have q32 := hA3.g2; have q33 := hA3.g3; have q34 := hA3.g4; have q35 := hA3.g5; have q36 := hA3.g6; have q37 := hA3.g7; have q38 := hA3.g8; have q39 := hA3.g9; have q310 := hA3.g10; have q311 := hA3.g11; clear H3))
        go_ret
        exact ⟨rfl, (HG.out _ (by repeat first | assumption | exact Fr.refl _ _ | refine Fr.trans ?_ (by assumption))).2⟩
      · rw [hz, if_pos (by simp)]
        rcases hn with hn | ⟨rfl, hn⟩ | ⟨rfl, rfl, rfl⟩ | ⟨rfl, rfl, rfl, rfl⟩
        all_goals
          go_enter Tryd.func20, Tryd.ntmps20
          go_wp2_with (first
            | (go_at_call 33; (with_reducible refine (H1 _ (HT.out _ (HG.out _ (by repeat first | assumption | exact Fr.refl _ _ | refine Fr.trans ?_ (by assumption))).2)).mono ?_); rintro e w1 ⟨rfl, hF1⟩; have hA1 := (HG.out w1 (by repeat first | assumption | exact Fr.refl _ _ | refine Fr.trans ?_ (by assumption))).1; have q10 := hA1.g0; have q11 := hA1.g1; have q12 := hA1.g2; have q13 := hA1.g3; have q14 := hA1.g4; have q15 := hA1.g5; have q16 := hA1.g6; have q17 := hA1.g7; have q18 := hA1.g8; have q19 := hA1.g9; have q110 := hA1.g10; have q111 := hA1.g11)
            | (go_at_call 40; (with_reducible refine (H3 _).mono ?_); rintro e w3 ⟨rfl, hF3⟩; have hA3 := (HG.out w3 (by repeat first | assumption | exact Fr.refl _ _ | refine Fr.trans ?_ (by assumption))).1; have q30 := hA3.g0; have q31 := hA3.g1; have q32 := hA3.g2; have q33 := hA3.g3; have q34 := hA3.g4; have q35 := hA3.g5; have q36 := hA3.g6; have q37 := hA3.g7; have q38 := hA3.g8; have q39 := hA3.g9; have q310 := hA3.g10; have q311 := hA3.g11; clear H3))
          go_ret
          exact ⟨rfl, (HG.out _ (by repeat first | assumption | exact Fr.refl _ _ | refine Fr.trans ?_ (by assumption))).2⟩
set_option maxRecDepth 100000 in
set_option maxHeartbeats 8000000 in
theorem rck_g3 (t u : ByteArray) (fx ar : Bool) (r1 c1 : Int) (x1 y1 : Bool) (r2 c2 : Int) (x2 y2 : Bool) (w : World) (ht : t.size ≤ 140737488355328) (hu : u.size ≤ 140737488355328) (hT : Tabs w) (e1 : t.toList.isEmpty = false) (s1 : shtF t = true) (e2 : u.toList.isEmpty = false) (s2 : shtF u = true) :
    Calls Tryd.prog 20 #[(.agg #[.string t, .string u, .bool fx, .bool ar, .int .i64 r1, .int .i64 c1, .bool x1, .bool y1, .int .i64 r2, .int .i64 c2, .bool x2, .bool y2])] w fun e w' => e = .returned (.int .i64 (chkF t u fx ar r1 c1 r2 c2 x2 y2)) ∧ Fr noB w w' := by
  have H1 := fun w h => rsheetName_any t w ht h
  have H2 := fun w h => rsheetName_any u w hu h
  have H3 := rcorner_any r1 c1 x1 y1
  have H4 := rcorner_any r2 c2 x2 y2
  obtain ⟨W0, hW0⟩ : ∃ W0, w.alloc (.cells #[.string t, .string u, .bool fx, .bool ar, .int .i64 r1, .int .i64 c1, .bool x1, .bool y1, .int .i64 r2, .int .i64 c2, .bool x2, .bool y2] 46 (0, 0)) = W0 := ⟨_, rfl⟩
  have hA0 : RAt W0 w.heap.size t u fx ar r1 c1 x1 y1 r2 c2 x2 y2 := ⟨by rw [← hW0]; exact heap_alloc_new w _⟩
  have hF0 : Fr noB w W0 := by rw [← hW0]; exact (Fr.refl noB w).alloc _
  have HT : Hid (∀ W, Fr noB w W → Tabs W) := fun W hW => hT.keep hW
  have HG : Hid (∀ W, Fr noB W0 W → RAt W w.heap.size t u fx ar r1 c1 x1 y1 r2 c2 x2 y2 ∧ Fr noB w W) := fun W hW => ⟨hA0.fr hW id, hF0.trans hW⟩
  have g0 := hA0.g0; have g1 := hA0.g1; have g2 := hA0.g2; have g3 := hA0.g3; have g4 := hA0.g4; have g5 := hA0.g5; have g6 := hA0.g6; have g7 := hA0.g7; have g8 := hA0.g8; have g9 := hA0.g9; have g10 := hA0.g10; have g11 := hA0.g11
  clear hA0 hF0 hT ht hu
  rw [chk_doc]
  unfold empB
  rw [e1]
  rw [s1] at H1 ⊢
  rw [e2]
  rw [s2] at H2 ⊢
  rw [if_neg (by simp)]
  generalize corB r1 c1 = KA at *
  generalize corB r2 c2 = KB at *
  cases KA with
  | false =>
    rw [if_pos (by simp)]
    go_enter Tryd.func20, Tryd.ntmps20
    go_wp2_with (first
      | (go_at_call 33; (with_reducible refine (H1 _ (HT.out _ (HG.out _ (by repeat first | assumption | exact Fr.refl _ _ | refine Fr.trans ?_ (by assumption))).2)).mono ?_); rintro e w1 ⟨rfl, hF1⟩; have hA1 := (HG.out w1 (by repeat first | assumption | exact Fr.refl _ _ | refine Fr.trans ?_ (by assumption))).1; have q10 := hA1.g0; have q11 := hA1.g1; have q12 := hA1.g2; have q13 := hA1.g3; have q14 := hA1.g4; have q15 := hA1.g5; have q16 := hA1.g6; have q17 := hA1.g7; have q18 := hA1.g8; have q19 := hA1.g9; have q110 := hA1.g10; have q111 := hA1.g11)
      | (go_at_call 33; (with_reducible refine (H2 _ (HT.out _ (HG.out _ (by repeat first | assumption | exact Fr.refl _ _ | refine Fr.trans ?_ (by assumption))).2)).mono ?_); rintro e w2 ⟨rfl, hF2⟩; have hA2 := (HG.out w2 (by repeat first | assumption | exact Fr.refl _ _ | refine Fr.trans ?_ (by assumption))).1; have q20 := hA2.g0; have q21 := hA2.g1; have q22 := hA2.g2; have q23 := hA2.g3; have q24 := hA2.g4; have q25 := hA2.g5; have q26 := hA2.g6; have q27 := hA2.g7; have q28 := hA2.g8; have q29 := hA2.g9; have q210 := hA2.g10; have q211 := hA2.g11)
      | (go_at_call 40; (with_reducible refine (H3 _).mono ?_); rintro e w3 ⟨rfl, hF3⟩; have hA3 := (HG.out w3 (by repeat first | assumption | exact Fr.refl _ _ | refine Fr.trans ?_ (by assumption))).1; have q30 := hA3.g0; have q31 := hA3.g1; have q32 := hA3.g2; have q33 := hA3.g3; have q34 := hA3.g4; have q35 := hA3.g5; have q36 := hA3.g6; have q37 := hA3.g7; have q38 := hA3.g8; have q39 := hA3.g9; have q310 := hA3.g10; have q311 := hA3.g11; clear H3))
    go_ret
    exact ⟨rfl, (HG.out _ (by repeat first | assumption | exact Fr.refl _ _ | refine Fr.trans ?_ (by assumption))).2⟩
  | true =>
    cases ar with
    | true =>
      cases KB with
      | false =>
        rw [if_pos (by simp)]
        go_enter Tryd.func20, Tryd.ntmps20
        go_wp2_with (first
          | (go_at_call 33; (with_reducible refine (H1 _ (HT.out _ (HG.out _ (by repeat first | assumption | exact Fr.refl _ _ | refine Fr.trans ?_ (by assumption))).2)).mono ?_); rintro e w1 ⟨rfl, hF1⟩; have hA1 := (HG.out w1 (by repeat first | assumption | exact Fr.refl _ _ | refine Fr.trans ?_ (by assumption))).1; have q10 := hA1.g0; have q11 := hA1.g1; have q12 := hA1.g2; have q13 := hA1.g3; have q14 := hA1.g4; have q15 := hA1.g5; have q16 := hA1.g6; have q17 := hA1.g7; have q18 := hA1.g8; have q19 := hA1.g9; have q110 := hA1.g10; have q111 := hA1.g11)
          | (go_at_call 33; (with_reducible refine (H2 _ (HT.out _ (HG.out _ (by repeat first | assumption | exact Fr.refl _ _ | refine Fr.trans ?_ (by assumption))).2)).mono ?_); rintro e w2 ⟨rfl, hF2⟩; have hA2 := (HG.out w2 (by repeat first | assumption | exact Fr.refl _ _ | refine Fr.trans ?_ (by assumption))).1; have q20 := hA2.g0; have q21 := hA2.g1; have q22 := hA2.g2; have q23 := hA2.g3; have q24 := hA2.g4; have q25 := hA2.g5; have q26 := hA2.g6; have q27 := hA2.g7; have q28 := hA2.g8; have q29 := hA2.g9; have q210 := hA2.g10; have q211 := hA2.g11)
          | (go_at_call 40; (with_reducible refine (H3 _).mono ?_); rintro e w3 ⟨rfl, hF3⟩; have hA3 := (HG.out w3 (by repeat first | assumption | exact Fr.refl _ _ | refine Fr.trans ?_ (by assumption))).1; have q30 := hA3.g0; have q31 := hA3.g1; have q32 := hA3.g2; have q33 := hA3.g3; have q34 := hA3.g4; have q35 := hA3.g5; have q36 := hA3.g6; have q37 := hA3.g7; have q38 := hA3.g8; have q39 := hA3.g9; have q310 := hA3.g10; have q311 := hA3.g11; clear H3)
          | (go_at_call 40; (with_reducible refine (H4 _).mono ?_); rintro e w4 ⟨rfl, hF4⟩; have hA4 := (HG.out w4 (by repeat first | assumption | exact Fr.refl _ _ | refine Fr.trans ?_ (by assumption))).1; have q40 := hA4.g0; have q41 := hA4.g1; have q42 := hA4.g2; have q43 := hA4.g3; have q44 := hA4.g4; have q45 := hA4.g5; have q46 := hA4.g6; have q47 := hA4.g7; have q48 := hA4.g8; have q49 := hA4.g9; have q410 := hA4.g10; have q411 := hA4.g11))
        go_ret
        exact ⟨rfl, (HG.out _ (by repeat first | assumption | exact Fr.refl _ _ | refine Fr.trans ?_ (by assumption))).2⟩
      | true =>
        rw [if_neg (by simp)]
        go_enter Tryd.func20, Tryd.ntmps20
        go_wp2_with (first
          | (go_at_call 33; (with_reducible refine (H1 _ (HT.out _ (HG.out _ (by repeat first | assumption | exact Fr.refl _ _ | refine Fr.trans ?_ (by assumption))).2)).mono ?_); rintro e w1 ⟨rfl, hF1⟩; have hA1 := (HG.out w1 (by repeat first | assumption | exact Fr.refl _ _ | refine Fr.trans ?_ (by assumption))).1; have q10 := hA1.g0; have q11 := hA1.g1; have q12 := hA1.g2; have q13 := hA1.g3; have q14 := hA1.g4; have q15 := hA1.g5; have q16 := hA1.g6; have q17 := hA1.g7; have q18 := hA1.g8; have q19 := hA1.g9; have q110 := hA1.g10; have q111 := hA1.g11)
          | (go_at_call 33; (with_reducible refine (H2 _ (HT.out _ (HG.out _ (by repeat first | assumption | exact Fr.refl _ _ | refine Fr.trans ?_ (by assumption))).2)).mono ?_); rintro e w2 ⟨rfl, hF2⟩; have hA2 := (HG.out w2 (by repeat first | assumption | exact Fr.refl _ _ | refine Fr.trans ?_ (by assumption))).1; have q20 := hA2.g0; have q21 := hA2.g1; have q22 := hA2.g2; have q23 := hA2.g3; have q24 := hA2.g4; have q25 := hA2.g5; have q26 := hA2.g6; have q27 := hA2.g7; have q28 := hA2.g8; have q29 := hA2.g9; have q210 := hA2.g10; have q211 := hA2.g11)
          | (go_at_call 40; (with_reducible refine (H3 _).mono ?_); rintro e w3 ⟨rfl, hF3⟩; have hA3 := (HG.out w3 (by repeat first | assumption | exact Fr.refl _ _ | refine Fr.trans ?_ (by assumption))).1; have q30 := hA3.g0; have q31 := hA3.g1; have q32 := hA3.g2; have q33 := hA3.g3; have q34 := hA3.g4; have q35 := hA3.g5; have q36 := hA3.g6; have q37 := hA3.g7; have q38 := hA3.g8; have q39 := hA3.g9; have q310 := hA3.g10; have q311 := hA3.g11; clear H3)
          | (go_at_call 40; (with_reducible refine (H4 _).mono ?_); rintro e w4 ⟨rfl, hF4⟩; have hA4 := (HG.out w4 (by repeat first | assumption | exact Fr.refl _ _ | refine Fr.trans ?_ (by assumption))).1; have q40 := hA4.g0; have q41 := hA4.g1; have q42 := hA4.g2; have q43 := hA4.g3; have q44 := hA4.g4; have q45 := hA4.g5; have q46 := hA4.g6; have q47 := hA4.g7; have q48 := hA4.g8; have q49 := hA4.g9; have q410 := hA4.g10; have q411 := hA4.g11))
        go_ret
        exact ⟨rfl, (HG.out _ (by repeat first | assumption | exact Fr.refl _ _ | refine Fr.trans ?_ (by assumption))).2⟩
    | false =>
      rcases zer_cases r2 c2 x2 y2 with ⟨hz, rfl, rfl, rfl, rfl⟩ | ⟨hz, hn⟩
      · rw [hz]
        rw [if_pos (by simp)]
        go_enter Tryd.func20, Tryd.ntmps20
        go_wp2_with (first
          | (go_at_call 33; (with_reducible refine (H1 _ (HT.out _ (HG.out _ (by repeat first | assumption | exact Fr.refl _ _ | refine Fr.trans ?_ (by assumption))).2)).mono ?_); rintro e w1 ⟨rfl, hF1⟩; have hA1 := (HG.out w1 (by repeat first | assumption | exact Fr.refl _ _ | refine Fr.trans ?_ (by assumption))).1; have q10 := hA1.g0; have q11 := hA1.g1; have q12 := hA1.g2; have q13 := hA1.g3; have q14 := hA1.g4; have q15 := hA1.g5; have q16 := hA1.g6; have q17 := hA1.g7; have q18 := hA1.g8; have q19 := hA1.g9; have q110 := hA1.g10; have q111 := hA1.g11)
          | (go_at_call 33; (with_reducible refine (H2 _ (HT.out _ (HG.out _ (by repeat first | assumption | exact Fr.refl _ _ | refine Fr.trans ?_ (by assumption))).2)).mono ?_); rintro e w2 ⟨rfl, hF2⟩; have hA2 := (HG.out w2 (by repeat first | assumption | exact Fr.refl _ _ | refine Fr.trans ?_ (by assumption))).1; have q20 := hA2.g0; have q21 := hA2.g1; have q22 := hA2.g2; have q23 := hA2.g3; have q24 := hA2.g4; have q25 := hA2.g5; have q26 := hA2.g6; have q27 := hA2.g7; have q28 := hA2.g8; have q29 := hA2.g9; have q210 := hA2.g10; have q211 := hA2.g11)
          | (go_at_call 40; (with_reducible refine (H3 _).mono ?_); rintro e w3 ⟨rfl, hF3⟩; have hA3 := (HG.out w3 (by repeat first | assumption | exact Fr.refl _ _ | refine Fr.trans ?_ (by assumption))).1; have q30 := hA3.g0; have q31 := hA3.g1; have q32 := hA3.g2; have q33 := hA3.g3; have q34 := hA3.g4; have q35 := hA3.g5; have q36 := hA3.g6; have q37 := hA3.g7; have q38 := hA3.g8; have q39 := hA3.g9; have q310 := hA3.g10; have q311 := hA3.g11; clear H3))
        go_ret
        exact ⟨rfl, (HG.out _ (by repeat first | assumption | exact Fr.refl _ _ | refine Fr.trans ?_ (by assumption))).2⟩
      · rw [hz, if_pos (by simp)]
        rcases hn with hn | ⟨rfl, hn⟩ | ⟨rfl, rfl, rfl⟩ | ⟨rfl, rfl, rfl, rfl⟩
        all_goals
          go_enter Tryd.func20, Tryd.ntmps20
          go_wp2_with (first
            | (go_at_call 33; (with_reducible refine (H1 _ (HT.out _ (HG.out _ (by repeat first | assumption | exact Fr.refl _ _ | refine Fr.trans ?_ (by assumption))).2)).mono ?_); rintro e w1 ⟨rfl, hF1⟩; have hA1 := (HG.out w1 (by repeat first | assumption | exact Fr.refl _ _ | refine Fr.trans ?_ (by assumption))).1; have q10 := hA1.g0; have q11 := hA1.g1; have q12 := hA1.g2; have q13 := hA1.g3; have q14 := hA1.g4; have q15 := hA1.g5; have q16 := hA1.g6; have q17 := hA1.g7; have q18 := hA1.g8; have q19 := hA1.g9; have q110 := hA1.g10; have q111 := hA1.g11)
            | (go_at_call 33; (with_reducible refine (H2 _ (HT.out _ (HG.out _ (by repeat first | assumption | exact Fr.refl _ _ | refine Fr.trans ?_ (by assumption))).2)).mono ?_); rintro e w2 ⟨rfl, hF2⟩; have hA2 := (HG.out w2 (by repeat first | assumption | exact Fr.refl _ _ | refine Fr.trans ?_ (by assumption))).1; have q20 := hA2.g0; have q21 := hA2.g1; have q22 := hA2.g2; have q23 := hA2.g3; have q24 := hA2.g4; have q25 := hA2.g5; have q26 := hA2.g6; have q27 := hA2.g7; have q28 := hA2.g8; have q29 := hA2.g9; have q210 := hA2.g10; have q211 := hA2.g11)
            | (go_at_call 40; (with_reducible refine (H3 _).mono ?_); rintro e w3 ⟨rfl, hF3⟩; have hA3 := (HG.out w3 (by repeat first | assumption | exact Fr.refl _ _ | refine Fr.trans ?_ (by assumption))).1; have q30 := hA3.g0; have q31 := hA3.g1; have q32 := hA3.g2; have q33 := hA3.g3; have q34 := hA3.g4; have q35 := hA3.g5; have q36 := hA3.g6; have q37 := hA3.g7; have q38 := hA3.g8; have q39 := hA3.g9; have q310 := hA3.g10; have q311 := hA3.g11; clear H3))
          go_ret
          exact ⟨rfl, (HG.out _ (by repeat first | assumption | exact Fr.refl _ _ | refine Fr.trans ?_ (by assumption))).2⟩
theorem rcheck_any (t u : ByteArray) (fx ar : Bool) (r1 c1 : Int) (x1 y1 : Bool) (r2 c2 : Int) (x2 y2 : Bool) (w : World) (ht : t.size ≤ 140737488355328) (hu : u.size ≤ 140737488355328) (hT : Tabs w) :
    Calls Tryd.prog 20 #[(.agg #[.string t, .string u, .bool fx, .bool ar, .int .i64 r1, .int .i64 c1, .bool x1, .bool y1, .int .i64 r2, .int .i64 c2, .bool x2, .bool y2])] w fun e w' => e = .returned (.int .i64 (chkF t u fx ar r1 c1 r2 c2 x2 y2)) ∧ Fr noB w w' := by
  cases e1 : t.toList.isEmpty with
  | true =>
    cases e2 : u.toList.isEmpty with
    | true =>
      cases hf : fx with
      | true => exact rck_b1 t u true ar r1 c1 x1 y1 r2 c2 x2 y2 w ht hu hT e1 e2 rfl
      | false => exact rck_g1 t u false ar r1 c1 x1 y1 r2 c2 x2 y2 w ht hu hT e1 e2 rfl
    | false => exact rck_b2 t u fx ar r1 c1 x1 y1 r2 c2 x2 y2 w ht hu hT e1 e2
  | false =>
    cases s1 : shtF t with
    | false => exact rck_b3 t u fx ar r1 c1 x1 y1 r2 c2 x2 y2 w ht hu hT e1 s1
    | true =>
      cases e2 : u.toList.isEmpty with
      | true => exact rck_g2 t u fx ar r1 c1 x1 y1 r2 c2 x2 y2 w ht hu hT e1 s1 e2
      | false =>
        cases s2 : shtF u with
        | false => exact rck_b4 t u fx ar r1 c1 x1 y1 r2 c2 x2 y2 w ht hu hT e1 s1 e2 s2
        | true => exact rck_g3 t u fx ar r1 c1 x1 y1 r2 c2 x2 y2 w ht hu hT e1 s1 e2 s2
#print axioms rcheck_any
end Go.Proofs.YthokhnbecgkpbaaDoor
