/- Quote of the document; RefsNames: the law's walk. -/
import Derived.Test.YtdmjbhbiehjelaaGreatDoorRRfN
import Derived.Test.YtdmjbhbiehjelaaGreatDoorREnd
namespace Go.Proofs.YtdmjbhbiehjelaaGreatDoor
open Go.RowKit Go.Shelf

set_option maxRecDepth 100000 in
set_option maxHeartbeats 2000000 in
theorem rquote_any (s : ByteArray) (w : World) (hs : s.size ≤ 140737488355328) (hT : Tabs w) : Calls Tryz.prog 61 #[.string s] w fun e w' => e = .returned (.tuple #[.string (quoF s), .int .i64 (quoE s)]) ∧ Fr noB w w' := by
  have H1 := rsheetName_any s w hs hT
  have H2 := fun w => rplain_any s w hs
  clear hT
  unfold quoE
  cases hs1 : shtF s with
  | false =>
    rw [hs1] at H1
    rw [quoF_no s hs1, if_neg (by simp)]
    clear hs1
    go_enter Tryz.func61, Tryz.ntmps61
    go_wp2_with (go_at_call 91; refine H1.mono ?_; rintro e w1 ⟨rfl, hF1⟩)
    go_ret2
    exact ⟨rfl, hF1⟩
  | true =>
    rw [hs1] at H1
    rw [if_pos rfl]
    have hz := shtF_size hs1
    cases hw : wrdF s with
    | true =>
      rw [quo_plain hs1 hw]
      rw [hw] at H2
      clear hs1 hw
      go_enter Tryz.func61, Tryz.ntmps61
      go_wp2_with (first | (go_at_call 91; refine H1.mono ?_; rintro e w1 ⟨rfl, hF1⟩) | (go_at_call 93; refine (H2 _).mono ?_; rintro e w2 ⟨rfl, rfl⟩))
      go_ret2
      exact ⟨rfl, hF1⟩
    | false =>
      have HE : Hid (quoF s = (⟨#[39]⟩ : ByteArray) ++ s ++ ⟨#[39]⟩) := by
        show quoF s = _
        rw [quote_join]
        exact quo_quoted hs1 hw
      rw [hw] at H2
      have z1 : (⟨#[39]⟩ : ByteArray).size = 1 := rfl
      clear hs1 hw
      go_enter Tryz.func61, Tryz.ntmps61
      go_wp2_with (first | (go_at_call 91; refine H1.mono ?_; rintro e w1 ⟨rfl, hF1⟩) | (go_at_call 93; refine (H2 _).mono ?_; rintro e w2 ⟨rfl, rfl⟩))
      go_ret2
      rw [HE.out]
      exact ⟨rfl, hF1⟩
end Go.Proofs.YtdmjbhbiehjelaaGreatDoor
/- Check: the program's contract and the document's. -/
namespace Go.Proofs.YtdmjbhbiehjelaaGreatDoor
open Go.RowKit Go.Shelf

/-- May a corner be? -/
def corB (r c : Int) : Bool := decide (0 ≤ r) && decide (r < 1048576) && (decide (0 ≤ c ∧ c < 1024))
def empB (t : ByteArray) : Bool := t.toList.isEmpty
/-- Is a corner zero? -/
def zerB (r c : Int) (x y : Bool) : Bool := decide (r = 0) && decide (c = 0) && !x && !y
def shsB (t u : ByteArray) (fx : Bool) : Bool := if empB t = true then empB u && !fx else shtF t && (empB u || shtF u)
def corsB (ar : Bool) (r1 c1 r2 c2 : Int) (x2 y2 : Bool) : Bool := if (!ar && !(zerB r2 c2 x2 y2)) = true then false else corB r1 c1 && corB r2 c2
/-- What Check answers. -/
def chkF (t u : ByteArray) (fx ar : Bool) (r1 c1 r2 c2 : Int) (x2 y2 : Bool) : Int :=
  if shsB t u fx = false then 111 else if (!(corsB ar r1 c1 r2 c2 x2 y2) || (!(empB u) && !ar)) = true then 110 else 0

set_option maxRecDepth 100000 in
set_option maxHeartbeats 2000000 in
theorem cornerFits_any (r c : Int) (x y : Bool) (w : World) : Calls Tryz.prog 146 #[(.agg #[.int .i64 r, .int .i64 c, .bool x, .bool y])] w fun e w' => e = .returned (.bool (corB r c)) ∧ Fr noB w w' := by
  have HI := isCol_any c
  unfold corB
  by_cases h1 : 0 ≤ r
  · by_cases h2 : r < 1048576
    · rw [decide_eq_true h1, decide_eq_true h2]
      generalize decide (0 ≤ c ∧ c < 1024) = D at *
      go_enter Tryz.func146, Tryz.ntmps146
      go_wp2_with (go_at_call 180; refine (HI _).mono ?_; rintro e w1 ⟨rfl, rfl⟩)
      go_ret
      exact ⟨ret_bool_r (by simp), (Fr.refl noB w).alloc _⟩
    · rw [decide_eq_true h1, decide_eq_false h2]
      go_enter Tryz.func146, Tryz.ntmps146
      go_wp2_with fail
      go_ret
      exact ⟨ret_bool_r (by simp), (Fr.refl noB w).alloc _⟩
  · rw [decide_eq_false h1]
    go_enter Tryz.func146, Tryz.ntmps146
    go_wp2_with fail
    go_ret
    exact ⟨ret_bool_r (by simp), (Fr.refl noB w).alloc _⟩
set_option maxRecDepth 100000 in
set_option maxHeartbeats 2000000 in
theorem rcorner_any (r c : Int) (x y : Bool) (w : World) : Calls Tryz.prog 92 #[(.agg #[.int .i64 r, .int .i64 c, .bool x, .bool y])] w fun e w' => e = .returned (.bool (corB r c)) ∧ Fr noB w w' := by
  unfold corB
  go_enter Tryz.func92, Tryz.ntmps92
  go_wp2_with fail
  all_goals
    go_ret
    exact ⟨ret_bool_r (by rw [Bool.eq_iff_iff]; simp; try omega), (Fr.refl noB w).alloc _⟩
set_option maxRecDepth 100000 in
set_option maxHeartbeats 4000000 in
theorem sheetsFit_any (t u : ByteArray) (fx ar : Bool) (r1 c1 : Int) (x1 y1 : Bool) (r2 c2 : Int) (x2 y2 : Bool) (w : World) :
    Calls Tryz.prog 111 #[(.agg #[.string t, .string u, .bool fx, .bool ar, .int .i64 r1, .int .i64 c1, .bool x1, .bool y1, .int .i64 r2, .int .i64 c2, .bool x2, .bool y2])] w fun e w' => e = .returned (.bool (shsB t u fx)) ∧ Fr noB w w' := by
  have H1 := sheetName_any t
  have H2 := sheetName_any u
  obtain ⟨W0, hW0⟩ : ∃ W0, w.alloc (.cells #[.string t, .string u, .bool fx, .bool ar, .int .i64 r1, .int .i64 c1, .bool x1, .bool y1, .int .i64 r2, .int .i64 c2, .bool x2, .bool y2] 26 (0, 0)) = W0 := ⟨_, rfl⟩
  have hA0 : RAt W0 w.heap.size t u fx ar r1 c1 x1 y1 r2 c2 x2 y2 := ⟨by rw [← hW0]; exact heap_alloc_new w _⟩
  have hF0 : Fr noB w W0 := by rw [← hW0]; exact (Fr.refl noB w).alloc _
  have g0 := hA0.g0; have g1 := hA0.g1; have g2 := hA0.g2
  have HA : Hid _ := hA0
  have HF : Hid _ := hF0
  unfold shsB empB
  clear hA0 hF0
  cases ht : t.toList.isEmpty with
  | true =>
    cases hu : u.toList.isEmpty <;> cases fx
    all_goals
      go_enter Tryz.func111, Tryz.ntmps111
      go_wp2_with fail
      go_ret
      exact ⟨rfl, HF.out⟩
  | false =>
    cases hs : shtF t with
    | false =>
      rw [hs] at H1
      go_enter Tryz.func111, Tryz.ntmps111
      go_wp2_with (go_at_call 145; (with_reducible refine (H1 _).mono ?_); rintro e w1 ⟨rfl, hF1⟩)
      go_ret
      exact ⟨rfl, HF.out.trans hF1⟩
    | true =>
      rw [hs] at H1
      cases hu : u.toList.isEmpty with
      | true =>
        go_enter Tryz.func111, Tryz.ntmps111
        go_wp2_with (go_at_call 145; (with_reducible refine (H1 _).mono ?_); rintro e w1 ⟨rfl, hF1⟩; have k1 := (HA.out.fr hF1 id).g1)
        go_ret
        exact ⟨rfl, HF.out.trans hF1⟩
      | false =>
        generalize shtF u = SU at *
        go_enter Tryz.func111, Tryz.ntmps111
        go_wp2_with (first
          | (go_at_call 145; (with_reducible refine (H1 _).mono ?_); rintro e w1 ⟨rfl, hF1⟩; have k1 := (HA.out.fr hF1 id).g1)
          | (go_at_call 145; (with_reducible refine (H2 _).mono ?_); rintro e w2 ⟨rfl, hF2⟩))
        go_ret
        exact ⟨ret_bool_r (by simp), (HF.out.trans hF1).trans hF2⟩

theorem zer_cases (r c : Int) (x y : Bool) : (zerB r c x y = true ∧ r = 0 ∧ c = 0 ∧ x = false ∧ y = false) ∨ (zerB r c x y = false ∧ (¬ r = 0 ∨ (r = 0 ∧ ¬ c = 0) ∨ (r = 0 ∧ c = 0 ∧ x = true) ∨ (r = 0 ∧ c = 0 ∧ x = false ∧ y = true))) := by
  unfold zerB
  by_cases h1 : r = 0
  · by_cases h2 : c = 0
    · cases x <;> cases y <;> simp [h1, h2]
    · right; simp [h1, h2]
  · right; simp [h1]
set_option maxRecDepth 100000 in
set_option maxHeartbeats 4000000 in
theorem cornersFit_any (t u : ByteArray) (fx ar : Bool) (r1 c1 : Int) (x1 y1 : Bool) (r2 c2 : Int) (x2 y2 : Bool) (w : World) :
    Calls Tryz.prog 112 #[(.agg #[.string t, .string u, .bool fx, .bool ar, .int .i64 r1, .int .i64 c1, .bool x1, .bool y1, .int .i64 r2, .int .i64 c2, .bool x2, .bool y2])] w fun e w' => e = .returned (.bool (corsB ar r1 c1 r2 c2 x2 y2)) ∧ Fr noB w w' := by
  have H1 := cornerFits_any r1 c1 x1 y1
  have H2 := cornerFits_any r2 c2 x2 y2
  obtain ⟨W0, hW0⟩ : ∃ W0, w.alloc (.cells #[.string t, .string u, .bool fx, .bool ar, .int .i64 r1, .int .i64 c1, .bool x1, .bool y1, .int .i64 r2, .int .i64 c2, .bool x2, .bool y2] 26 (0, 0)) = W0 := ⟨_, rfl⟩
  have hA0 : RAt W0 w.heap.size t u fx ar r1 c1 x1 y1 r2 c2 x2 y2 := ⟨by rw [← hW0]; exact heap_alloc_new w _⟩
  have hF0 : Fr noB w W0 := by rw [← hW0]; exact (Fr.refl noB w).alloc _
  have g3 := hA0.g3; have g4 := hA0.g4; have g5 := hA0.g5; have g6 := hA0.g6; have g7 := hA0.g7; have g8 := hA0.g8; have g9 := hA0.g9; have g10 := hA0.g10; have g11 := hA0.g11
  have HA : Hid _ := hA0
  have HF : Hid _ := hF0
  unfold corsB
  clear hA0 hF0
  generalize corB r1 c1 = KA at *
  generalize corB r2 c2 = KB at *
  cases ar with
  | true =>
    rw [if_neg (by simp)]
    cases KA with
    | true =>
      go_enter Tryz.func112, Tryz.ntmps112
      go_wp2_with (first
        | (go_at_call 146; (with_reducible refine (H1 _).mono ?_); rintro e w1 ⟨rfl, hF1⟩; have hA1 := HA.out.fr hF1 id; have k8 := hA1.g8; have k9 := hA1.g9; have k10 := hA1.g10; have k11 := hA1.g11; clear H1)
        | (go_at_call 146; (with_reducible refine (H2 _).mono ?_); rintro e w2 ⟨rfl, hF2⟩))
      go_ret
      exact ⟨ret_bool_r (by simp), (HF.out.trans hF1).trans hF2⟩
    | false =>
      go_enter Tryz.func112, Tryz.ntmps112
      go_wp2_with (go_at_call 146; (with_reducible refine (H1 _).mono ?_); rintro e w1 ⟨rfl, hF1⟩)
      go_ret
      exact ⟨ret_bool_r (by simp), HF.out.trans hF1⟩
  | false =>
    rcases zer_cases r2 c2 x2 y2 with ⟨hz, rfl, rfl, rfl, rfl⟩ | ⟨hz, hn⟩
    · rw [hz, if_neg (by simp)]
      cases KA with
      | true =>
        go_enter Tryz.func112, Tryz.ntmps112
        go_wp2_with (first
          | (go_at_call 146; (with_reducible refine (H1 _).mono ?_); rintro e w1 ⟨rfl, hF1⟩; have hA1 := HA.out.fr hF1 id; have k8 := hA1.g8; have k9 := hA1.g9; have k10 := hA1.g10; have k11 := hA1.g11; clear H1)
          | (go_at_call 146; (with_reducible refine (H2 _).mono ?_); rintro e w2 ⟨rfl, hF2⟩))
        go_ret
        exact ⟨ret_bool_r (by simp), (HF.out.trans hF1).trans hF2⟩
      | false =>
        go_enter Tryz.func112, Tryz.ntmps112
        go_wp2_with (go_at_call 146; (with_reducible refine (H1 _).mono ?_); rintro e w1 ⟨rfl, hF1⟩)
        go_ret
        exact ⟨ret_bool_r (by simp), HF.out.trans hF1⟩
    · rw [hz, if_pos (by simp)]
      rcases hn with hn | ⟨rfl, hn⟩ | ⟨rfl, rfl, rfl⟩ | ⟨rfl, rfl, rfl, rfl⟩
      all_goals
        go_enter Tryz.func112, Tryz.ntmps112
        go_wp2_with fail
        go_ret
        exact ⟨rfl, HF.out⟩
#print axioms cornersFit_any
#print axioms sheetsFit_any
end Go.Proofs.YtdmjbhbiehjelaaGreatDoor
/- Check: the program's contract and the document's. -/
namespace Go.Proofs.YtdmjbhbiehjelaaGreatDoor
open Go.RowKit Go.Shelf

set_option maxRecDepth 100000 in
set_option maxHeartbeats 4000000 in
theorem check_any (t u : ByteArray) (fx ar : Bool) (r1 c1 : Int) (x1 y1 : Bool) (r2 c2 : Int) (x2 y2 : Bool) (w : World) :
    Calls Tryz.prog 75 #[(.agg #[.string t, .string u, .bool fx, .bool ar, .int .i64 r1, .int .i64 c1, .bool x1, .bool y1, .int .i64 r2, .int .i64 c2, .bool x2, .bool y2])] w fun e w' => e = .returned (.int .i64 (chkF t u fx ar r1 c1 r2 c2 x2 y2)) ∧ Fr noB w w' := by
  have H1 := sheetsFit_any t u fx ar r1 c1 x1 y1 r2 c2 x2 y2
  have H2 := cornersFit_any t u fx ar r1 c1 x1 y1 r2 c2 x2 y2
  obtain ⟨W0, hW0⟩ : ∃ W0, w.alloc (.cells #[.string t, .string u, .bool fx, .bool ar, .int .i64 r1, .int .i64 c1, .bool x1, .bool y1, .int .i64 r2, .int .i64 c2, .bool x2, .bool y2] 26 (0, 0)) = W0 := ⟨_, rfl⟩
  have hA0 : RAt W0 w.heap.size t u fx ar r1 c1 x1 y1 r2 c2 x2 y2 := ⟨by rw [← hW0]; exact heap_alloc_new w _⟩
  have hF0 : Fr noB w W0 := by rw [← hW0]; exact (Fr.refl noB w).alloc _
  have HG : Hid (∀ W, Fr noB W0 W → RAt W w.heap.size t u fx ar r1 c1 x1 y1 r2 c2 x2 y2) := fun W hW => hA0.fr hW id
  have g0 := hA0.g0; have g1 := hA0.g1; have g2 := hA0.g2; have g3 := hA0.g3; have g4 := hA0.g4; have g5 := hA0.g5; have g6 := hA0.g6; have g7 := hA0.g7; have g8 := hA0.g8; have g9 := hA0.g9; have g10 := hA0.g10; have g11 := hA0.g11
  have HF : Hid _ := hF0
  unfold chkF
  clear hA0 hF0
  generalize shsB t u fx = SB at *
  generalize corsB ar r1 c1 r2 c2 x2 y2 = CB at *
  unfold empB
  cases SB with
  | false =>
    rw [if_pos rfl]
    go_enter Tryz.func75, Tryz.ntmps75
    go_wp2_with (go_at_call 111; refine (H1 _).mono ?_; rintro e w1 ⟨rfl, hF1⟩)
    go_ret
    exact ⟨rfl, HF.out.trans hF1⟩
  | true =>
    rw [if_neg (by simp)]
    cases CB with
    | false =>
      rw [if_pos (by simp)]
      go_enter Tryz.func75, Tryz.ntmps75
      go_wp2_with (first
        | (go_at_call 111; refine (H1 _).mono ?_; rintro e w1 ⟨rfl, hF1⟩; have hA1 := HG.out _ hF1; have k0 := hA1.g0; have k1 := hA1.g1; have k2 := hA1.g2; have k3 := hA1.g3; have k4 := hA1.g4; have k5 := hA1.g5; have k6 := hA1.g6; have k7 := hA1.g7; have k8 := hA1.g8; have k9 := hA1.g9; have k10 := hA1.g10; have k11 := hA1.g11)
        | (go_at_call 112; refine (H2 _).mono ?_; rintro e w2 ⟨rfl, hF2⟩))
      go_ret
      exact ⟨rfl, HF.out.trans (hF1.trans hF2)⟩
    | true =>
      cases hu : u.toList.isEmpty <;> cases ar
      all_goals
        go_enter Tryz.func75, Tryz.ntmps75
        go_wp2_with (first
          | (go_at_call 111; refine (H1 _).mono ?_; rintro e w1 ⟨rfl, hF1⟩; have hA1 := HG.out _ hF1; have k0 := hA1.g0; have k1 := hA1.g1; have k2 := hA1.g2; have k3 := hA1.g3; have k4 := hA1.g4; have k5 := hA1.g5; have k6 := hA1.g6; have k7 := hA1.g7; have k8 := hA1.g8; have k9 := hA1.g9; have k10 := hA1.g10; have k11 := hA1.g11)
          | (go_at_call 112; refine (H2 _).mono ?_; rintro e w2 ⟨rfl, hF2⟩; have hA2 := HG.out _ (hF1.trans hF2); have m1 := hA2.g1; have m3 := hA2.g3))
        go_ret
        exact ⟨rfl, HF.out.trans (hF1.trans hF2)⟩
#print axioms check_any
/-- The document's words for the sheets. -/
theorem shs_doc (t u : ByteArray) (fx : Bool) : ((!(empB t) && !(shtF t)) || (!(empB u) && !(shtF u)) || (empB t && (!(empB u) || fx))) = !(shsB t u fx) := by
  unfold shsB
  cases empB t <;> cases empB u <;> cases shtF t <;> cases shtF u <;> cases fx <;> rfl
/-- The document's words for the corners. -/
theorem cors_doc (u : ByteArray) (ar : Bool) (r1 c1 r2 c2 : Int) (x2 y2 : Bool) : (!(corB r1 c1) || (ar && !(corB r2 c2)) || (!ar && (!(zerB r2 c2 x2 y2) || !(empB u)))) = (!(corsB ar r1 c1 r2 c2 x2 y2) || (!(empB u) && !ar)) := by
  have h : zerB r2 c2 x2 y2 = true → corB r2 c2 = true := by
    intro h
    rcases zer_cases r2 c2 x2 y2 with ⟨_, rfl, rfl, _, _⟩ | ⟨hz, _⟩
    · rfl
    · rw [h] at hz; cases hz
  unfold corsB
  cases hz : zerB r2 c2 x2 y2
  · cases ar <;> cases corB r1 c1 <;> cases corB r2 c2 <;> cases empB u <;> rfl
  · rw [h hz]
    cases ar <;> cases corB r1 c1 <;> cases empB u <;> rfl
theorem chk_doc (t u : ByteArray) (fx ar : Bool) (r1 c1 r2 c2 : Int) (x2 y2 : Bool) : chkF t u fx ar r1 c1 r2 c2 x2 y2 = (if ((!(empB t) && !(shtF t)) || (!(empB u) && !(shtF u)) || (empB t && (!(empB u) || fx))) = true then 111 else if (!(corB r1 c1) || (ar && !(corB r2 c2)) || (!ar && (!(zerB r2 c2 x2 y2) || !(empB u)))) = true then 110 else 0) := by
  rw [shs_doc, cors_doc]
  unfold chkF
  cases shsB t u fx <;> rfl
set_option maxRecDepth 100000 in
set_option maxHeartbeats 8000000 in
theorem rck_b1 (t u : ByteArray) (fx ar : Bool) (r1 c1 : Int) (x1 y1 : Bool) (r2 c2 : Int) (x2 y2 : Bool) (w : World) (ht : t.size ≤ 140737488355328) (hu : u.size ≤ 140737488355328) (hT : Tabs w) (e1 : t.toList.isEmpty = true) (e2 : u.toList.isEmpty = true) (hf : fx = true) :
    Calls Tryz.prog 60 #[(.agg #[.string t, .string u, .bool fx, .bool ar, .int .i64 r1, .int .i64 c1, .bool x1, .bool y1, .int .i64 r2, .int .i64 c2, .bool x2, .bool y2])] w fun e w' => e = .returned (.int .i64 (chkF t u fx ar r1 c1 r2 c2 x2 y2)) ∧ Fr noB w w' := by
  have H1 := fun w h => rsheetName_any t w ht h
  have H2 := fun w h => rsheetName_any u w hu h
  have H3 := rcorner_any r1 c1 x1 y1
  have H4 := rcorner_any r2 c2 x2 y2
  obtain ⟨W0, hW0⟩ : ∃ W0, w.alloc (.cells #[.string t, .string u, .bool fx, .bool ar, .int .i64 r1, .int .i64 c1, .bool x1, .bool y1, .int .i64 r2, .int .i64 c2, .bool x2, .bool y2] 26 (0, 0)) = W0 := ⟨_, rfl⟩
  have hA0 : RAt W0 w.heap.size t u fx ar r1 c1 x1 y1 r2 c2 x2 y2 := ⟨by rw [← hW0]; exact heap_alloc_new w _⟩
  have hF0 : Fr noB w W0 := by rw [← hW0]; exact (Fr.refl noB w).alloc _
  have HT : Hid (∀ W, Fr noB w W → Tabs W) := fun W hW => hT.keep hW
  have HG : Hid (∀ W, Fr noB W0 W → RAt W w.heap.size t u fx ar r1 c1 x1 y1 r2 c2 x2 y2 ∧ Fr noB w W) := fun W hW => ⟨hA0.fr hW id, hF0.trans hW⟩
  have g0 := hA0.g0; have g1 := hA0.g1; have g2 := hA0.g2; have g3 := hA0.g3; have g4 := hA0.g4; have g5 := hA0.g5; have g6 := hA0.g6; have g7 := hA0.g7; have g8 := hA0.g8; have g9 := hA0.g9; have g10 := hA0.g10; have g11 := hA0.g11
  clear hA0 hF0 hT ht hu
  rw [chk_doc]
  unfold empB
  subst hf
  rw [e1]
  rw [e2]
  rw [if_pos (by simp)]
  go_enter Tryz.func60, Tryz.ntmps60
  go_wp2_with fail
  go_ret
  exact ⟨rfl, (HG.out _ (by repeat first | assumption | exact Fr.refl _ _ | refine Fr.trans ?_ (by assumption))).2⟩
set_option maxRecDepth 100000 in
set_option maxHeartbeats 8000000 in
theorem rck_b2 (t u : ByteArray) (fx ar : Bool) (r1 c1 : Int) (x1 y1 : Bool) (r2 c2 : Int) (x2 y2 : Bool) (w : World) (ht : t.size ≤ 140737488355328) (hu : u.size ≤ 140737488355328) (hT : Tabs w) (e1 : t.toList.isEmpty = true) (e2 : u.toList.isEmpty = false) :
    Calls Tryz.prog 60 #[(.agg #[.string t, .string u, .bool fx, .bool ar, .int .i64 r1, .int .i64 c1, .bool x1, .bool y1, .int .i64 r2, .int .i64 c2, .bool x2, .bool y2])] w fun e w' => e = .returned (.int .i64 (chkF t u fx ar r1 c1 r2 c2 x2 y2)) ∧ Fr noB w w' := by
  have H1 := fun w h => rsheetName_any t w ht h
  have H2 := fun w h => rsheetName_any u w hu h
  have H3 := rcorner_any r1 c1 x1 y1
  have H4 := rcorner_any r2 c2 x2 y2
  obtain ⟨W0, hW0⟩ : ∃ W0, w.alloc (.cells #[.string t, .string u, .bool fx, .bool ar, .int .i64 r1, .int .i64 c1, .bool x1, .bool y1, .int .i64 r2, .int .i64 c2, .bool x2, .bool y2] 26 (0, 0)) = W0 := ⟨_, rfl⟩
  have hA0 : RAt W0 w.heap.size t u fx ar r1 c1 x1 y1 r2 c2 x2 y2 := ⟨by rw [← hW0]; exact heap_alloc_new w _⟩
  have hF0 : Fr noB w W0 := by rw [← hW0]; exact (Fr.refl noB w).alloc _
  have HT : Hid (∀ W, Fr noB w W → Tabs W) := fun W hW => hT.keep hW
  have HG : Hid (∀ W, Fr noB W0 W → RAt W w.heap.size t u fx ar r1 c1 x1 y1 r2 c2 x2 y2 ∧ Fr noB w W) := fun W hW => ⟨hA0.fr hW id, hF0.trans hW⟩
  have g0 := hA0.g0; have g1 := hA0.g1; have g2 := hA0.g2; have g3 := hA0.g3; have g4 := hA0.g4; have g5 := hA0.g5; have g6 := hA0.g6; have g7 := hA0.g7; have g8 := hA0.g8; have g9 := hA0.g9; have g10 := hA0.g10; have g11 := hA0.g11
  clear hA0 hF0 hT ht hu
  rw [chk_doc]
  unfold empB
  rw [e1]
  rw [e2]
  generalize shtF u = SU at *
  cases SU
  all_goals
    generalize corB r1 c1 = KA at *
    generalize corB r2 c2 = KB at *
    rw [if_pos (by simp)]
    go_enter Tryz.func60, Tryz.ntmps60
    go_wp2_with (first
      | (go_at_call 91; (with_reducible refine (H2 _ (HT.out _ (HG.out _ (by repeat first | assumption | exact Fr.refl _ _ | refine Fr.trans ?_ (by assumption))).2)).mono ?_); rintro e w2 ⟨rfl, hF2⟩; have hA2 := (HG.out w2 (by repeat first | assumption | exact Fr.refl _ _ | refine Fr.trans ?_ (by assumption))).1; have q20 := hA2.g0; have q21 := hA2.g1; have q22 := hA2.g2; have q23 := hA2.g3; have q24 := hA2.g4; have q25 := hA2.g5; have q26 := hA2.g6; have q27 := hA2.g7; have q28 := hA2.g8; have q29 := hA2.g9; have q210 := hA2.g10; have q211 := hA2.g11))
    go_ret
    exact ⟨rfl, (HG.out _ (by repeat first | assumption | exact Fr.refl _ _ | refine Fr.trans ?_ (by assumption))).2⟩
set_option maxRecDepth 100000 in
set_option maxHeartbeats 8000000 in
theorem rck_b3 (t u : ByteArray) (fx ar : Bool) (r1 c1 : Int) (x1 y1 : Bool) (r2 c2 : Int) (x2 y2 : Bool) (w : World) (ht : t.size ≤ 140737488355328) (hu : u.size ≤ 140737488355328) (hT : Tabs w) (e1 : t.toList.isEmpty = false) (s1 : shtF t = false) :
    Calls Tryz.prog 60 #[(.agg #[.string t, .string u, .bool fx, .bool ar, .int .i64 r1, .int .i64 c1, .bool x1, .bool y1, .int .i64 r2, .int .i64 c2, .bool x2, .bool y2])] w fun e w' => e = .returned (.int .i64 (chkF t u fx ar r1 c1 r2 c2 x2 y2)) ∧ Fr noB w w' := by
  have H1 := fun w h => rsheetName_any t w ht h
  have H2 := fun w h => rsheetName_any u w hu h
  have H3 := rcorner_any r1 c1 x1 y1
  have H4 := rcorner_any r2 c2 x2 y2
  obtain ⟨W0, hW0⟩ : ∃ W0, w.alloc (.cells #[.string t, .string u, .bool fx, .bool ar, .int .i64 r1, .int .i64 c1, .bool x1, .bool y1, .int .i64 r2, .int .i64 c2, .bool x2, .bool y2] 26 (0, 0)) = W0 := ⟨_, rfl⟩
  have hA0 : RAt W0 w.heap.size t u fx ar r1 c1 x1 y1 r2 c2 x2 y2 := ⟨by rw [← hW0]; exact heap_alloc_new w _⟩
  have hF0 : Fr noB w W0 := by rw [← hW0]; exact (Fr.refl noB w).alloc _
  have HT : Hid (∀ W, Fr noB w W → Tabs W) := fun W hW => hT.keep hW
  have HG : Hid (∀ W, Fr noB W0 W → RAt W w.heap.size t u fx ar r1 c1 x1 y1 r2 c2 x2 y2 ∧ Fr noB w W) := fun W hW => ⟨hA0.fr hW id, hF0.trans hW⟩
  have g0 := hA0.g0; have g1 := hA0.g1; have g2 := hA0.g2; have g3 := hA0.g3; have g4 := hA0.g4; have g5 := hA0.g5; have g6 := hA0.g6; have g7 := hA0.g7; have g8 := hA0.g8; have g9 := hA0.g9; have g10 := hA0.g10; have g11 := hA0.g11
  clear hA0 hF0 hT ht hu
  rw [chk_doc]
  unfold empB
  rw [e1]
  rw [s1] at H1 ⊢
  rw [if_pos (by simp)]
  go_enter Tryz.func60, Tryz.ntmps60
  go_wp2_with (first
    | (go_at_call 91; (with_reducible refine (H1 _ (HT.out _ (HG.out _ (by repeat first | assumption | exact Fr.refl _ _ | refine Fr.trans ?_ (by assumption))).2)).mono ?_); rintro e w1 ⟨rfl, hF1⟩; have hA1 := (HG.out w1 (by repeat first | assumption | exact Fr.refl _ _ | refine Fr.trans ?_ (by assumption))).1; have q10 := hA1.g0; have q11 := hA1.g1; have q12 := hA1.g2; have q13 := hA1.g3; have q14 := hA1.g4; have q15 := hA1.g5; have q16 := hA1.g6; have q17 := hA1.g7; have q18 := hA1.g8; have q19 := hA1.g9; have q110 := hA1.g10; have q111 := hA1.g11))
  go_ret
  exact ⟨rfl, (HG.out _ (by repeat first | assumption | exact Fr.refl _ _ | refine Fr.trans ?_ (by assumption))).2⟩
set_option maxRecDepth 100000 in
set_option maxHeartbeats 8000000 in
theorem rck_b4 (t u : ByteArray) (fx ar : Bool) (r1 c1 : Int) (x1 y1 : Bool) (r2 c2 : Int) (x2 y2 : Bool) (w : World) (ht : t.size ≤ 140737488355328) (hu : u.size ≤ 140737488355328) (hT : Tabs w) (e1 : t.toList.isEmpty = false) (s1 : shtF t = true) (e2 : u.toList.isEmpty = false) (s2 : shtF u = false) :
    Calls Tryz.prog 60 #[(.agg #[.string t, .string u, .bool fx, .bool ar, .int .i64 r1, .int .i64 c1, .bool x1, .bool y1, .int .i64 r2, .int .i64 c2, .bool x2, .bool y2])] w fun e w' => e = .returned (.int .i64 (chkF t u fx ar r1 c1 r2 c2 x2 y2)) ∧ Fr noB w w' := by
  have H1 := fun w h => rsheetName_any t w ht h
  have H2 := fun w h => rsheetName_any u w hu h
  have H3 := rcorner_any r1 c1 x1 y1
  have H4 := rcorner_any r2 c2 x2 y2
  obtain ⟨W0, hW0⟩ : ∃ W0, w.alloc (.cells #[.string t, .string u, .bool fx, .bool ar, .int .i64 r1, .int .i64 c1, .bool x1, .bool y1, .int .i64 r2, .int .i64 c2, .bool x2, .bool y2] 26 (0, 0)) = W0 := ⟨_, rfl⟩
  have hA0 : RAt W0 w.heap.size t u fx ar r1 c1 x1 y1 r2 c2 x2 y2 := ⟨by rw [← hW0]; exact heap_alloc_new w _⟩
  have hF0 : Fr noB w W0 := by rw [← hW0]; exact (Fr.refl noB w).alloc _
  have HT : Hid (∀ W, Fr noB w W → Tabs W) := fun W hW => hT.keep hW
  have HG : Hid (∀ W, Fr noB W0 W → RAt W w.heap.size t u fx ar r1 c1 x1 y1 r2 c2 x2 y2 ∧ Fr noB w W) := fun W hW => ⟨hA0.fr hW id, hF0.trans hW⟩
  have g0 := hA0.g0; have g1 := hA0.g1; have g2 := hA0.g2; have g3 := hA0.g3; have g4 := hA0.g4; have g5 := hA0.g5; have g6 := hA0.g6; have g7 := hA0.g7; have g8 := hA0.g8; have g9 := hA0.g9; have g10 := hA0.g10; have g11 := hA0.g11
  clear hA0 hF0 hT ht hu
  rw [chk_doc]
  unfold empB
  rw [e1]
  rw [s1] at H1 ⊢
  rw [e2]
  rw [s2] at H2 ⊢
  rw [if_pos (by simp)]
  go_enter Tryz.func60, Tryz.ntmps60
  go_wp2_with (first
    | (go_at_call 91; (with_reducible refine (H1 _ (HT.out _ (HG.out _ (by repeat first | assumption | exact Fr.refl _ _ | refine Fr.trans ?_ (by assumption))).2)).mono ?_); rintro e w1 ⟨rfl, hF1⟩; have hA1 := (HG.out w1 (by repeat first | assumption | exact Fr.refl _ _ | refine Fr.trans ?_ (by assumption))).1; have q10 := hA1.g0; have q11 := hA1.g1; have q12 := hA1.g2; have q13 := hA1.g3; have q14 := hA1.g4; have q15 := hA1.g5; have q16 := hA1.g6; have q17 := hA1.g7; have q18 := hA1.g8; have q19 := hA1.g9; have q110 := hA1.g10; have q111 := hA1.g11)
    | (go_at_call 91; (with_reducible refine (H2 _ (HT.out _ (HG.out _ (by repeat first | assumption | exact Fr.refl _ _ | refine Fr.trans ?_ (by assumption))).2)).mono ?_); rintro e w2 ⟨rfl, hF2⟩; have hA2 := (HG.out w2 (by repeat first | assumption | exact Fr.refl _ _ | refine Fr.trans ?_ (by assumption))).1; have q20 := hA2.g0; have q21 := hA2.g1; have q22 := hA2.g2; have q23 := hA2.g3; have q24 := hA2.g4; have q25 := hA2.g5; have q26 := hA2.g6; have q27 := hA2.g7; have q28 := hA2.g8; have q29 := hA2.g9; have q210 := hA2.g10; have q211 := hA2.g11))
  go_ret
  exact ⟨rfl, (HG.out _ (by repeat first | assumption | exact Fr.refl _ _ | refine Fr.trans ?_ (by assumption))).2⟩
set_option maxRecDepth 100000 in
set_option maxHeartbeats 8000000 in
theorem rck_g1 (t u : ByteArray) (fx ar : Bool) (r1 c1 : Int) (x1 y1 : Bool) (r2 c2 : Int) (x2 y2 : Bool) (w : World) (ht : t.size ≤ 140737488355328) (hu : u.size ≤ 140737488355328) (hT : Tabs w) (e1 : t.toList.isEmpty = true) (e2 : u.toList.isEmpty = true) (hf : fx = false) :
    Calls Tryz.prog 60 #[(.agg #[.string t, .string u, .bool fx, .bool ar, .int .i64 r1, .int .i64 c1, .bool x1, .bool y1, .int .i64 r2, .int .i64 c2, .bool x2, .bool y2])] w fun e w' => e = .returned (.int .i64 (chkF t u fx ar r1 c1 r2 c2 x2 y2)) ∧ Fr noB w w' := by
  have H1 := fun w h => rsheetName_any t w ht h
  have H2 := fun w h => rsheetName_any u w hu h
  have H3 := rcorner_any r1 c1 x1 y1
  have H4 := rcorner_any r2 c2 x2 y2
  obtain ⟨W0, hW0⟩ : ∃ W0, w.alloc (.cells #[.string t, .string u, .bool fx, .bool ar, .int .i64 r1, .int .i64 c1, .bool x1, .bool y1, .int .i64 r2, .int .i64 c2, .bool x2, .bool y2] 26 (0, 0)) = W0 := ⟨_, rfl⟩
  have hA0 : RAt W0 w.heap.size t u fx ar r1 c1 x1 y1 r2 c2 x2 y2 := ⟨by rw [← hW0]; exact heap_alloc_new w _⟩
  have hF0 : Fr noB w W0 := by rw [← hW0]; exact (Fr.refl noB w).alloc _
  have HT : Hid (∀ W, Fr noB w W → Tabs W) := fun W hW => hT.keep hW
  have HG : Hid (∀ W, Fr noB W0 W → RAt W w.heap.size t u fx ar r1 c1 x1 y1 r2 c2 x2 y2 ∧ Fr noB w W) := fun W hW => ⟨hA0.fr hW id, hF0.trans hW⟩
  have g0 := hA0.g0; have g1 := hA0.g1; have g2 := hA0.g2; have g3 := hA0.g3; have g4 := hA0.g4; have g5 := hA0.g5; have g6 := hA0.g6; have g7 := hA0.g7; have g8 := hA0.g8; have g9 := hA0.g9; have g10 := hA0.g10; have g11 := hA0.g11
  clear hA0 hF0 hT ht hu
  rw [chk_doc]
  unfold empB
  subst hf
  rw [e1]
  rw [e2]
  rw [if_neg (by simp)]
  generalize corB r1 c1 = KA at *
  generalize corB r2 c2 = KB at *
  cases KA with
  | false =>
    rw [if_pos (by simp)]
    go_enter Tryz.func60, Tryz.ntmps60
    go_wp2_with (first
      | (go_at_call 92; (with_reducible refine (H3 _).mono ?_); rintro e w3 ⟨rfl, hF3⟩; have hA3 := (HG.out w3 (by repeat first | assumption | exact Fr.refl _ _ | refine Fr.trans ?_ (by assumption))).1; have q30 := hA3.g0; have q31 := hA3.g1; have q32 := hA3.g2; have q33 := hA3.g3; have q34 := hA3.g4; have q35 := hA3.g5; have q36 := hA3.g6; have q37 := hA3.g7; have q38 := hA3.g8; have q39 := hA3.g9; have q310 := hA3.g10; have q311 := hA3.g11; clear H3))
    go_ret
    exact ⟨rfl, (HG.out _ (by repeat first | assumption | exact Fr.refl _ _ | refine Fr.trans ?_ (by assumption))).2⟩
  | true =>
    cases ar with
    | true =>
      cases KB with
      | false =>
        rw [if_pos (by simp)]
        go_enter Tryz.func60, Tryz.ntmps60
        go_wp2_with (first
          | (go_at_call 92; (with_reducible refine (H3 _).mono ?_); rintro e w3 ⟨rfl, hF3⟩; have hA3 := (HG.out w3 (by repeat first | assumption | exact Fr.refl _ _ | refine Fr.trans ?_ (by assumption))).1; have q30 := hA3.g0; have q31 := hA3.g1; have q32 := hA3.g2; have q33 := hA3.g3; have q34 := hA3.g4; have q35 := hA3.g5; have q36 := hA3.g6; have q37 := hA3.g7; have q38 := hA3.g8; have q39 := hA3.g9; have q310 := hA3.g10; have q311 := hA3.g11; clear H3)
          | (go_at_call 92; (with_reducible refine (H4 _).mono ?_); rintro e w4 ⟨rfl, hF4⟩; have hA4 := (HG.out w4 (by repeat first | assumption | exact Fr.refl _ _ | refine Fr.trans ?_ (by assumption))).1; have q40 := hA4.g0; have q41 := hA4.g1; have q42 := hA4.g2; have q43 := hA4.g3; have q44 := hA4.g4; have q45 := hA4.g5; have q46 := hA4.g6; have q47 := hA4.g7; have q48 := hA4.g8; have q49 := hA4.g9; have q410 := hA4.g10; have q411 := hA4.g11))
        go_ret
        exact ⟨rfl, (HG.out _ (by repeat first | assumption | exact Fr.refl _ _ | refine Fr.trans ?_ (by assumption))).2⟩
      | true =>
        rw [if_neg (by simp)]
        go_enter Tryz.func60, Tryz.ntmps60
        go_wp2_with (first
          | (go_at_call 92; (with_reducible refine (H3 _).mono ?_); rintro e w3 ⟨rfl, hF3⟩; have hA3 := (HG.out w3 (by repeat first | assumption | exact Fr.refl _ _ | refine Fr.trans ?_ (by assumption))).1; have q30 := hA3.g0; have q31 := hA3.g1; have q32 := hA3.g2; have q33 := hA3.g3; have q34 := hA3.g4; have q35 := hA3.g5; have q36 := hA3.g6; have q37 := hA3.g7; have q38 := hA3.g8; have q39 := hA3.g9; have q310 := hA3.g10; have q311 := hA3.g11; clear H3)
          | (go_at_call 92; (with_reducible refine (H4 _).mono ?_); rintro e w4 ⟨rfl, hF4⟩; have hA4 := (HG.out w4 (by repeat first | assumption | exact Fr.refl _ _ | refine Fr.trans ?_ (by assumption))).1; have q40 := hA4.g0; have q41 := hA4.g1; have q42 := hA4.g2; have q43 := hA4.g3; have q44 := hA4.g4; have q45 := hA4.g5; have q46 := hA4.g6; have q47 := hA4.g7; have q48 := hA4.g8; have q49 := hA4.g9; have q410 := hA4.g10; have q411 := hA4.g11))
        go_ret
        exact ⟨rfl, (HG.out _ (by repeat first | assumption | exact Fr.refl _ _ | refine Fr.trans ?_ (by assumption))).2⟩
    | false =>
      rcases zer_cases r2 c2 x2 y2 with ⟨hz, rfl, rfl, rfl, rfl⟩ | ⟨hz, hn⟩
      · rw [hz]
        rw [if_neg (by simp)]
        go_enter Tryz.func60, Tryz.ntmps60
        go_wp2_with (first
          | (go_at_call 92; (with_reducible refine (H3 _).mono ?_); rintro e w3 ⟨rfl, hF3⟩; have hA3 := (HG.out w3 (by repeat first | assumption | exact Fr.refl _ _ | refine Fr.trans ?_ (by assumption))).1; have q30 := hA3.g0; have q31 := hA3.g1; have q32 := hA3.g2; have q33 := hA3.g3; have q34 := hA3.g4; have q35 := hA3.g5; have q36 := hA3.g6; have q37 := hA3.g7; have q38 := hA3.g8; have q39 := hA3.g9; have q310 := hA3.g10; have q311 := hA3.g11; clear H3))
        go_ret
        exact ⟨rfl, (HG.out _ (by repeat first | assumption | exact Fr.refl _ _ | refine Fr.trans ?_ (by assumption))).2⟩
      · rw [hz, if_pos (by simp)]
        rcases hn with hn | ⟨rfl, hn⟩ | ⟨rfl, rfl, rfl⟩ | ⟨rfl, rfl, rfl, rfl⟩
        all_goals
          go_enter Tryz.func60, Tryz.ntmps60
          go_wp2_with (first
            | (go_at_call 92; (with_reducible refine (H3 _).mono ?_); rintro e w3 ⟨rfl, hF3⟩; have hA3 := (HG.out w3 (by repeat first | assumption | exact Fr.refl _ _ | refine Fr.trans ?_ (by assumption))).1; have q30 := hA3.g0; have q31 := hA3.g1; have q32 := hA3.g2; have q33 := hA3.g3; have q34 := hA3.g4; have q35 := hA3.g5; have q36 := hA3.g6; have q37 := hA3.g7; have q38 := hA3.g8; have q39 := hA3.g9; have q310 := hA3.g10; have q311 := hA3.g11; clear H3))
          go_ret
          exact ⟨rfl, (HG.out _ (by repeat first | assumption | exact Fr.refl _ _ | refine Fr.trans ?_ (by assumption))).2⟩
set_option maxRecDepth 100000 in
set_option maxHeartbeats 8000000 in
theorem rck_g2 (t u : ByteArray) (fx ar : Bool) (r1 c1 : Int) (x1 y1 : Bool) (r2 c2 : Int) (x2 y2 : Bool) (w : World) (ht : t.size ≤ 140737488355328) (hu : u.size ≤ 140737488355328) (hT : Tabs w) (e1 : t.toList.isEmpty = false) (s1 : shtF t = true) (e2 : u.toList.isEmpty = true) :
    Calls Tryz.prog 60 #[(.agg #[.string t, .string u, .bool fx, .bool ar, .int .i64 r1, .int .i64 c1, .bool x1, .bool y1, .int .i64 r2, .int .i64 c2, .bool x2, .bool y2])] w fun e w' => e = .returned (.int .i64 (chkF t u fx ar r1 c1 r2 c2 x2 y2)) ∧ Fr noB w w' := by
  have H1 := fun w h => rsheetName_any t w ht h
  have H2 := fun w h => rsheetName_any u w hu h
  have H3 := rcorner_any r1 c1 x1 y1
  have H4 := rcorner_any r2 c2 x2 y2
  obtain ⟨W0, hW0⟩ : ∃ W0, w.alloc (.cells #[.string t, .string u, .bool fx, .bool ar, .int .i64 r1, .int .i64 c1, .bool x1, .bool y1, .int .i64 r2, .int .i64 c2, .bool x2, .bool y2] 26 (0, 0)) = W0 := ⟨_, rfl⟩
  have hA0 : RAt W0 w.heap.size t u fx ar r1 c1 x1 y1 r2 c2 x2 y2 := ⟨by rw [← hW0]; exact heap_alloc_new w _⟩
  have hF0 : Fr noB w W0 := by rw [← hW0]; exact (Fr.refl noB w).alloc _
  have HT : Hid (∀ W, Fr noB w W → Tabs W) := fun W hW => hT.keep hW
  have HG : Hid (∀ W, Fr noB W0 W → RAt W w.heap.size t u fx ar r1 c1 x1 y1 r2 c2 x2 y2 ∧ Fr noB w W) := fun W hW => ⟨hA0.fr hW id, hF0.trans hW⟩
  have g0 := hA0.g0; have g1 := hA0.g1; have g2 := hA0.g2; have g3 := hA0.g3; have g4 := hA0.g4; have g5 := hA0.g5; have g6 := hA0.g6; have g7 := hA0.g7; have g8 := hA0.g8; have g9 := hA0.g9; have g10 := hA0.g10; have g11 := hA0.g11
  clear hA0 hF0 hT ht hu
  rw [chk_doc]
  unfold empB
  rw [e1]
  rw [s1] at H1 ⊢
  rw [e2]
  rw [if_neg (by simp)]
  generalize corB r1 c1 = KA at *
  generalize corB r2 c2 = KB at *
  cases KA with
  | false =>
    rw [if_pos (by simp)]
    go_enter Tryz.func60, Tryz.ntmps60
    go_wp2_with (first
      | (go_at_call 91; (with_reducible refine (H1 _ (HT.out _ (HG.out _ (by repeat first | assumption | exact Fr.refl _ _ | refine Fr.trans ?_ (by assumption))).2)).mono ?_); rintro e w1 ⟨rfl, hF1⟩; have hA1 := (HG.out w1 (by repeat first | assumption | exact Fr.refl _ _ | refine Fr.trans ?_ (by assumption))).1; have q10 := hA1.g0; have q11 := hA1.g1; have q12 := hA1.g2; have q13 := hA1.g3; have q14 := hA1.g4; have q15 := hA1.g5; have q16 := hA1.g6; have q17 := hA1.g7; have q18 := hA1.g8; have q19 := hA1.g9; have q110 := hA1.g10; have q111 := hA1.g11)
      | (go_at_call 92; (with_reducible refine (H3 _).mono ?_); rintro e w3 ⟨rfl, hF3⟩; have hA3 := (HG.out w3 (by repeat first | assumption | exact Fr.refl _ _ | refine Fr.trans ?_ (by assumption))).1; have q30 := hA3.g0; have q31 := hA3.g1; have q32 := hA3.g2; have q33 := hA3.g3; have q34 := hA3.g4; have q35 := hA3.g5; have q36 := hA3.g6; have q37 := hA3.g7; have q38 := hA3.g8; have q39 := hA3.g9; have q310 := hA3.g10; have q311 := hA3.g11; clear H3))
    go_ret
    exact ⟨rfl, (HG.out _ (by repeat first | assumption | exact Fr.refl _ _ | refine Fr.trans ?_ (by assumption))).2⟩
  | true =>
    cases ar with
    | true =>
      cases KB with
      | false =>
        rw [if_pos (by simp)]
        go_enter Tryz.func60, Tryz.ntmps60
        go_wp2_with (first
          | (go_at_call 91; (with_reducible refine (H1 _ (HT.out _ (HG.out _ (by repeat first | assumption | exact Fr.refl _ _ | refine Fr.trans ?_ (by assumption))).2)).mono ?_); rintro e w1 ⟨rfl, hF1⟩; have hA1 := (HG.out w1 (by repeat first | assumption | exact Fr.refl _ _ | refine Fr.trans ?_ (by assumption))).1; have q10 := hA1.g0; have q11 := hA1.g1; have q12 := hA1.g2; have q13 := hA1.g3; have q14 := hA1.g4; have q15 := hA1.g5; have q16 := hA1.g6; have q17 := hA1.g7; have q18 := hA1.g8; have q19 := hA1.g9; have q110 := hA1.g10; have q111 := hA1.g11)
          | (go_at_call 92; (with_reducible refine (H3 _).mono ?_); rintro e w3 ⟨rfl, hF3⟩; have hA3 := (HG.out w3 (by repeat first | assumption | exact Fr.refl _ _ | refine Fr.trans ?_ (by assumption))).1; have q30 := hA3.g0; have q31 := hA3.g1; have q32 := hA3.g2; have q33 := hA3.g3; have q34 := hA3.g4; have q35 := hA3.g5; have q36 := hA3.g6; have q37 := hA3.g7; have q38 := hA3.g8; have q39 := hA3.g9; have q310 := hA3.g10; have q311 := hA3.g11; clear H3)
          | (go_at_call 92; (with_reducible refine (H4 _).mono ?_); rintro e w4 ⟨rfl, hF4⟩; have hA4 := (HG.out w4 (by repeat first | assumption | exact Fr.refl _ _ | refine Fr.trans ?_ (by assumption))).1; have q40 := hA4.g0; have q41 := hA4.g1; have q42 := hA4.g2; have q43 := hA4.g3; have q44 := hA4.g4; have q45 := hA4.g5; have q46 := hA4.g6; have q47 := hA4.g7; have q48 := hA4.g8; have q49 := hA4.g9; have q410 := hA4.g10; have q411 := hA4.g11))
        go_ret
        exact ⟨rfl, (HG.out _ (by repeat first | assumption | exact Fr.refl _ _ | refine Fr.trans ?_ (by assumption))).2⟩
      | true =>
        rw [if_neg (by simp)]
        go_enter Tryz.func60, Tryz.ntmps60
        go_wp2_with (first
          | (go_at_call 91; (with_reducible refine (H1 _ (HT.out _ (HG.out _ (by repeat first | assumption | exact Fr.refl _ _ | refine Fr.trans ?_ (by assumption))).2)).mono ?_); rintro e w1 ⟨rfl, hF1⟩; have hA1 := (HG.out w1 (by repeat first | assumption | exact Fr.refl _ _ | refine Fr.trans ?_ (by assumption))).1; have q10 := hA1.g0; have q11 := hA1.g1; have q12 := hA1.g2; have q13 := hA1.g3; have q14 := hA1.g4; have q15 := hA1.g5; have q16 := hA1.g6; have q17 := hA1.g7; have q18 := hA1.g8; have q19 := hA1.g9; have q110 := hA1.g10; have q111 := hA1.g11)
          | (go_at_call 92; (with_reducible refine (H3 _).mono ?_); rintro e w3 ⟨rfl, hF3⟩; have hA3 := (HG.out w3 (by repeat first | assumption | exact Fr.refl _ _ | refine Fr.trans ?_ (by assumption))).1; have q30 := hA3.g0; have q31 := hA3.g1; have q32 := hA3.g2; have q33 := hA3.g3; have q34 := hA3.g4; have q35 := hA3.g5; have q36 := hA3.g6; have q37 := hA3.g7; have q38 := hA3.g8; have q39 := hA3.g9; have q310 := hA3.g10; have q311 := hA3.g11; clear H3)
          | (go_at_call 92; (with_reducible refine (H4 _).mono ?_); rintro e w4 ⟨rfl, hF4⟩; have hA4 := (HG.out w4 (by repeat first | assumption | exact Fr.refl _ _ | refine Fr.trans ?_ (by assumption))).1; have q40 := hA4.g0; have q41 := hA4.g1; have q42 := hA4.g2; have q43 := hA4.g3; have q44 := hA4.g4; have q45 := hA4.g5; have q46 := hA4.g6; have q47 := hA4.g7; have q48 := hA4.g8; have q49 := hA4.g9; have q410 := hA4.g10; have q411 := hA4.g11))
        go_ret
        exact ⟨rfl, (HG.out _ (by repeat first | assumption | exact Fr.refl _ _ | refine Fr.trans ?_ (by assumption))).2⟩
    | false =>
      rcases zer_cases r2 c2 x2 y2 with ⟨hz, rfl, rfl, rfl, rfl⟩ | ⟨hz, hn⟩
      · rw [hz]
        rw [if_neg (by simp)]
        go_enter Tryz.func60, Tryz.ntmps60
        go_wp2_with (first
          | (go_at_call 91; (with_reducible refine (H1 _ (HT.out _ (HG.out _ (by repeat first | assumption | exact Fr.refl _ _ | refine Fr.trans ?_ (by assumption))).2)).mono ?_); rintro e w1 ⟨rfl, hF1⟩; have hA1 := (HG.out w1 (by repeat first | assumption | exact Fr.refl _ _ | refine Fr.trans ?_ (by assumption))).1; have q10 := hA1.g0; have q11 := hA1.g1; have q12 := hA1.g2; have q13 := hA1.g3; have q14 := hA1.g4; have q15 := hA1.g5; have q16 := hA1.g6; have q17 := hA1.g7; have q18 := hA1.g8; have q19 := hA1.g9; have q110 := hA1.g10; have q111 := hA1.g11)
          | (go_at_call 92; (with_reducible refine (H3 _).mono ?_); rintro e w3 ⟨rfl, hF3⟩; have hA3 := (HG.out w3 (by repeat first | assumption | exact Fr.refl _ _ | refine Fr.trans ?_ (by assumption))).1; have q30 := hA3.g0; have q31 := hA3.g1; have q32 := hA3.g2; have q33 := hA3.g3; have q34 := hA3.g4; have q35 := hA3.g5; have q36 := hA3.g6; have q37 := hA3.g7; have q38 := hA3.g8; have q39 := hA3.g9; have q310 := hA3.g10; have q311 := hA3.g11; clear H3))
        go_ret
        exact ⟨rfl, (HG.out _ (by repeat first | assumption | exact Fr.refl _ _ | refine Fr.trans ?_ (by assumption))).2⟩
      · rw [hz, if_pos (by simp)]
        rcases hn with hn | ⟨rfl, hn⟩ | ⟨rfl, rfl, rfl⟩ | ⟨rfl, rfl, rfl, rfl⟩
        all_goals
          go_enter Tryz.func60, Tryz.ntmps60
          go_wp2_with (first
            | (go_at_call 91; (with_reducible refine (H1 _ (HT.out _ (HG.out _ (by repeat first | assumption | exact Fr.refl _ _ | refine Fr.trans ?_ (by assumption))).2)).mono ?_); rintro e w1 ⟨rfl, hF1⟩; have hA1 := (HG.out w1 (by repeat first | assumption | exact Fr.refl _ _ | refine Fr.trans ?_ (by assumption))).1; have q10 := hA1.g0; have q11 := hA1.g1; have q12 := hA1.g2; have q13 := hA1.g3; have q14 := hA1.g4; have q15 := hA1.g5; have q16 := hA1.g6; have q17 := hA1.g7; have q18 := hA1.g8; have q19 := hA1.g9; have q110 := hA1.g10; have q111 := hA1.g11)
            | (go_at_call 92; (with_reducible refine (H3 _).mono ?_); rintro e w3 ⟨rfl, hF3⟩; have hA3 := (HG.out w3 (by repeat first | assumption | exact Fr.refl _ _ | refine Fr.trans ?_ (by assumption))).1; have q30 := hA3.g0; have q31 := hA3.g1; have q32 := hA3.g2; have q33 := hA3.g3; have q34 := hA3.g4; have q35 := hA3.g5; have q36 := hA3.g6; have q37 := hA3.g7; have q38 := hA3.g8; have q39 := hA3.g9; have q310 := hA3.g10; have q311 := hA3.g11; clear H3))
          go_ret
          exact ⟨rfl, (HG.out _ (by repeat first | assumption | exact Fr.refl _ _ | refine Fr.trans ?_ (by assumption))).2⟩
set_option maxRecDepth 100000 in
set_option maxHeartbeats 8000000 in
theorem rck_g3 (t u : ByteArray) (fx ar : Bool) (r1 c1 : Int) (x1 y1 : Bool) (r2 c2 : Int) (x2 y2 : Bool) (w : World) (ht : t.size ≤ 140737488355328) (hu : u.size ≤ 140737488355328) (hT : Tabs w) (e1 : t.toList.isEmpty = false) (s1 : shtF t = true) (e2 : u.toList.isEmpty = false) (s2 : shtF u = true) :
    Calls Tryz.prog 60 #[(.agg #[.string t, .string u, .bool fx, .bool ar, .int .i64 r1, .int .i64 c1, .bool x1, .bool y1, .int .i64 r2, .int .i64 c2, .bool x2, .bool y2])] w fun e w' => e = .returned (.int .i64 (chkF t u fx ar r1 c1 r2 c2 x2 y2)) ∧ Fr noB w w' := by
  have H1 := fun w h => rsheetName_any t w ht h
  have H2 := fun w h => rsheetName_any u w hu h
  have H3 := rcorner_any r1 c1 x1 y1
  have H4 := rcorner_any r2 c2 x2 y2
  obtain ⟨W0, hW0⟩ : ∃ W0, w.alloc (.cells #[.string t, .string u, .bool fx, .bool ar, .int .i64 r1, .int .i64 c1, .bool x1, .bool y1, .int .i64 r2, .int .i64 c2, .bool x2, .bool y2] 26 (0, 0)) = W0 := ⟨_, rfl⟩
  have hA0 : RAt W0 w.heap.size t u fx ar r1 c1 x1 y1 r2 c2 x2 y2 := ⟨by rw [← hW0]; exact heap_alloc_new w _⟩
  have hF0 : Fr noB w W0 := by rw [← hW0]; exact (Fr.refl noB w).alloc _
  have HT : Hid (∀ W, Fr noB w W → Tabs W) := fun W hW => hT.keep hW
  have HG : Hid (∀ W, Fr noB W0 W → RAt W w.heap.size t u fx ar r1 c1 x1 y1 r2 c2 x2 y2 ∧ Fr noB w W) := fun W hW => ⟨hA0.fr hW id, hF0.trans hW⟩
  have g0 := hA0.g0; have g1 := hA0.g1; have g2 := hA0.g2; have g3 := hA0.g3; have g4 := hA0.g4; have g5 := hA0.g5; have g6 := hA0.g6; have g7 := hA0.g7; have g8 := hA0.g8; have g9 := hA0.g9; have g10 := hA0.g10; have g11 := hA0.g11
  clear hA0 hF0 hT ht hu
  rw [chk_doc]
  unfold empB
  rw [e1]
  rw [s1] at H1 ⊢
  rw [e2]
  rw [s2] at H2 ⊢
  rw [if_neg (by simp)]
  generalize corB r1 c1 = KA at *
  generalize corB r2 c2 = KB at *
  cases KA with
  | false =>
    rw [if_pos (by simp)]
    go_enter Tryz.func60, Tryz.ntmps60
    go_wp2_with (first
      | (go_at_call 91; (with_reducible refine (H1 _ (HT.out _ (HG.out _ (by repeat first | assumption | exact Fr.refl _ _ | refine Fr.trans ?_ (by assumption))).2)).mono ?_); rintro e w1 ⟨rfl, hF1⟩; have hA1 := (HG.out w1 (by repeat first | assumption | exact Fr.refl _ _ | refine Fr.trans ?_ (by assumption))).1; have q10 := hA1.g0; have q11 := hA1.g1; have q12 := hA1.g2; have q13 := hA1.g3; have q14 := hA1.g4; have q15 := hA1.g5; have q16 := hA1.g6; have q17 := hA1.g7; have q18 := hA1.g8; have q19 := hA1.g9; have q110 := hA1.g10; have q111 := hA1.g11)
      | (go_at_call 91; (with_reducible refine (H2 _ (HT.out _ (HG.out _ (by repeat first | assumption | exact Fr.refl _ _ | refine Fr.trans ?_ (by assumption))).2)).mono ?_); rintro e w2 ⟨rfl, hF2⟩; have hA2 := (HG.out w2 (by repeat first | assumption | exact Fr.refl _ _ | refine Fr.trans ?_ (by assumption))).1; have q20 := hA2.g0; have q21 := hA2.g1; have q22 := hA2.g2; have q23 := hA2.g3; have q24 := hA2.g4; have q25 := hA2.g5; have q26 := hA2.g6; have q27 := hA2.g7; have q28 := hA2.g8; have q29 := hA2.g9; have q210 := hA2.g10; have q211 := hA2.g11)
      | (go_at_call 92; (with_reducible refine (H3 _).mono ?_); rintro e w3 ⟨rfl, hF3⟩; have hA3 := (HG.out w3 (by repeat first | assumption | exact Fr.refl _ _ | refine Fr.trans ?_ (by assumption))).1; have q30 := hA3.g0; have q31 := hA3.g1; have q32 := hA3.g2; have q33 := hA3.g3; have q34 := hA3.g4; have q35 := hA3.g5; have q36 := hA3.g6; have q37 := hA3.g7; have q38 := hA3.g8; have q39 := hA3.g9; have q310 := hA3.g10; have q311 := hA3.g11; clear H3))
    go_ret
    exact ⟨rfl, (HG.out _ (by repeat first | assumption | exact Fr.refl _ _ | refine Fr.trans ?_ (by assumption))).2⟩
  | true =>
    cases ar with
    | true =>
      cases KB with
      | false =>
        rw [if_pos (by simp)]
        go_enter Tryz.func60, Tryz.ntmps60
        go_wp2_with (first
          | (go_at_call 91; (with_reducible refine (H1 _ (HT.out _ (HG.out _ (by repeat first | assumption | exact Fr.refl _ _ | refine Fr.trans ?_ (by assumption))).2)).mono ?_); rintro e w1 ⟨rfl, hF1⟩; have hA1 := (HG.out w1 (by repeat first | assumption | exact Fr.refl _ _ | refine Fr.trans ?_ (by assumption))).1; have q10 := hA1.g0; have q11 := hA1.g1; have q12 := hA1.g2; have q13 := hA1.g3; have q14 := hA1.g4; have q15 := hA1.g5; have q16 := hA1.g6; have q17 := hA1.g7; have q18 := hA1.g8; have q19 := hA1.g9; have q110 := hA1.g10; have q111 := hA1.g11)
          | (go_at_call 91; (with_reducible refine (H2 _ (HT.out _ (HG.out _ (by repeat first | assumption | exact Fr.refl _ _ | refine Fr.trans ?_ (by assumption))).2)).mono ?_); rintro e w2 ⟨rfl, hF2⟩; have hA2 := (HG.out w2 (by repeat first | assumption | exact Fr.refl _ _ | refine Fr.trans ?_ (by assumption))).1; have q20 := hA2.g0; have q21 := hA2.g1; have q22 := hA2.g2; have q23 := hA2.g3; have q24 := hA2.g4; have q25 := hA2.g5; have q26 := hA2.g6; have q27 := hA2.g7; have q28 := hA2.g8; have q29 := hA2.g9; have q210 := hA2.g10; have q211 := hA2.g11)
          | (go_at_call 92; (with_reducible refine (H3 _).mono ?_); rintro e w3 ⟨rfl, hF3⟩; have hA3 := (HG.out w3 (by repeat first | assumption | exact Fr.refl _ _ | refine Fr.trans ?_ (by assumption))).1; have q30 := hA3.g0; have q31 := hA3.g1; have q32 := hA3.g2; have q33 := hA3.g3; have q34 := hA3.g4; have q35 := hA3.g5; have q36 := hA3.g6; have q37 := hA3.g7; have q38 := hA3.g8; have q39 := hA3.g9; have q310 := hA3.g10; have q311 := hA3.g11; clear H3)
          | (go_at_call 92; (with_reducible refine (H4 _).mono ?_); rintro e w4 ⟨rfl, hF4⟩; have hA4 := (HG.out w4 (by repeat first | assumption | exact Fr.refl _ _ | refine Fr.trans ?_ (by assumption))).1; have q40 := hA4.g0; have q41 := hA4.g1; have q42 := hA4.g2; have q43 := hA4.g3; have q44 := hA4.g4; have q45 := hA4.g5; have q46 := hA4.g6; have q47 := hA4.g7; have q48 := hA4.g8; have q49 := hA4.g9; have q410 := hA4.g10; have q411 := hA4.g11))
        go_ret
        exact ⟨rfl, (HG.out _ (by repeat first | assumption | exact Fr.refl _ _ | refine Fr.trans ?_ (by assumption))).2⟩
      | true =>
        rw [if_neg (by simp)]
        go_enter Tryz.func60, Tryz.ntmps60
        go_wp2_with (first
          | (go_at_call 91; (with_reducible refine (H1 _ (HT.out _ (HG.out _ (by repeat first | assumption | exact Fr.refl _ _ | refine Fr.trans ?_ (by assumption))).2)).mono ?_); rintro e w1 ⟨rfl, hF1⟩; have hA1 := (HG.out w1 (by repeat first | assumption | exact Fr.refl _ _ | refine Fr.trans ?_ (by assumption))).1; have q10 := hA1.g0; have q11 := hA1.g1; have q12 := hA1.g2; have q13 := hA1.g3; have q14 := hA1.g4; have q15 := hA1.g5; have q16 := hA1.g6; have q17 := hA1.g7; have q18 := hA1.g8; have q19 := hA1.g9; have q110 := hA1.g10; have q111 := hA1.g11)
          | (go_at_call 91; (with_reducible refine (H2 _ (HT.out _ (HG.out _ (by repeat first | assumption | exact Fr.refl _ _ | refine Fr.trans ?_ (by assumption))).2)).mono ?_); rintro e w2 ⟨rfl, hF2⟩; have hA2 := (HG.out w2 (by repeat first | assumption | exact Fr.refl _ _ | refine Fr.trans ?_ (by assumption))).1; have q20 := hA2.g0; have q21 := hA2.g1; have q22 := hA2.g2; have q23 := hA2.g3; have q24 := hA2.g4; have q25 := hA2.g5; have q26 := hA2.g6; have q27 := hA2.g7; have q28 := hA2.g8; have q29 := hA2.g9; have q210 := hA2.g10; have q211 := hA2.g11)
          | (go_at_call 92; (with_reducible refine (H3 _).mono ?_); rintro e w3 ⟨rfl, hF3⟩; have hA3 := (HG.out w3 (by repeat first | assumption | exact Fr.refl _ _ | refine Fr.trans ?_ (by assumption))).1; have q30 := hA3.g0; have q31 := hA3.g1; have q32 := hA3.g2; have q33 := hA3.g3; have q34 := hA3.g4; have q35 := hA3.g5; have q36 := hA3.g6; have q37 := hA3.g7; have q38 := hA3.g8; have q39 := hA3.g9; have q310 := hA3.g10; have q311 := hA3.g11; clear H3)
          | (go_at_call 92; (with_reducible refine (H4 _).mono ?_); rintro e w4 ⟨rfl, hF4⟩; have hA4 := (HG.out w4 (by repeat first | assumption | exact Fr.refl _ _ | refine Fr.trans ?_ (by assumption))).1; have q40 := hA4.g0; have q41 := hA4.g1; have q42 := hA4.g2; have q43 := hA4.g3; have q44 := hA4.g4; have q45 := hA4.g5; have q46 := hA4.g6; have q47 := hA4.g7; have q48 := hA4.g8; have q49 := hA4.g9; have q410 := hA4.g10; have q411 := hA4.g11))
        go_ret
        exact ⟨rfl, (HG.out _ (by repeat first | assumption | exact Fr.refl _ _ | refine Fr.trans ?_ (by assumption))).2⟩
    | false =>
      rcases zer_cases r2 c2 x2 y2 with ⟨hz, rfl, rfl, rfl, rfl⟩ | ⟨hz, hn⟩
      · rw [hz]
        rw [if_pos (by simp)]
        go_enter Tryz.func60, Tryz.ntmps60
        go_wp2_with (first
          | (go_at_call 91; (with_reducible refine (H1 _ (HT.out _ (HG.out _ (by repeat first | assumption | exact Fr.refl _ _ | refine Fr.trans ?_ (by assumption))).2)).mono ?_); rintro e w1 ⟨rfl, hF1⟩; have hA1 := (HG.out w1 (by repeat first | assumption | exact Fr.refl _ _ | refine Fr.trans ?_ (by assumption))).1; have q10 := hA1.g0; have q11 := hA1.g1; have q12 := hA1.g2; have q13 := hA1.g3; have q14 := hA1.g4; have q15 := hA1.g5; have q16 := hA1.g6; have q17 := hA1.g7; have q18 := hA1.g8; have q19 := hA1.g9; have q110 := hA1.g10; have q111 := hA1.g11)
          | (go_at_call 91; (with_reducible refine (H2 _ (HT.out _ (HG.out _ (by repeat first | assumption | exact Fr.refl _ _ | refine Fr.trans ?_ (by assumption))).2)).mono ?_); rintro e w2 ⟨rfl, hF2⟩; have hA2 := (HG.out w2 (by repeat first | assumption | exact Fr.refl _ _ | refine Fr.trans ?_ (by assumption))).1; have q20 := hA2.g0; have q21 := hA2.g1; have q22 := hA2.g2; have q23 := hA2.g3; have q24 := hA2.g4; have q25 := hA2.g5; have q26 := hA2.g6; have q27 := hA2.g7; have q28 := hA2.g8; have q29 := hA2.g9; have q210 := hA2.g10; have q211 := hA2.g11)
          | (go_at_call 92; (with_reducible refine (H3 _).mono ?_); rintro e w3 ⟨rfl, hF3⟩; have hA3 := (HG.out w3 (by repeat first | assumption | exact Fr.refl _ _ | refine Fr.trans ?_ (by assumption))).1; have q30 := hA3.g0; have q31 := hA3.g1; have q32 := hA3.g2; have q33 := hA3.g3; have q34 := hA3.g4; have q35 := hA3.g5; have q36 := hA3.g6; have q37 := hA3.g7; have q38 := hA3.g8; have q39 := hA3.g9; have q310 := hA3.g10; have q311 := hA3.g11; clear H3))
        go_ret
        exact ⟨rfl, (HG.out _ (by repeat first | assumption | exact Fr.refl _ _ | refine Fr.trans ?_ (by assumption))).2⟩
      · rw [hz, if_pos (by simp)]
        rcases hn with hn | ⟨rfl, hn⟩ | ⟨rfl, rfl, rfl⟩ | ⟨rfl, rfl, rfl, rfl⟩
        all_goals
          go_enter Tryz.func60, Tryz.ntmps60
          go_wp2_with (first
            | (go_at_call 91; (with_reducible refine (H1 _ (HT.out _ (HG.out _ (by repeat first | assumption | exact Fr.refl _ _ | refine Fr.trans ?_ (by assumption))).2)).mono ?_); rintro e w1 ⟨rfl, hF1⟩; have hA1 := (HG.out w1 (by repeat first | assumption | exact Fr.refl _ _ | refine Fr.trans ?_ (by assumption))).1; have q10 := hA1.g0; have q11 := hA1.g1; have q12 := hA1.g2; have q13 := hA1.g3; have q14 := hA1.g4; have q15 := hA1.g5; have q16 := hA1.g6; have q17 := hA1.g7; have q18 := hA1.g8; have q19 := hA1.g9; have q110 := hA1.g10; have q111 := hA1.g11)
            | (go_at_call 91; (with_reducible refine (H2 _ (HT.out _ (HG.out _ (by repeat first | assumption | exact Fr.refl _ _ | refine Fr.trans ?_ (by assumption))).2)).mono ?_); rintro e w2 ⟨rfl, hF2⟩; have hA2 := (HG.out w2 (by repeat first | assumption | exact Fr.refl _ _ | refine Fr.trans ?_ (by assumption))).1; have q20 := hA2.g0; have q21 := hA2.g1; have q22 := hA2.g2; have q23 := hA2.g3; have q24 := hA2.g4; have q25 := hA2.g5; have q26 := hA2.g6; have q27 := hA2.g7; have q28 := hA2.g8; have q29 := hA2.g9; have q210 := hA2.g10; have q211 := hA2.g11)
            | (go_at_call 92; (with_reducible refine (H3 _).mono ?_); rintro e w3 ⟨rfl, hF3⟩; have hA3 := (HG.out w3 (by repeat first | assumption | exact Fr.refl _ _ | refine Fr.trans ?_ (by assumption))).1; have q30 := hA3.g0; have q31 := hA3.g1; have q32 := hA3.g2; have q33 := hA3.g3; have q34 := hA3.g4; have q35 := hA3.g5; have q36 := hA3.g6; have q37 := hA3.g7; have q38 := hA3.g8; have q39 := hA3.g9; have q310 := hA3.g10; have q311 := hA3.g11; clear H3))
          go_ret
          exact ⟨rfl, (HG.out _ (by repeat first | assumption | exact Fr.refl _ _ | refine Fr.trans ?_ (by assumption))).2⟩
theorem rcheck_any (t u : ByteArray) (fx ar : Bool) (r1 c1 : Int) (x1 y1 : Bool) (r2 c2 : Int) (x2 y2 : Bool) (w : World) (ht : t.size ≤ 140737488355328) (hu : u.size ≤ 140737488355328) (hT : Tabs w) :
    Calls Tryz.prog 60 #[(.agg #[.string t, .string u, .bool fx, .bool ar, .int .i64 r1, .int .i64 c1, .bool x1, .bool y1, .int .i64 r2, .int .i64 c2, .bool x2, .bool y2])] w fun e w' => e = .returned (.int .i64 (chkF t u fx ar r1 c1 r2 c2 x2 y2)) ∧ Fr noB w w' := by
  cases e1 : t.toList.isEmpty with
  | true =>
    cases e2 : u.toList.isEmpty with
    | true =>
      cases hf : fx with
      | true => exact rck_b1 t u true ar r1 c1 x1 y1 r2 c2 x2 y2 w ht hu hT e1 e2 rfl
      | false => exact rck_g1 t u false ar r1 c1 x1 y1 r2 c2 x2 y2 w ht hu hT e1 e2 rfl
    | false => exact rck_b2 t u fx ar r1 c1 x1 y1 r2 c2 x2 y2 w ht hu hT e1 e2
  | false =>
    cases s1 : shtF t with
    | false => exact rck_b3 t u fx ar r1 c1 x1 y1 r2 c2 x2 y2 w ht hu hT e1 s1
    | true =>
      cases e2 : u.toList.isEmpty with
      | true => exact rck_g2 t u fx ar r1 c1 x1 y1 r2 c2 x2 y2 w ht hu hT e1 s1 e2
      | false =>
        cases s2 : shtF u with
        | false => exact rck_b4 t u fx ar r1 c1 x1 y1 r2 c2 x2 y2 w ht hu hT e1 s1 e2 s2
        | true => exact rck_g3 t u fx ar r1 c1 x1 y1 r2 c2 x2 y2 w ht hu hT e1 s1 e2 s2
#print axioms rcheck_any
end Go.Proofs.YtdmjbhbiehjelaaGreatDoor
/- Text: the program's contract. -/
namespace Go.Proofs.YtdmjbhbiehjelaaGreatDoor
open Go.RowKit Go.Shelf

theorem itoa_nat_r (n : Nat) : Lib.itoa (n : Int) = Lib.decDigits n := by
  unfold Lib.itoa
  rw [if_neg (by omega)]
  simp
theorem Fr.grow_r {S : Nat → Prop} {a w : World} (h : Fr S a w) (os : Array Obj) : Fr S a (Go.Sort.grow w os) :=
  ⟨h.os, h.tape, h.output, by rw [Go.Sort.size_grow]; have := h.size; omega, fun k hk hs => by
    have hw : k < w.heap.size := Nat.lt_of_lt_of_le hk h.size
    show (w.heap ++ os)[k]? = _
    rw [Array.getElem?_append_left hw]
    exact h.block k hk hs⟩
theorem itoa_any (n : Nat) (hn : n ≤ 9223372036854775807) (w : World) (hU : UTab_r w) : Calls Tryz.prog 57 #[.int .i64 (n : Int)] w fun e w' => e = .returned (.string (baL_r (Lib.decDigits n))) ∧ Fr noB w w' :=
  (show Calls Tryz.prog 57 _ w _ from Any.strconv_Itoa Tryz.laysLaysMn171 (n : Int) (by omega) (by omega) w hU.t).mono fun e w' ⟨he, k, os, hw⟩ => ⟨by rw [he, itoa_nat_r]; rfl, by rw [hw]; exact ((Fr.refl noB w).drewN k).grow_r os⟩
def dolB (b : Bool) : ByteArray := if b = true then ⟨#[36]⟩ else ⟨#[]⟩
def dolL (b : Bool) : List UInt8 := if b = true then [36] else []
theorem dolB_is (b : Bool) : dolB b = baL_r (dolL b) := by cases b <;> rfl
theorem dolB_size (b : Bool) : (dolB b).size ≤ 1 := by cases b <;> decide
set_option maxRecDepth 100000 in
theorem dollar_any (b : Bool) (w : World) : Calls Tryz.prog 76 #[.bool b] w fun e w' => e = .returned (.string (dolB b)) ∧ w' = w := by
  cases b
  all_goals
    go_enter Tryz.func76, Tryz.ntmps76
    go_wp2_with fail
    go_ret
    exact ⟨rfl, rfl⟩
/-- A corner's text. -/
def corL (r c : Nat) (x y : Bool) : List UInt8 := dolL y ++ (ltrL c ++ (dolL x ++ Lib.decDigits (r + 1)))
/-- A sheet's name, if there is one, a point, and a corner. -/
def celL (t : ByteArray) (r c : Nat) (x y : Bool) : List UInt8 := (quoF t).data.toList ++ (46 :: corL r c x y)
theorem dec_len : ∀ (n : Nat), (Lib.decDigits n).length ≤ n + 1 := by
  intro n
  induction n using Nat.strongRecOn with
  | _ n ih =>
    by_cases h : n < 10
    · rw [Lib.decDigits, dif_pos h]; simp
    · rw [Lib.decDigits, dif_neg h]
      have := ih (n / 10) (by omega)
      simp
      omega
theorem quo_small (t : ByteArray) : (quoF t).size ≤ 66 := by
  rw [quo_size]
  split
  · rename_i h
    have := shtF_size h
    split <;> omega
  · omega
section
variable {P : Program} {ops : Array Oper} {S : World → Prop} {op : Oper} {a : Act}
theorem y_cat (A B : ByteArray) (x y : Operand) (hw : Region.wanted op (yielded ops a.tmps) = true) (ho : op.op = .binOp .add 9 x y 9) (hx : a.eval x = .string A) (hy : a.eval y = .string B) (hs : A.size + B.size ≤ 9223372036854775807) : YieldsIf Tryz.prog ops S op (.string (A ++ B)) a :=
  .inl ⟨hw, fun w _ => by
    unfold execOp
    simp only [ho, hx, hy]
    simp [go_sem, hs]⟩
theorem y_add1 (n m : Int) (x y : Operand) (hw : Region.wanted op (yielded ops a.tmps) = true) (ho : op.op = .binOp .add 3 x y 3) (hx : a.eval x = .int .i64 n) (hy : a.eval y = .int .i64 1) (h0 : 0 ≤ n) (h1 : n ≤ 1048576) (hm : n + 1 = m) : YieldsIf Tryz.prog ops S op (.int .i64 m) a :=
  .inl ⟨hw, fun w _ => by
    unfold execOp
    simp only [ho, hx, hy]
    subst hm
    have hwr : IntKind.i64.wrap (n + 1) = n + 1 := by unfold IntKind.wrap; simp [IntKind.bits, IntKind.signed]; omega
    simp [go_sem, hwr]⟩
end
theorem frame_to {Q : Exit → Act → World → Prop} {a : Act} {w : World} (b : Act) (h : a = b) (hq : Q .normal b w) : Q .normal a w := by
  rw [h]
  exact hq
set_option maxRecDepth 100000 in
set_option maxHeartbeats 400000 in
theorem cellText_any (t : ByteArray) (r c : Nat) (x y : Bool) (w : World) (hr : r < 1048576) (hc : c < 1024) (hU : UTab_r w) :
    Calls Tryz.prog 77 #[.string t, (.agg #[.int .i64 (r : Int), .int .i64 (c : Int), .bool x, .bool y])] w fun e w' => e = .returned (.string (baL_r (celL t r c x y))) ∧ Fr noB w w' := by
  have HQ := quote_two t
  have HL := letters_any c hc
  have HI : Hid (∀ W, Fr noB w W → _) := fun W hW => itoa_any (r + 1) (by omega) W (hU.fr hW)
  have HE : Hid (baL_r (celL t r c x y) = ((((quoF t ++ ⟨#[46]⟩) ++ dolB y) ++ baL_r (ltrL c)) ++ dolB x) ++ baL_r (Lib.decDigits (r + 1))) := by
    show baL_r (celL t r c x y) = _
    rw [dolB_is, dolB_is]
    apply ByteArray.ext
    simp [baL_r, celL, corL, ByteArray.data_append]
  have z1 := quo_small t
  have z2 := dolB_size y
  have z3 := dolB_size x
  have z4 : (baL_r (ltrL c)).size ≤ 1024 := by rw [baL_size_r]; have := ltrGo_len 1025 (c + 1); unfold ltrL; omega
  have z5 : (baL_r (Lib.decDigits (r + 1))).size ≤ 1048580 := by rw [baL_size_r]; have := dec_len (r + 1); omega
  have hDy := dollar_any y
  have hDx := dollar_any x
  have hr1 : ((r + 1 : Nat) : Int) = (r : Int) + 1 := by omega
  rw [hr1] at HI
  obtain ⟨W0, hW0⟩ : ∃ W0, w.alloc (.cells #[.int .i64 (r : Int), .int .i64 (c : Int), .bool x, .bool y] 24 (0, 0)) = W0 := ⟨_, rfl⟩
  have hK0 : KAt W0 w.heap.size r c x y := ⟨by rw [← hW0]; exact heap_alloc_new w _⟩
  have hF0 : Fr noB w W0 := by rw [← hW0]; exact (Fr.refl noB w).alloc _
  have HF : Hid (Fr noB w W0) := hF0
  have HK : Hid (KAt W0 w.heap.size r c x y) := hK0
  generalize quoF t = Q at *
  generalize quoE t = E at *
  generalize dolB y = DY at *
  generalize dolB x = DX at *
  generalize baL_r (ltrL c) = L at *
  generalize baL_r (Lib.decDigits (r + 1)) = D at *
  have hz46 : (⟨#[46]⟩ : ByteArray).size = 1 := rfl
  clear hK0 hF0 hU hr1
  go_enter Tryz.func77, Tryz.ntmps77
  go_wp2_with (go_at_call 113; refine (HQ _).mono ?_; rintro e w1 ⟨rfl, hF1⟩)
  have hK1 := HK.out.fr hF1 id
  have HG : Hid (∀ W, Fr noB w1 W → W.cell? ⟨w.heap.size, 0, none⟩ = some (.int .i64 (r : Int)) ∧ W.cell? ⟨w.heap.size, 1, none⟩ = some (.int .i64 (c : Int)) ∧ W.cell? ⟨w.heap.size, 2, none⟩ = some (.bool x) ∧ W.cell? ⟨w.heap.size, 3, none⟩ = some (.bool y)) := fun W hW => ⟨(hK1.fr hW id).c0, (hK1.fr hW id).c1, (hK1.fr hW id).c2, (hK1.fr hW id).c3⟩
  have HF1 : Hid (Fr noB w w1) := HF.out.trans hF1
  clear hK1 hF1
  have z6 : (r : Int) + 1 ≤ 1048576 := by omega
  refine wp_region_held_drew (S := fun W => W.cell? ⟨w.heap.size, 0, none⟩ = some (.int .i64 (r : Int)) ∧ W.cell? ⟨w.heap.size, 1, none⟩ = some (.int .i64 (c : Int)) ∧ W.cell? ⟨w.heap.size, 2, none⟩ = some (.bool x) ∧ W.cell? ⟨w.heap.size, 3, none⟩ = some (.bool y)) (by kernel_rfl) (HG.out _ (Fr.refl _ _).drew) (fun hHeld => ?_)
  refine wpAnyH_take (i := 0) (v := .string Q) rfl (by kernel_rfl) (by kernel_rfl) (by kernel_rfl) (fun _ _ _ h => h) (Or.inl ⟨by kernel_rfl, fun w hSw => by kernel_rfl⟩) hHeld ?_
  refine wpAnyH_take (i := 1) (v := .string (Q ++ (⟨#[46]⟩ : ByteArray))) rfl (by kernel_rfl) (by kernel_rfl) (by kernel_rfl) (fun _ _ _ h => h) (y_cat Q (⟨#[46]⟩ : ByteArray) (.tmp 12) (.const (.string ⟨#[46]⟩)) (by kernel_rfl) rfl (by kernel_rfl) (by kernel_rfl) (by rw [hz46]; omega)) hHeld ?_
  refine wpAnyH_take (i := 2) (v := .pointer (some ⟨w.heap.size, 3, none⟩)) rfl (by kernel_rfl) (by kernel_rfl) (by kernel_rfl) (fun _ _ _ h => h) (Or.inl ⟨by kernel_rfl, fun w hSw => by kernel_rfl⟩) hHeld ?_
  refine wpAnyH_take (i := 3) (v := .bool y) rfl (by kernel_rfl) (by kernel_rfl) (by kernel_rfl) (fun _ _ _ h => h) (y_loadOf 4 load_boo (.tmp 14) w.heap.size 3 _ (by kernel_rfl) rfl (by kernel_rfl) (fun w h => h.2.2.2)) hHeld ?_
  refine wpAnyH_take (i := 6) (v := .pointer (some ⟨w.heap.size, 1, none⟩)) rfl (by kernel_rfl) (by kernel_rfl) (by kernel_rfl) (fun _ _ _ h => h) (Or.inl ⟨by kernel_rfl, fun w hSw => by kernel_rfl⟩) hHeld ?_
  refine wpAnyH_take (i := 7) (v := .int .i64 (c : Int)) rfl (by kernel_rfl) (by kernel_rfl) (by kernel_rfl) (fun _ _ _ h => h) (y_loadOf 3 load_int (.tmp 18) w.heap.size 1 _ (by kernel_rfl) rfl (by kernel_rfl) (fun w h => h.2.1)) hHeld ?_
  refine wpAnyH_take (i := 10) (v := .pointer (some ⟨w.heap.size, 2, none⟩)) rfl (by kernel_rfl) (by kernel_rfl) (by kernel_rfl) (fun _ _ _ h => h) (Or.inl ⟨by kernel_rfl, fun w hSw => by kernel_rfl⟩) hHeld ?_
  refine wpAnyH_take (i := 11) (v := .bool x) rfl (by kernel_rfl) (by kernel_rfl) (by kernel_rfl) (fun _ _ _ h => h) (y_loadOf 4 load_boo (.tmp 22) w.heap.size 2 _ (by kernel_rfl) rfl (by kernel_rfl) (fun w h => h.2.2.1)) hHeld ?_
  refine wpAnyH_take (i := 14) (v := .pointer (some ⟨w.heap.size, 0, none⟩)) rfl (by kernel_rfl) (by kernel_rfl) (by kernel_rfl) (fun _ _ _ h => h) (Or.inl ⟨by kernel_rfl, fun w hSw => by kernel_rfl⟩) hHeld ?_
  refine wpAnyH_take (i := 15) (v := .int .i64 (r : Int)) rfl (by kernel_rfl) (by kernel_rfl) (by kernel_rfl) (fun _ _ _ h => h) (y_loadOf 3 load_int (.tmp 26) w.heap.size 0 _ (by kernel_rfl) rfl (by kernel_rfl) (fun w h => h.1)) hHeld ?_
  refine wpAnyH_take (i := 16) (v := .int .i64 ((r : Int) + 1)) rfl (by kernel_rfl) (by kernel_rfl) (by kernel_rfl) (fun _ _ _ h => h) (y_add1 (r : Int) _ (.tmp 27) (.const (.int .i64 1)) (by kernel_rfl) rfl (by kernel_rfl) (by kernel_rfl) (by omega) (by omega) rfl) hHeld ?_
  refine wpAnyH_ready (rs := [4]) (by kernel_rfl) (by simp) ?_
  refine AllReadyH.cons rfl (fun K hK => ?_) AllReadyH.nil
  refine wp_go 76 #[.bool y] (by kernel_rfl) ?_
  refine (hDy _).mono ?_
  rintro e w2 ⟨rfl, rfl⟩
  refine hK.out _ _ (HG.out _ (Fr.refl _ _).drew) (fun hHeld1 => ?_)
  clear hK K
  refine wpAnyH_take (i := 5) (v := .string ((Q ++ (⟨#[46]⟩ : ByteArray)) ++ DY)) rfl (by kernel_rfl) (by kernel_rfl) (by kernel_rfl) (fun _ _ _ h => h) (y_cat (Q ++ (⟨#[46]⟩ : ByteArray)) DY (.tmp 13) (.tmp 16) (by kernel_rfl) rfl (by kernel_rfl) (by kernel_rfl) (by simp only [ByteArray.size_append, hz46]; omega)) hHeld1 ?_
  refine wpAnyH_ready (rs := [8]) (by kernel_rfl) (by simp) ?_
  refine AllReadyH.cons rfl (fun K hK => ?_) AllReadyH.nil
  refine wp_go 114 #[.int .i64 (c : Int)] (by kernel_rfl) ?_
  refine (HL _).mono ?_
  rintro e w3 ⟨rfl, rfl⟩
  refine hK.out _ _ (HG.out _ (Fr.refl _ _).drew) (fun hHeld2 => ?_)
  clear hK K
  refine wpAnyH_take (i := 9) (v := .string (((Q ++ (⟨#[46]⟩ : ByteArray)) ++ DY) ++ L)) rfl (by kernel_rfl) (by kernel_rfl) (by kernel_rfl) (fun _ _ _ h => h) (y_cat ((Q ++ (⟨#[46]⟩ : ByteArray)) ++ DY) L (.tmp 17) (.tmp 20) (by kernel_rfl) rfl (by kernel_rfl) (by kernel_rfl) (by simp only [ByteArray.size_append, hz46]; omega)) hHeld2 ?_
  refine wpAnyH_ready (rs := [12]) (by kernel_rfl) (by simp) ?_
  refine AllReadyH.cons rfl (fun K hK => ?_) AllReadyH.nil
  refine wp_go 76 #[.bool x] (by kernel_rfl) ?_
  refine (hDx _).mono ?_
  rintro e w4 ⟨rfl, rfl⟩
  refine hK.out _ _ (HG.out _ (Fr.refl _ _).drew) (fun hHeld3 => ?_)
  clear hK K
  refine wpAnyH_take (i := 13) (v := .string ((((Q ++ (⟨#[46]⟩ : ByteArray)) ++ DY) ++ L) ++ DX)) rfl (by kernel_rfl) (by kernel_rfl) (by kernel_rfl) (fun _ _ _ h => h) (y_cat (((Q ++ (⟨#[46]⟩ : ByteArray)) ++ DY) ++ L) DX (.tmp 21) (.tmp 24) (by kernel_rfl) rfl (by kernel_rfl) (by kernel_rfl) (by simp only [ByteArray.size_append, hz46]; omega)) hHeld3 ?_
  refine wpAnyH_ready (rs := [17]) (by kernel_rfl) (by simp) ?_
  refine AllReadyH.cons rfl (fun K hK => ?_) AllReadyH.nil
  refine wp_go 57 #[.int .i64 ((r : Int) + 1)] (by kernel_rfl) ?_
  refine (HI.out _ HF1.out.drew).mono ?_
  rintro e w5 ⟨rfl, hF5⟩
  refine hK.out _ _ (HG.out _ (Fr.trans (Fr.refl _ _).drew hF5)) (fun hHeld4 => ?_)
  clear hK K
  refine wpAnyH_take (i := 18) (v := .string (((((Q ++ (⟨#[46]⟩ : ByteArray)) ++ DY) ++ L) ++ DX) ++ D)) rfl (by kernel_rfl) (by kernel_rfl) (by kernel_rfl) (fun _ _ _ h => h) (y_cat ((((Q ++ (⟨#[46]⟩ : ByteArray)) ++ DY) ++ L) ++ DX) D (.tmp 25) (.tmp 29) (by kernel_rfl) rfl (by kernel_rfl) (by kernel_rfl) (by simp only [ByteArray.size_append, hz46]; omega)) hHeld4 ?_
  refine wpAnyH_take (i := 19) (v := .string (((((Q ++ (⟨#[46]⟩ : ByteArray)) ++ DY) ++ L) ++ DX) ++ D)) rfl (by kernel_rfl) (by kernel_rfl) (by kernel_rfl) (fun _ _ _ h => h) (Or.inl ⟨by kernel_rfl, fun w hSw => by kernel_rfl⟩) hHeld4 ?_
  refine wpAnyH_done (by kernel_rfl) ?_ _
  refine frame_to { tmps := #[.string t, (.agg #[.int .i64 (r : Int), .int .i64 (c : Int), .bool x, .bool y]), undef, .pointer (some ⟨w.heap.size, 0, none⟩), .string (((((Q ++ (⟨#[46]⟩ : ByteArray)) ++ DY) ++ L) ++ DX) ++ D), .string Q, .int .i64 E, .tuple #[.string Q, .int .i64 E], .string t, .tuple #[.string Q, .int .i64 E], .string Q, .int .i64 E, .string Q, .string (Q ++ (⟨#[46]⟩ : ByteArray)), .pointer (some ⟨w.heap.size, 3, none⟩), .bool y, .string DY, .string ((Q ++ (⟨#[46]⟩ : ByteArray)) ++ DY), .pointer (some ⟨w.heap.size, 1, none⟩), .int .i64 (c : Int), .string L, .string (((Q ++ (⟨#[46]⟩ : ByteArray)) ++ DY) ++ L), .pointer (some ⟨w.heap.size, 2, none⟩), .bool x, .string DX, .string ((((Q ++ (⟨#[46]⟩ : ByteArray)) ++ DY) ++ L) ++ DX), .pointer (some ⟨w.heap.size, 0, none⟩), .int .i64 (r : Int), .int .i64 ((r : Int) + 1), .string D, .string (((((Q ++ (⟨#[46]⟩ : ByteArray)) ++ DY) ++ L) ++ DX) ++ D)], defers := [] } (by kernel_rfl) ?_
  go_wp2_with fail
  go_ret
  rw [HE.out]
  exact ⟨rfl, Fr.trans HF1.out.drew hF5⟩
#print axioms cellText_any
#print axioms itoa_any
end Go.Proofs.YtdmjbhbiehjelaaGreatDoor
/- Text: the program's contract. -/
namespace Go.Proofs.YtdmjbhbiehjelaaGreatDoor
open Go.RowKit Go.Shelf

/-- A reference's text. -/
def texL (t u : ByteArray) (fx ar : Bool) (r1 c1 : Nat) (x1 y1 : Bool) (r2 c2 : Nat) (x2 y2 : Bool) : List UInt8 := dolL fx ++ (celL t r1 c1 x1 y1 ++ (if ar = true then 58 :: celL u r2 c2 x2 y2 else []))
section
variable {P : Program} {ops : Array Oper} {S : World → Prop} {op : Oper} {a : Act}
theorem y_loadS (ty : TypeId) (x : Operand) (p v : Value) (hw : Region.wanted op (yielded ops a.tmps) = true) (ho : op.op = .load ty x) (hx : a.eval x = p) (hS : ∀ w, S w → (Instr.loadAt ty p).run Tryz.prog w = .ok v w) : YieldsIf Tryz.prog ops S op v a :=
  .inl ⟨hw, fun w hw' => by
    unfold execOp
    simp only [ho, hx, Sem.run_bind, Sem.run_pure, hS w hw', Result.andThen_ok]⟩
end
theorem load_cor (w : World) (b o : Nat) (r c : Int) (x y : Bool) (h0 : w.cell? ⟨b, o, none⟩ = some (.int .i64 r)) (h1 : w.cell? ⟨b, o + 1, none⟩ = some (.int .i64 c)) (h2 : w.cell? ⟨b, o + 2, none⟩ = some (.bool x)) (h3 : w.cell? ⟨b, o + 3, none⟩ = some (.bool y)) : (Instr.loadAt 24 (.pointer (some ⟨b, o, none⟩))).run Tryz.prog w = .ok (.agg #[.int .i64 r, .int .i64 c, .bool x, .bool y]) w := by
  have hu := Tryz.underlying24
  simp [go_sem, h0, h1, h2, h3]
theorem cel_len (t : ByteArray) (r c : Nat) (x y : Bool) (hr : r < 1048576) (hc : c < 1024) : (celL t r c x y).length ≤ 1060000 := by
  unfold celL corL
  have h1 := quo_small t
  have h2 := dec_len (r + 1)
  have h3 := ltrGo_len 1025 (c + 1)
  have h4 : (dolL x).length ≤ 1 := by cases x <;> decide
  have h5 : (dolL y).length ≤ 1 := by cases y <;> decide
  have h6 : (quoF t).data.toList.length = (quoF t).size := by simp
  have h7 : (ltrL c).length ≤ c + 1 := h3
  simp only [List.length_append, List.length_cons]
  omega
set_option maxRecDepth 100000 in
set_option maxHeartbeats 1000000 in
theorem text_no (t u : ByteArray) (fx ar : Bool) (r1 c1 : Int) (x1 y1 : Bool) (r2 c2 : Int) (x2 y2 : Bool) (w : World) (hne : ¬ chkF t u fx ar r1 c1 r2 c2 x2 y2 = 0) :
    Calls Tryz.prog 44 #[(.agg #[.string t, .string u, .bool fx, .bool ar, .int .i64 r1, .int .i64 c1, .bool x1, .bool y1, .int .i64 r2, .int .i64 c2, .bool x2, .bool y2])] w fun e w' => e = .returned (.tuple #[.string ⟨#[]⟩, .int .i64 (chkF t u fx ar r1 c1 r2 c2 x2 y2)]) ∧ Fr noB w w' := by
  have H1 := check_any t u fx ar r1 c1 x1 y1 r2 c2 x2 y2
  generalize chkF t u fx ar r1 c1 r2 c2 x2 y2 = E at *
  have hF0 : Fr noB w (w.alloc (.cells #[.string t, .string u, .bool fx, .bool ar, .int .i64 r1, .int .i64 c1, .bool x1, .bool y1, .int .i64 r2, .int .i64 c2, .bool x2, .bool y2] 26 (0, 0))) := (Fr.refl noB w).alloc _
  have HF : Hid _ := hF0
  clear hF0
  go_enter Tryz.func44, Tryz.ntmps44
  go_wp2_with (go_at_call 75; refine (H1 _).mono ?_; rintro e w1 ⟨rfl, hF1⟩)
  go_ret2
  exact ⟨rfl, HF.out.trans hF1⟩
set_option maxRecDepth 100000 in
set_option maxHeartbeats 1000000 in
theorem text_ok (t u : ByteArray) (fx ar : Bool) (r1 c1 : Nat) (x1 y1 : Bool) (r2 c2 : Nat) (x2 y2 : Bool) (w : World) (hok : chkF t u fx ar r1 c1 r2 c2 x2 y2 = 0) (hr1 : r1 < 1048576) (hc1 : c1 < 1024) (hr2 : r2 < 1048576) (hc2 : c2 < 1024) (hU : UTab_r w) :
    Calls Tryz.prog 44 #[(.agg #[.string t, .string u, .bool fx, .bool ar, .int .i64 (r1 : Int), .int .i64 (c1 : Int), .bool x1, .bool y1, .int .i64 (r2 : Int), .int .i64 (c2 : Int), .bool x2, .bool y2])] w fun e w' => e = .returned (.tuple #[.string (baL_r (texL t u fx ar r1 c1 x1 y1 r2 c2 x2 y2)), .int .i64 0]) ∧ Fr noB w w' := by
  have H1 := check_any t u fx ar r1 c1 x1 y1 r2 c2 x2 y2
  rw [hok] at H1
  have HD := dollar_any fx
  have HA : Hid (∀ W, Fr noB w W → _) := fun W hW => cellText_any t r1 c1 x1 y1 W hr1 hc1 (hU.fr hW)
  have HB : Hid (∀ W, Fr noB w W → _) := fun W hW => cellText_any u r2 c2 x2 y2 W hr2 hc2 (hU.fr hW)
  have z1 := dolB_size fx
  have z2 : (baL_r (celL t r1 c1 x1 y1)).size ≤ 1060000 := by rw [baL_size_r]; exact cel_len t r1 c1 x1 y1 hr1 hc1
  have z3 : (baL_r (celL u r2 c2 x2 y2)).size ≤ 1060000 := by rw [baL_size_r]; exact cel_len u r2 c2 x2 y2 hr2 hc2
  have HE : Hid (baL_r (texL t u fx ar r1 c1 x1 y1 r2 c2 x2 y2) = (if ar = true then (dolB fx ++ baL_r (celL t r1 c1 x1 y1)) ++ (⟨#[58]⟩ ++ baL_r (celL u r2 c2 x2 y2)) else dolB fx ++ baL_r (celL t r1 c1 x1 y1))) := by
    show baL_r (texL t u fx ar r1 c1 x1 y1 r2 c2 x2 y2) = _
    rw [dolB_is]
    cases ar
    · rw [if_neg (by simp)]
      apply ByteArray.ext
      simp [baL_r, texL, ByteArray.data_append]
    · rw [if_pos rfl]
      apply ByteArray.ext
      simp [baL_r, texL, ByteArray.data_append]
  obtain ⟨W0, hW0⟩ : ∃ W0, w.alloc (.cells #[.string t, .string u, .bool fx, .bool ar, .int .i64 (r1 : Int), .int .i64 (c1 : Int), .bool x1, .bool y1, .int .i64 (r2 : Int), .int .i64 (c2 : Int), .bool x2, .bool y2] 26 (0, 0)) = W0 := ⟨_, rfl⟩
  have hA0 : RAt W0 w.heap.size t u fx ar (r1 : Int) (c1 : Int) x1 y1 (r2 : Int) (c2 : Int) x2 y2 := ⟨by rw [← hW0]; exact heap_alloc_new w _⟩
  have hF0 : Fr noB w W0 := by rw [← hW0]; exact (Fr.refl noB w).alloc _
  have HG0 : Hid (∀ W, Fr noB W0 W → RAt W w.heap.size t u fx ar (r1 : Int) (c1 : Int) x1 y1 (r2 : Int) (c2 : Int) x2 y2 ∧ Fr noB w W) := fun W hW => ⟨hA0.fr hW id, hF0.trans hW⟩
  have g0 := hA0.g0; have g1 := hA0.g1; have g2 := hA0.g2; have g3 := hA0.g3; have g4 := hA0.g4; have g5 := hA0.g5; have g6 := hA0.g6; have g7 := hA0.g7; have g8 := hA0.g8; have g9 := hA0.g9; have g10 := hA0.g10; have g11 := hA0.g11
  generalize dolB fx = DF at *
  generalize baL_r (celL t r1 c1 x1 y1) = CA at *
  generalize baL_r (celL u r2 c2 x2 y2) = CB at *
  generalize baL_r (texL t u fx ar r1 c1 x1 y1 r2 c2 x2 y2) = TX at *
  have h58 : (⟨#[58]⟩ : ByteArray).size = 1 := rfl
  clear hA0 hF0 hU hok hr1 hc1 hr2 hc2
  go_enter Tryz.func44, Tryz.ntmps44
  go_wp2_with (go_at_call 75; refine (H1 _).mono ?_; rintro e w1 ⟨rfl, hF1⟩)
  have HG : Hid (∀ W, Fr noB w1 W → RAt W w.heap.size t u fx ar (r1 : Int) (c1 : Int) x1 y1 (r2 : Int) (c2 : Int) x2 y2 ∧ Fr noB w W) := fun W hW => HG0.out W (hF1.trans hW)
  clear g0 g1 g2 g3 g4 g5 g6 g7 g8 g9 g10 g11 hW0 HG0 hF1
  refine wp_region_held_drew (S := fun W => RAt W w.heap.size t u fx ar (r1 : Int) (c1 : Int) x1 y1 (r2 : Int) (c2 : Int) x2 y2) (by kernel_rfl) (HG.out _ (Fr.refl _ _).drew).1 (fun hHeld => ?_)
  refine wpAnyH_take (i := 0) (v := .pointer (some ⟨w.heap.size, 2, none⟩)) rfl (by kernel_rfl) (by kernel_rfl) (by kernel_rfl) (fun _ _ _ h => h) (Or.inl ⟨by kernel_rfl, fun w hSw => by kernel_rfl⟩) hHeld ?_
  refine wpAnyH_take (i := 1) (v := .bool fx) rfl (by kernel_rfl) (by kernel_rfl) (by kernel_rfl) (fun _ _ _ h => h) (y_loadOf 4 load_boo (.tmp 11) w.heap.size 2 _ (by kernel_rfl) rfl (by kernel_rfl) (fun w h => h.g2)) hHeld ?_
  refine wpAnyH_take (i := 3) (v := .pointer (some ⟨w.heap.size, 0, none⟩)) rfl (by kernel_rfl) (by kernel_rfl) (by kernel_rfl) (fun _ _ _ h => h) (Or.inl ⟨by kernel_rfl, fun w hSw => by kernel_rfl⟩) hHeld ?_
  refine wpAnyH_take (i := 4) (v := .string t) rfl (by kernel_rfl) (by kernel_rfl) (by kernel_rfl) (fun _ _ _ h => h) (y_loadOf 9 load_str (.tmp 14) w.heap.size 0 _ (by kernel_rfl) rfl (by kernel_rfl) (fun w h => h.g0)) hHeld ?_
  refine wpAnyH_take (i := 5) (v := .pointer (some ⟨w.heap.size, 4, none⟩)) rfl (by kernel_rfl) (by kernel_rfl) (by kernel_rfl) (fun _ _ _ h => h) (Or.inl ⟨by kernel_rfl, fun w hSw => by kernel_rfl⟩) hHeld ?_
  refine wpAnyH_take (i := 6) (v := (.agg #[.int .i64 (r1 : Int), .int .i64 (c1 : Int), .bool x1, .bool y1])) rfl (by kernel_rfl) (by kernel_rfl) (by kernel_rfl) (fun _ _ _ h => h) (y_loadS 24 (.tmp 16) (.pointer (some ⟨w.heap.size, 4, none⟩)) _ (by kernel_rfl) rfl (by kernel_rfl) (fun w h => load_cor w _ 4 _ _ _ _ h.g4 h.g5 h.g6 h.g7)) hHeld ?_
  refine wpAnyH_ready (rs := [2]) (by kernel_rfl) (by simp) ?_
  refine AllReadyH.cons rfl (fun K hK => ?_) AllReadyH.nil
  refine wp_go 76 #[.bool fx] (by kernel_rfl) ?_
  refine (HD _).mono ?_
  rintro e w2 ⟨rfl, rfl⟩
  refine hK.out _ _ (HG.out _ (Fr.refl _ _).drew).1 (fun hHeld1 => ?_)
  clear hK K
  refine wpAnyH_ready (rs := [7]) (by kernel_rfl) (by simp) ?_
  refine AllReadyH.cons rfl (fun K hK => ?_) AllReadyH.nil
  refine wp_go 77 #[.string t, (.agg #[.int .i64 (r1 : Int), .int .i64 (c1 : Int), .bool x1, .bool y1])] (by kernel_rfl) ?_
  refine (HA.out _ (HG.out _ (Fr.refl _ _).drew).2).mono ?_
  rintro e w3 ⟨rfl, hF3⟩
  refine hK.out _ _ (HG.out _ (Fr.trans (Fr.refl _ _).drew hF3)).1 (fun hHeld2 => ?_)
  clear hK K
  refine wpAnyH_take (i := 8) (v := .string (DF ++ CA)) rfl (by kernel_rfl) (by kernel_rfl) (by kernel_rfl) (fun _ _ _ h => h) (y_cat DF CA (.tmp 13) (.tmp 18) (by kernel_rfl) rfl (by kernel_rfl) (by kernel_rfl) (by omega)) hHeld2 ?_
  refine wpAnyH_take (i := 9) (v := .string (DF ++ CA)) rfl (by kernel_rfl) (by kernel_rfl) (by kernel_rfl) (fun _ _ _ h => h) (Or.inl ⟨by kernel_rfl, fun w hSw => by kernel_rfl⟩) hHeld2 ?_
  refine wpAnyH_done (by kernel_rfl) ?_ _
  refine frame_to { tmps := #[(.agg #[.string t, .string u, .bool fx, .bool ar, .int .i64 (r1 : Int), .int .i64 (c1 : Int), .bool x1, .bool y1, .int .i64 (r2 : Int), .int .i64 (c2 : Int), .bool x2, .bool y2]), .pointer (some ⟨w.heap.size, 0, none⟩), .string ⟨#[]⟩, .int .i64 0, .int .i64 0, .string (DF ++ CA), (.agg #[.string t, .string u, .bool fx, .bool ar, .int .i64 (r1 : Int), .int .i64 (c1 : Int), .bool x1, .bool y1, .int .i64 (r2 : Int), .int .i64 (c2 : Int), .bool x2, .bool y2]), .int .i64 0, .int .i64 0, .bool false, undef, .pointer (some ⟨w.heap.size, 2, none⟩), .bool fx, .string DF, .pointer (some ⟨w.heap.size, 0, none⟩), .string t, .pointer (some ⟨w.heap.size, 4, none⟩), (.agg #[.int .i64 (r1 : Int), .int .i64 (c1 : Int), .bool x1, .bool y1]), .string CA, .string (DF ++ CA), undef, undef, undef, undef, undef, undef, undef, undef, undef, undef, undef], defers := [] } (by kernel_rfl) ?_
  have hA3 := (HG.out w3 (Fr.trans (Fr.refl _ _).drew hF3)).1
  have hF4 := (HG.out w3 (Fr.trans (Fr.refl _ _).drew hF3)).2
  have g1 := hA3.g1; have g3 := hA3.g3; have g8 := hA3.g8; have g9 := hA3.g9; have g10 := hA3.g10; have g11 := hA3.g11
  clear hHeld hHeld1 hHeld2 hA3 hF3
  cases ar with
  | false =>
    go_wp2_with fail
    go_ret2
    rw [HE.out]
    exact ⟨rfl, hF4⟩
  | true =>
    have s1 : 1 + CB.size ≤ 9223372036854775807 := by omega
    have s2 : DF.size + CA.size + (1 + CB.size) ≤ 9223372036854775807 := by omega
    go_wp2_with (go_at_call 77; refine (HB.out _ hF4).mono ?_; rintro e w5 ⟨rfl, hF5⟩)
    go_ret2
    rw [HE.out]
    exact ⟨rfl, hF4.trans hF5⟩
#print axioms text_ok
#print axioms text_no
end Go.Proofs.YtdmjbhbiehjelaaGreatDoor
