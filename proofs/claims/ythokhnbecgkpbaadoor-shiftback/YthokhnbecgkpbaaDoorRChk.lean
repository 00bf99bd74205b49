/- Check: the program's contract and the document's. -/
import Derived.Test.YthokhnbecgkpbaaDoorREnd
import Derived.Test.YthokhnbecgkpbaaDoorRNmW
namespace Go.Proofs.YthokhnbecgkpbaaDoor
open Go.RowKit Go.Shelf

/-- May a corner be? -/
def corB (r c : Int) : Bool := decide (0 ≤ r) && decide (r < 1048576) && (decide (0 ≤ c ∧ c < 1024))
def empB (t : ByteArray) : Bool := t.toList.isEmpty
/-- Is a corner zero? -/
def zerB (r c : Int) (x y : Bool) : Bool := decide (r = 0) && decide (c = 0) && !x && !y
def shsB (t u : ByteArray) (fx : Bool) : Bool := if empB t = true then empB u && !fx else shtF t && (empB u || shtF u)
def corsB (ar : Bool) (r1 c1 r2 c2 : Int) (x2 y2 : Bool) : Bool := if (!ar && !(zerB r2 c2 x2 y2)) = true then false else corB r1 c1 && corB r2 c2
/-- What Check answers. -/
def chkF (t u : ByteArray) (fx ar : Bool) (r1 c1 r2 c2 : Int) (x2 y2 : Bool) : Int :=
  if shsB t u fx = false then 111 else if (!(corsB ar r1 c1 r2 c2 x2 y2) || (!(empB u) && !ar)) = true then 110 else 0

set_option maxRecDepth 100000 in
set_option maxHeartbeats 2000000 in
theorem cornerFits_any (r c : Int) (x y : Bool) (w : World) : Calls Tryd.prog 74 #[(.agg #[.int .i64 r, .int .i64 c, .bool x, .bool y])] w fun e w' => e = .returned (.bool (corB r c)) ∧ Fr noB w w' := by
  have HI := isCol_any c
  unfold corB
  by_cases h1 : 0 ≤ r
  · by_cases h2 : r < 1048576
    · rw [decide_eq_true h1, decide_eq_true h2]
      generalize decide (0 ≤ c ∧ c < 1024) = D at *
      go_enter Tryd.func74, Tryd.ntmps74
      go_wp2_with (go_at_call 83; refine (HI _).mono ?_; rintro e w1 ⟨rfl, rfl⟩)
      go_ret
      exact ⟨ret_bool (by simp), (Fr.refl noB w).alloc _⟩
    · rw [decide_eq_true h1, decide_eq_false h2]
      go_enter Tryd.func74, Tryd.ntmps74
      go_wp2_with fail
      go_ret
      exact ⟨ret_bool (by simp), (Fr.refl noB w).alloc _⟩
  · rw [decide_eq_false h1]
    go_enter Tryd.func74, Tryd.ntmps74
    go_wp2_with fail
    go_ret
    exact ⟨ret_bool (by simp), (Fr.refl noB w).alloc _⟩
set_option maxRecDepth 100000 in
set_option maxHeartbeats 2000000 in
theorem rcorner_any (r c : Int) (x y : Bool) (w : World) : Calls Tryd.prog 40 #[(.agg #[.int .i64 r, .int .i64 c, .bool x, .bool y])] w fun e w' => e = .returned (.bool (corB r c)) ∧ Fr noB w w' := by
  unfold corB
  go_enter Tryd.func40, Tryd.ntmps40
  go_wp2_with fail
  all_goals
    go_ret
    exact ⟨ret_bool (by rw [Bool.eq_iff_iff]; simp; try omega), (Fr.refl noB w).alloc _⟩
set_option maxRecDepth 100000 in
set_option maxHeartbeats 4000000 in
theorem sheetsFit_any (t u : ByteArray) (fx ar : Bool) (r1 c1 : Int) (x1 y1 : Bool) (r2 c2 : Int) (x2 y2 : Bool) (w : World) :
    Calls Tryd.prog 62 #[(.agg #[.string t, .string u, .bool fx, .bool ar, .int .i64 r1, .int .i64 c1, .bool x1, .bool y1, .int .i64 r2, .int .i64 c2, .bool x2, .bool y2])] w fun e w' => e = .returned (.bool (shsB t u fx)) ∧ Fr noB w w' := by
  have H1 := sheetName_any t
  have H2 := sheetName_any u
  obtain ⟨W0, hW0⟩ : ∃ W0, w.alloc (.cells #[.string t, .string u, .bool fx, .bool ar, .int .i64 r1, .int .i64 c1, .bool x1, .bool y1, .int .i64 r2, .int .i64 c2, .bool x2, .bool y2] 46 (0, 0)) = W0 := ⟨_, rfl⟩
  have hA0 : RAt W0 w.heap.size t u fx ar r1 c1 x1 y1 r2 c2 x2 y2 := ⟨by rw [← hW0]; exact heap_alloc_new w _⟩
  have hF0 : Fr noB w W0 := by rw [← hW0]; exact (Fr.refl noB w).alloc _
  have g0 := hA0.g0; have g1 := hA0.g1; have g2 := hA0.g2
  have HA : Hid _ := hA0
  have HF : Hid _ := hF0
  unfold shsB empB
  clear hA0 hF0
  cases ht : t.toList.isEmpty with
  | true =>
    cases hu : u.toList.isEmpty <;> cases fx
    all_goals
      go_enter Tryd.func62, Tryd.ntmps62
      go_wp2_with fail
      go_ret
      exact ⟨rfl, HF.out⟩
  | false =>
    cases hs : shtF t with
    | false =>
      rw [hs] at H1
      go_enter Tryd.func62, Tryd.ntmps62
      go_wp2_with (go_at_call 46; (with_reducible refine (H1 _).mono ?_); rintro e w1 ⟨rfl, hF1⟩)
      go_ret
      exact ⟨rfl, HF.out.trans hF1⟩
    | true =>
      rw [hs] at H1
      cases hu : u.toList.isEmpty with
      | true =>
        go_enter Tryd.func62, Tryd.ntmps62
        go_wp2_with (go_at_call 46; (with_reducible refine (H1 _).mono ?_); rintro e w1 ⟨rfl, hF1⟩; have k1 := (HA.out.fr hF1 id).g1)
        go_ret
        exact ⟨rfl, HF.out.trans hF1⟩
      | false =>
        generalize shtF u = SU at *
        go_enter Tryd.func62, Tryd.ntmps62
        go_wp2_with (first
          | (go_at_call 46; (with_reducible refine (H1 _).mono ?_); rintro e w1 ⟨rfl, hF1⟩; have k1 := (HA.out.fr hF1 id).g1)
          | (go_at_call 46; (with_reducible refine (H2 _).mono ?_); rintro e w2 ⟨rfl, hF2⟩))
        go_ret
        exact ⟨ret_bool (by simp), (HF.out.trans hF1).trans hF2⟩

theorem zer_cases (r c : Int) (x y : Bool) : (zerB r c x y = true ∧ r = 0 ∧ c = 0 ∧ x = false ∧ y = false) ∨ (zerB r c x y = false ∧ (¬ r = 0 ∨ (r = 0 ∧ ¬ c = 0) ∨ (r = 0 ∧ c = 0 ∧ x = true) ∨ (r = 0 ∧ c = 0 ∧ x = false ∧ y = true))) := by
  unfold zerB
  by_cases h1 : r = 0
  · by_cases h2 : c = 0
    · cases x <;> cases y <;> simp [h1, h2]
    · right; simp [h1, h2]
  · right; simp [h1]
set_option maxRecDepth 100000 in
set_option maxHeartbeats 4000000 in
theorem cornersFit_any (t u : ByteArray) (fx ar : Bool) (r1 c1 : Int) (x1 y1 : Bool) (r2 c2 : Int) (x2 y2 : Bool) (w : World) :
    Calls Tryd.prog 63 #[(.agg #[.string t, .string u, .bool fx, .bool ar, .int .i64 r1, .int .i64 c1, .bool x1, .bool y1, .int .i64 r2, .int .i64 c2, .bool x2, .bool y2])] w fun e w' => e = .returned (.bool (corsB ar r1 c1 r2 c2 x2 y2)) ∧ Fr noB w w' := by
  have H1 := cornerFits_any r1 c1 x1 y1
  have H2 := cornerFits_any r2 c2 x2 y2
  obtain ⟨W0, hW0⟩ : ∃ W0, w.alloc (.cells #[.string t, .string u, .bool fx, .bool ar, .int .i64 r1, .int .i64 c1, .bool x1, .bool y1, .int .i64 r2, .int .i64 c2, .bool x2, .bool y2] 46 (0, 0)) = W0 := ⟨_, rfl⟩
  have hA0 : RAt W0 w.heap.size t u fx ar r1 c1 x1 y1 r2 c2 x2 y2 := ⟨by rw [← hW0]; exact heap_alloc_new w _⟩
  have hF0 : Fr noB w W0 := by rw [← hW0]; exact (Fr.refl noB w).alloc _
  have g3 := hA0.g3; have g4 := hA0.g4; have g5 := hA0.g5; have g6 := hA0.g6; have g7 := hA0.g7; have g8 := hA0.g8; have g9 := hA0.g9; have g10 := hA0.g10; have g11 := hA0.g11
  have HA : Hid _ := hA0
  have HF : Hid _ := hF0
  unfold corsB
  clear hA0 hF0
  generalize corB r1 c1 = KA at *
  generalize corB r2 c2 = KB at *
  cases ar with
  | true =>
    rw [if_neg (by simp)]
    cases KA with
    | true =>
      go_enter Tryd.func63, Tryd.ntmps63
      go_wp2_with (first
        | (go_at_call 74; (with_reducible refine (H1 _).mono ?_); rintro e w1 ⟨rfl, hF1⟩; have hA1 := HA.out.fr hF1 id; have k8 := hA1.g8; have k9 := hA1.g9; have k10 := hA1.g10; have k11 := hA1.g11; clear H1)
        | (go_at_call 74; (with_reducible refine (H2 _).mono ?_); rintro e w2 ⟨rfl, hF2⟩))
      go_ret
      exact ⟨ret_bool (by simp), (HF.out.trans hF1).trans hF2⟩
    | false =>
      go_enter Tryd.func63, Tryd.ntmps63
      go_wp2_with (go_at_call 74; (with_reducible refine (H1 _).mono ?_); rintro e w1 ⟨rfl, hF1⟩)
      go_ret
      exact ⟨ret_bool (by simp), HF.out.trans hF1⟩
  | false =>
    rcases zer_cases r2 c2 x2 y2 with ⟨hz, rfl, rfl, rfl, rfl⟩ | ⟨hz, hn⟩
    · rw [hz, if_neg (by simp)]
      cases KA with
      | true =>
        go_enter Tryd.func63, Tryd.ntmps63
        go_wp2_with (first
          | (go_at_call 74; (with_reducible refine (H1 _).mono ?_); rintro e w1 ⟨rfl, hF1⟩; have hA1 := HA.out.fr hF1 id; have k8 := hA1.g8; have k9 := hA1.g9; have k10 := hA1.g10; have k11 := hA1.g11; clear H1)
          | (go_at_call 74; (with_reducible refine (H2 _).mono ?_); rintro e w2 ⟨rfl, hF2⟩))
        go_ret
        exact ⟨ret_bool (by simp), (HF.out.trans hF1).trans hF2⟩
      | false =>
        go_enter Tryd.func63, Tryd.ntmps63
        go_wp2_with (go_at_call 74; (with_reducible refine (H1 _).mono ?_); rintro e w1 ⟨rfl, hF1⟩)
        go_ret
        exact ⟨ret_bool (by simp), HF.out.trans hF1⟩
    · rw [hz, if_pos (by simp)]
      rcases hn with hn | ⟨rfl, hn⟩ | ⟨rfl, rfl, rfl⟩ | ⟨rfl, rfl, rfl, rfl⟩
      all_goals
        go_enter Tryd.func63, Tryd.ntmps63
        go_wp2_with fail
        go_ret
        exact ⟨rfl, HF.out⟩
#print axioms cornersFit_any
#print axioms sheetsFit_any
end Go.Proofs.YthokhnbecgkpbaaDoor
