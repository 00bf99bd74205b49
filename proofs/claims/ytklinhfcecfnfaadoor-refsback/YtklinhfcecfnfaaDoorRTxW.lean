/- RefsTexts: the law's walk. -/
import Derived.Test.YtklinhfcecfnfaaDoorRTxR
namespace Go.Proofs.YtklinhfcecfnfaaDoor
open Go.RowKit Go.Shelf

theorem chk_ok {t u : ByteArray} {fx ar : Bool} {r1 c1 r2 c2 : Int} {x2 y2 : Bool} (h : chkF t u fx ar r1 c1 r2 c2 x2 y2 = 0) : ∃ a b c d : Nat, r1 = a ∧ c1 = b ∧ r2 = c ∧ c2 = d ∧ a < 1048576 ∧ b < 1024 ∧ c < 1048576 ∧ d < 1024 ∧ shsB t u fx = true ∧ (ar = false → r2 = 0 ∧ c2 = 0 ∧ x2 = false ∧ y2 = false ∧ empB u = true) := by
  have hs : shsB t u fx = true := by
    cases hb : shsB t u fx with
    | true => rfl
    | false => unfold chkF at h; rw [if_pos hb] at h; cases h
  unfold chkF at h
  rw [if_neg (by rw [hs]; simp)] at h
  have hb : (!(corsB ar r1 c1 r2 c2 x2 y2) || (!(empB u) && !ar)) = false := by
    cases hb : (!(corsB ar r1 c1 r2 c2 x2 y2) || (!(empB u) && !ar)) with
    | false => rfl
    | true => rw [if_pos hb] at h; cases h
  have hc : corsB ar r1 c1 r2 c2 x2 y2 = true := by
    cases hc : corsB ar r1 c1 r2 c2 x2 y2 with
    | true => rfl
    | false => rw [hc] at hb; simp at hb
  have hu : ar = false → empB u = true := by
    intro ha
    rw [hc, ha] at hb
    simpa using hb
  unfold corsB at hc
  have hz : (!ar && !(zerB r2 c2 x2 y2)) = false := by
    cases hz : (!ar && !(zerB r2 c2 x2 y2)) with
    | false => rfl
    | true => rw [if_pos hz] at hc; cases hc
  rw [if_neg (by rw [hz]; simp)] at hc
  simp only [Bool.and_eq_true] at hc
  obtain ⟨hA, hB⟩ := hc
  unfold corB at hA hB
  simp only [Bool.and_eq_true, decide_eq_true_eq] at hA hB
  refine ⟨r1.toNat, c1.toNat, r2.toNat, c2.toNat, by omega, by omega, by omega, by omega, by omega, by omega, by omega, by omega, hs, ?_⟩
  intro ha
  rcases zer_cases r2 c2 x2 y2 with ⟨_, e1, e2, e3, e4⟩ | ⟨e, _⟩
  · exact ⟨e1, e2, e3, e4, hu ha⟩
  · rw [ha, e] at hz
    simp at hz
/-- What Text answers. -/
def txtB (t u : ByteArray) (fx ar : Bool) (r1 c1 : Int) (x1 y1 : Bool) (r2 c2 : Int) (x2 y2 : Bool) : ByteArray := if chkF t u fx ar r1 c1 r2 c2 x2 y2 = 0 then baL (texL t u fx ar r1.toNat c1.toNat x1 y1 r2.toNat c2.toNat x2 y2) else ⟨#[]⟩
theorem text_any (t u : ByteArray) (fx ar : Bool) (r1 c1 : Int) (x1 y1 : Bool) (r2 c2 : Int) (x2 y2 : Bool) (w : World) (hU : UTab w) : Calls Tryd.prog 18 #[(.agg #[.string t, .string u, .bool fx, .bool ar, .int .i64 r1, .int .i64 c1, .bool x1, .bool y1, .int .i64 r2, .int .i64 c2, .bool x2, .bool y2])] w fun e w' => e = .returned (.tuple #[.string (txtB t u fx ar r1 c1 x1 y1 r2 c2 x2 y2), .int .i64 (chkF t u fx ar r1 c1 r2 c2 x2 y2)]) ∧ Fr noB w w' := by
  unfold txtB
  by_cases h : chkF t u fx ar r1 c1 r2 c2 x2 y2 = 0
  · rw [if_pos h, h]
    obtain ⟨a, b, c, d, rfl, rfl, rfl, rfl, ha, hb, hc, hd, _, _⟩ := chk_ok h
    simp only [Int.toNat_natCast]
    exact text_ok t u fx ar a b x1 y1 c d x2 y2 w h ha hb hc hd hU
  · rw [if_neg h]
    exact text_no t u fx ar r1 c1 x1 y1 r2 c2 x2 y2 w h
theorem rtext_any (t u : ByteArray) (fx ar : Bool) (r1 c1 : Int) (x1 y1 : Bool) (r2 c2 : Int) (x2 y2 : Bool) (w : World) (ht : t.size ≤ 140737488355328) (hu : u.size ≤ 140737488355328) (hT : Tabs w) (hU : UTab w) : Calls Tryd.prog 19 #[(.agg #[.string t, .string u, .bool fx, .bool ar, .int .i64 r1, .int .i64 c1, .bool x1, .bool y1, .int .i64 r2, .int .i64 c2, .bool x2, .bool y2])] w fun e w' => e = .returned (.tuple #[.string (txtB t u fx ar r1 c1 x1 y1 r2 c2 x2 y2), .int .i64 (chkF t u fx ar r1 c1 r2 c2 x2 y2)]) ∧ Fr noB w w' := by
  unfold txtB
  by_cases h : chkF t u fx ar r1 c1 r2 c2 x2 y2 = 0
  · rw [if_pos h, h]
    obtain ⟨a, b, c, d, rfl, rfl, rfl, rfl, ha, hb, hc, hd, _, _⟩ := chk_ok h
    simp only [Int.toNat_natCast]
    exact rtext_ok t u fx ar a b x1 y1 c d x2 y2 w ht hu h ha hb hc hd hT hU
  · rw [if_neg h]
    exact rtext_no t u fx ar r1 c1 x1 y1 r2 c2 x2 y2 w ht hu hT h
set_option maxRecDepth 100000 in
set_option maxHeartbeats 4000000 in
theorem texts_walk (t u : ByteArray) (fx ar : Bool) (r1 c1 : Int) (x1 y1 : Bool) (r2 c2 : Int) (x2 y2 : Bool) (w : World) (ht : t.size ≤ 140737488355328) (hu : u.size ≤ 140737488355328) (hT : Tabs w) (hU : UTab w) : Calls Tryd.prog 5 #[(.agg #[.string t, .string u, .bool fx, .bool ar, .int .i64 r1, .int .i64 c1, .bool x1, .bool y1, .int .i64 r2, .int .i64 c2, .bool x2, .bool y2])] w fun e w' => e = .returned (.bool true) ∧ Below w.heap.size w w' := by
  have H0 := live_true
  have H1 := fun w h => text_any t u fx ar r1 c1 x1 y1 r2 c2 x2 y2 w h
  have H2 := fun w h1 h2 => rtext_any t u fx ar r1 c1 x1 y1 r2 c2 x2 y2 w ht hu h1 h2
  have H3 := check_any t u fx ar r1 c1 x1 y1 r2 c2 x2 y2
  have H4 := fun w h => rcheck_any t u fx ar r1 c1 x1 y1 r2 c2 x2 y2 w ht hu h
  generalize txtB t u fx ar r1 c1 x1 y1 r2 c2 x2 y2 = TX at *
  generalize chkF t u fx ar r1 c1 r2 c2 x2 y2 = E at *
  obtain ⟨W0, hW0⟩ : ∃ W0, w.alloc (.cells #[.string t, .string u, .bool fx, .bool ar, .int .i64 r1, .int .i64 c1, .bool x1, .bool y1, .int .i64 r2, .int .i64 c2, .bool x2, .bool y2] 34 (0, 0)) = W0 := ⟨_, rfl⟩
  have hA0 : RAt W0 w.heap.size t u fx ar r1 c1 x1 y1 r2 c2 x2 y2 := ⟨by rw [← hW0]; exact heap_alloc_new w _⟩
  have hF0 : Fr noB w W0 := by rw [← hW0]; exact (Fr.refl noB w).alloc _
  have HT : Hid (∀ W, Fr noB w W → Tabs W ∧ UTab W) := fun W hW => ⟨hT.keep hW, hU.fr hW⟩
  have HG : Hid (∀ W, Fr noB W0 W → RAt W w.heap.size t u fx ar r1 c1 x1 y1 r2 c2 x2 y2 ∧ Fr noB w W) := fun W hW => ⟨hA0.fr hW id, hF0.trans hW⟩
  have g0 := hA0.g0; have g1 := hA0.g1; have g2 := hA0.g2; have g3 := hA0.g3; have g4 := hA0.g4; have g5 := hA0.g5; have g6 := hA0.g6; have g7 := hA0.g7; have g8 := hA0.g8; have g9 := hA0.g9; have g10 := hA0.g10; have g11 := hA0.g11
  have hEE : (E == E) = true := by simp
  clear hA0 hF0 hT hU ht hu
  go_enter Tryd.func5, Tryd.ntmps5
  go_wp2_with (first
    | (go_at_call 18; refine (H1 _ (HT.out _ (HG.out _ (Fr.refl _ _)).2).2).mono ?_; rintro e w1 ⟨rfl, hF1⟩; have hA1 := (HG.out w1 hF1).1; have k0 := hA1.g0; have k1 := hA1.g1; have k2 := hA1.g2; have k3 := hA1.g3; have k4 := hA1.g4; have k5 := hA1.g5; have k6 := hA1.g6; have k7 := hA1.g7; have k8 := hA1.g8; have k9 := hA1.g9; have k10 := hA1.g10; have k11 := hA1.g11)
    | (go_at_call 19; refine (H2 _ (HT.out _ (HG.out _ hF1).2).1 (HT.out _ (HG.out _ hF1).2).2).mono ?_; rintro e w2 ⟨rfl, hF2⟩))
  have HS : Hid (∀ W, Fr noB w2 W → (W.cell? ⟨w.heap.size, 0, none⟩ = some (.string t) ∧ W.cell? ⟨w.heap.size, 1, none⟩ = some (.string u) ∧ W.cell? ⟨w.heap.size, 2, none⟩ = some (.bool fx) ∧ W.cell? ⟨w.heap.size, 3, none⟩ = some (.bool ar) ∧ W.cell? ⟨w.heap.size, 4, none⟩ = some (.int .i64 r1) ∧ W.cell? ⟨w.heap.size, 5, none⟩ = some (.int .i64 c1) ∧ W.cell? ⟨w.heap.size, 6, none⟩ = some (.bool x1) ∧ W.cell? ⟨w.heap.size, 7, none⟩ = some (.bool y1) ∧ W.cell? ⟨w.heap.size, 8, none⟩ = some (.int .i64 r2) ∧ W.cell? ⟨w.heap.size, 9, none⟩ = some (.int .i64 c2) ∧ W.cell? ⟨w.heap.size, 10, none⟩ = some (.bool x2) ∧ W.cell? ⟨w.heap.size, 11, none⟩ = some (.bool y2)) ∧ Fr noB w W) := fun W hW => by
    obtain ⟨hA, hF⟩ := HG.out W ((hF1.trans hF2).trans hW)
    exact ⟨⟨hA.g0, hA.g1, hA.g2, hA.g3, hA.g4, hA.g5, hA.g6, hA.g7, hA.g8, hA.g9, hA.g10, hA.g11⟩, hF⟩
  clear g0 g1 g2 g3 g4 g5 g6 g7 g8 g9 g10 g11 k0 k1 k2 k3 k4 k5 k6 k7 k8 k9 k10 k11 hA1 hF1 hF2 hW0
  go_region_held3 (fun W => W.cell? ⟨w.heap.size, 0, none⟩ = some (.string t) ∧ W.cell? ⟨w.heap.size, 1, none⟩ = some (.string u) ∧ W.cell? ⟨w.heap.size, 2, none⟩ = some (.bool fx) ∧ W.cell? ⟨w.heap.size, 3, none⟩ = some (.bool ar) ∧ W.cell? ⟨w.heap.size, 4, none⟩ = some (.int .i64 r1) ∧ W.cell? ⟨w.heap.size, 5, none⟩ = some (.int .i64 c1) ∧ W.cell? ⟨w.heap.size, 6, none⟩ = some (.bool x1) ∧ W.cell? ⟨w.heap.size, 7, none⟩ = some (.bool y1) ∧ W.cell? ⟨w.heap.size, 8, none⟩ = some (.int .i64 r2) ∧ W.cell? ⟨w.heap.size, 9, none⟩ = some (.int .i64 c2) ∧ W.cell? ⟨w.heap.size, 10, none⟩ = some (.bool x2) ∧ W.cell? ⟨w.heap.size, 11, none⟩ = some (.bool y2))
    (exact (HS.out _ (by repeat first | assumption | exact Fr.refl _ _ | exact (Fr.refl _ _).drew | refine Fr.trans ?_ (by assumption))).1)
    (first
      | (go_at_call 13; with_reducible refine (H0 _).mono ?_; rintro e w3 ⟨rfl, hF3⟩)
      | (go_at_call 20; with_reducible refine (H3 _).mono ?_; rintro e w4 ⟨rfl, hF4⟩)
      | (go_at_call 21; refine (H4 _ (HT.out _ (HS.out _ (by repeat first | assumption | exact Fr.refl _ _ | exact (Fr.refl _ _).drew | refine Fr.trans ?_ (by assumption))).2).1).mono ?_; rintro e w5 ⟨rfl, hF5⟩))
  all_goals
    go_wp2_with fail
    go_ret
    refine ⟨rfl, Fr.below (S := noB) (HS.out _ (by repeat first | assumption | exact Fr.refl _ _ | exact (Fr.refl _ _).drew | refine Fr.trans ?_ (by assumption))).2 (Nat.le_refl _) (fun _ h => h.elim)⟩
#print axioms texts_walk
end Go.Proofs.YtklinhfcecfnfaaDoor
