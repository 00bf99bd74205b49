/- begun: the law's first call. -/
import Derived.Test.YtdplcmcbnkiifaaGreatDoorFSho
import Derived.Test.YtdplcmcbnkiifaaGreatDoorFNam
namespace Go.Proofs.YtdplcmcbnkiifaaGreatDoor
open Go.RowKit Ieee Go.Shelf
attribute [local go_sem] run_store_float

theorem Ls1.lt {w : World} {b pb : Nat} (h : Ls1 w b pb) : b < w.heap.size := lt_of_block h
theorem Ls1.new (w : World) (pb : Nat) : Ls1 (w.alloc (.cells #[.int .i64 1, .slice (some ⟨pb, 0, none⟩) 1 1, .slice none 0 0, .bool false] 28 (0, 0))) w.heap.size pb := heap_alloc_new w _
set_option maxRecDepth 100000 in
set_option maxHeartbeats 4000000 in
theorem begun_of (M : Nat) (w : World) (hX : XTab w) (hO : OTab w) (hT : CTab w M)
    (HSH : ∀ (lb pb : Nat) (W : World), Fr noB w W → Ls1 W lb pb → Pc1 W pb → Calls Tryz.prog 15 #[.slice (some ⟨lb, 0, none⟩) 1 1, .int .i64 0, (.agg #[.int .i64 1, .float .f64 4619567317775286272, .string ⟨#[]⟩, .bool false, .int .i64 0])] W fun e w' => e = .returned (.string ⟨#[55]⟩) ∧ Fr noB W w') :
    Calls Tryz.prog 5 #[] w fun e w' => e = .returned (.bool true) ∧ Fr noB w w' := by
  have HN := number_fin 4653144203864309760 1 2 M true w (by omega) (by decide +kernel) (by omega) (by omega) hX hO hT
  rw [num1234, show baL [49, 44, 50, 51, 52, 46, 53, 48] = ⟨#[49, 44, 50, 51, 52, 46, 53, 48]⟩ from rfl] at HN
  clear hX hO hT
  go_enter Tryz.func5, Tryz.ntmps5
  go_wp2_with (go_at_call 14; refine HN.mono ?_; rintro e w1 ⟨rfl, hF1⟩)
  obtain ⟨W, hW⟩ : ∃ W, (w1.alloc (.cells #[.int .i64 2, .string ⟨#[]⟩, .int .i64 1, .int .i64 0, .int .i64 0, .bool false, .bool false] 37 (0, 0))).alloc (.cells #[.int .i64 1, .slice (some ⟨w1.heap.size, 0, none⟩) 1 1, .slice none 0 0, .bool false] 28 (0, 0)) = W := ⟨_, rfl⟩
  have hfb : Ls1 W (w1.heap.size + 1) w1.heap.size := by
    show W.heap[w1.heap.size + 1]? = _
    rw [← hW]
    exact alloc2_obj w1 _ _
  have hpb : Pc1 W w1.heap.size := by
    show W.heap[w1.heap.size]? = _
    rw [← hW]
    exact ((Fr.refl noB (w1.alloc (.cells #[.int .i64 2, .string ⟨#[]⟩, .int .i64 1, .int .i64 0, .int .i64 0, .bool false, .bool false] 37 (0, 0)))).alloc _).obj (heap_alloc_new w1 _) id
  have hFW : Fr noB w W := by rw [← hW]; exact (hF1.alloc _).alloc _
  rw [hW]
  obtain ⟨pb, hpbe⟩ : ∃ pb, w1.heap.size = pb := ⟨_, rfl⟩
  rw [hpbe] at hfb hpb ⊢
  have hfbl : pb + 1 < W.heap.size := lt_of_block hfb
  obtain ⟨f0, f1, f2, f3⟩ := hfb.cells
  have hWd : Fr noB W W.drew := (Fr.refl noB W).drew
  have hWa : Fr noB W (W.alloc (.cells #[.int .i64 1, .slice (some ⟨pb, 0, none⟩) 1 1, .slice none 0 0, .bool false] 28 (0, 0))).drew := ((Fr.refl noB W).alloc _).drew
  have hLa : Ls1 (W.alloc (.cells #[.int .i64 1, .slice (some ⟨pb, 0, none⟩) 1 1, .slice none 0 0, .bool false] 28 (0, 0))).drew W.heap.size pb := heap_alloc_new W _
  clear hW hF1 hpbe HN
  go_cut [0] (fun bv wc => bv = .bool true ∧ Fr noB w wc)
  case first =>
    go_region_with (first
      | (go_at_call 16; with_reducible refine (rnum_any 4619567317775286272 W.drew).mono ?_; rintro e w2 ⟨rfl, hF2⟩; have hX2 := hWd.trans hF2; obtain ⟨g0, g1, g2, g3⟩ := (hfb.fr hX2).cells; have hfbl2 : pb + 1 < w2.heap.size := (hfb.fr hX2).lt; have hXA : Fr noB W (w2.alloc (.cells #[.int .i64 1, .slice (some ⟨pb, 0, none⟩) 1 1, .slice none 0 0, .bool false] 28 (0, 0))) := hX2.alloc _; have hLA := Ls1.new w2 pb)
      | (go_at_call 16; with_reducible refine (rnum_any 4619567317775286272 (W.alloc (.cells #[.int .i64 1, .slice (some ⟨pb, 0, none⟩) 1 1, .slice none 0 0, .bool false] 28 (0, 0))).drew).mono ?_; rintro e w2 ⟨rfl, hF2⟩; have hXB := hWa.trans hF2; have hLB := hLa.fr hF2)
      | (go_at_call 15; with_reducible refine (HSH w2.heap.size pb (w2.alloc (.cells #[.int .i64 1, .slice (some ⟨pb, 0, none⟩) 1 1, .slice none 0 0, .bool false] 28 (0, 0))) (hFW.trans hXA) hLA (hpb.fr hXA)).mono ?_; rintro e w3 ⟨rfl, hF3⟩; have hX3 := hXA.trans hF3; obtain ⟨k0, k1, k2, k3⟩ := (hfb.fr hX3).cells)
      | (go_at_call 15; with_reducible refine (HSH W.heap.size pb w2 (hFW.trans hXB) hLB (hpb.fr hXB)).mono ?_; rintro e w3 ⟨rfl, hF3⟩; have hX3 := hXB.trans hF3; obtain ⟨k0, k1, k2, k3⟩ := (hfb.fr hX3).cells)
      | (go_at_call 10; with_reducible refine (check1 pb w3 (hpb.fr hX3)).mono ?_; rintro e w4 ⟨rfl, hF4⟩))
    all_goals (go_wp2_with fail; go_meet; exact ⟨rfl, (hFW.trans hX3).trans hF4⟩)
  case rest =>
    obtain ⟨rfl, hFc⟩ := hcut
    go_wp2_with fail
    go_ret
    exact ⟨rfl, hFc⟩
theorem begun_true (M : Nat) (w : World) (hX : XTab w) (hO : OTab w) (hT : CTab w M) : Calls Tryz.prog 5 #[] w fun e w' => e = .returned (.bool true) ∧ Fr noB w w' :=
  begun_of M w hX hO hT (fun lb pb W hW hL hP => show7 M lb pb W hL hP (hX.fr hW) (hO.fr hW) (hT.low hW (fun _ _ h => h.elim)))
/-- All that the statements of numfmt read of variables, so far. -/
structure FTabs (w : World) (M : Nat) : Prop where
  x : XTab w
  o : OTab w
  c : CTab w M
  s : STab w
theorem FTabs.fr {w w' : World} {M : Nat} (h : FTabs w M) (hF : Fr noB w w') : FTabs w' M := ⟨h.x.fr hF, h.o.fr hF, h.c.low hF (fun _ _ h => h.elim), h.s.fr hF⟩
set_option maxRecDepth 100000 in
set_option maxHeartbeats 2000000 in
theorem names_walk (n : Int) (long : Bool) (M : Nat) (w : World) (hT : FTabs w M) :
    Calls Tryz.prog 3 #[.int .i64 n, .bool long] w fun e w' => e = .returned (.bool true) ∧ Below w.heap.size w w' := by
  have H1 := begun_true M w hT.x hT.o hT.c
  have H2 : Hid (∀ W, Fr noB w W → Calls Tryz.prog 6 #[.int .i64 n, .bool long] W fun e w' => e = .returned (.string (nmF monL n long)) ∧ w' = W) := fun W h => month_any n long W (hT.fr h).s
  have H3 : Hid (∀ W, Fr noB w W → Calls Tryz.prog 8 #[.int .i64 n, .bool long] W fun e w' => e = .returned (.string (nmF wkL n long)) ∧ w' = W) := fun W h => weekday_any n long W (hT.fr h).s
  have H4 := rmonth_any n long
  have H5 := rweekday_any n long
  generalize nmF monL n long = A at *
  generalize nmF wkL n long = B at *
  clear hT
  go_enter Tryz.func3, Tryz.ntmps3
  go_wp2_with (first
    | (go_at_call 5; with_reducible refine H1.mono ?_; rintro e w1 ⟨rfl, hF1⟩)
    | (go_at_call 6; with_reducible refine (H2.out _ hF1).mono ?_; rintro e w2 ⟨rfl, h2⟩; obtain rfl : w1 = w2 := h2.symm)
    | (go_at_call 7; with_reducible refine (H4 _).mono ?_; rintro e w3 ⟨rfl, hF3⟩; have hG3 := hF1.trans hF3)
    | (go_at_call 8; with_reducible refine (H3.out _ hG3).mono ?_; rintro e w4 ⟨rfl, h4⟩; obtain rfl : w3 = w4 := h4.symm)
    | (go_at_call 9; with_reducible refine (H5 _).mono ?_; rintro e w5 ⟨rfl, hF5⟩; have hG5 := hG3.trans hF5))
  go_ret
  exact ⟨rfl, Fr.below (S := noB) hG5 (Nat.le_refl _) (fun _ h => h.elim)⟩
#print axioms names_walk
end Go.Proofs.YtdplcmcbnkiifaaGreatDoor
