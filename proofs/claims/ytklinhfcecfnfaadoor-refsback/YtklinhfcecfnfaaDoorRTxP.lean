/- Text: the program's contract. -/
import Derived.Test.YtklinhfcecfnfaaDoorRTxt
namespace Go.Proofs.YtklinhfcecfnfaaDoor
open Go.RowKit Go.Shelf

/-- A reference's text. -/
def texL (t u : ByteArray) (fx ar : Bool) (r1 c1 : Nat) (x1 y1 : Bool) (r2 c2 : Nat) (x2 y2 : Bool) : List UInt8 := dolL fx ++ (celL t r1 c1 x1 y1 ++ (if ar = true then 58 :: celL u r2 c2 x2 y2 else []))
section
variable {P : Program} {ops : Array Oper} {S : World → Prop} {op : Oper} {a : Act}
theorem y_loadS (ty : TypeId) (x : Operand) (p v : Value) (hw : Region.wanted op (yielded ops a.tmps) = true) (ho : op.op = .load ty x) (hx : a.eval x = p) (hS : ∀ w, S w → (Instr.loadAt ty p).run Tryd.prog w = .ok v w) : YieldsIf Tryd.prog ops S op v a :=
  .inl ⟨hw, fun w hw' => by
    unfold execOp
    simp only [ho, hx, Sem.run_bind, Sem.run_pure, hS w hw', Result.andThen_ok]⟩
end
theorem load_cor (w : World) (b o : Nat) (r c : Int) (x y : Bool) (h0 : w.cell? ⟨b, o, none⟩ = some (.int .i64 r)) (h1 : w.cell? ⟨b, o + 1, none⟩ = some (.int .i64 c)) (h2 : w.cell? ⟨b, o + 2, none⟩ = some (.bool x)) (h3 : w.cell? ⟨b, o + 3, none⟩ = some (.bool y)) : (Instr.loadAt 32 (.pointer (some ⟨b, o, none⟩))).run Tryd.prog w = .ok (.agg #[.int .i64 r, .int .i64 c, .bool x, .bool y]) w := by
  have hu := Tryd.underlying32
  simp [go_sem, h0, h1, h2, h3]
theorem cel_len (t : ByteArray) (r c : Nat) (x y : Bool) (hr : r < 1048576) (hc : c < 1024) : (celL t r c x y).length ≤ 1060000 := by
  unfold celL corL
  have h1 := quo_small t
  have h2 := dec_len (r + 1)
  have h3 := ltrGo_len 1025 (c + 1)
  have h4 : (dolL x).length ≤ 1 := by cases x <;> decide
  have h5 : (dolL y).length ≤ 1 := by cases y <;> decide
  have h6 : (quoF t).data.toList.length = (quoF t).size := by simp
  have h7 : (ltrL c).length ≤ c + 1 := h3
  simp only [List.length_append, List.length_cons]
  omega
set_option maxRecDepth 100000 in
set_option maxHeartbeats 1000000 in
theorem text_no (t u : ByteArray) (fx ar : Bool) (r1 c1 : Int) (x1 y1 : Bool) (r2 c2 : Int) (x2 y2 : Bool) (w : World) (hne : ¬ chkF t u fx ar r1 c1 r2 c2 x2 y2 = 0) :
    Calls Tryd.prog 18 #[(.agg #[.string t, .string u, .bool fx, .bool ar, .int .i64 r1, .int .i64 c1, .bool x1, .bool y1, .int .i64 r2, .int .i64 c2, .bool x2, .bool y2])] w fun e w' => e = .returned (.tuple #[.string ⟨#[]⟩, .int .i64 (chkF t u fx ar r1 c1 r2 c2 x2 y2)]) ∧ Fr noB w w' := by
  have H1 := check_any t u fx ar r1 c1 x1 y1 r2 c2 x2 y2
  generalize chkF t u fx ar r1 c1 r2 c2 x2 y2 = E at *
  have hF0 : Fr noB w (w.alloc (.cells #[.string t, .string u, .bool fx, .bool ar, .int .i64 r1, .int .i64 c1, .bool x1, .bool y1, .int .i64 r2, .int .i64 c2, .bool x2, .bool y2] 34 (0, 0))) := (Fr.refl noB w).alloc _
  have HF : Hid _ := hF0
  clear hF0
  go_enter Tryd.func18, Tryd.ntmps18
  go_wp2_with (go_at_call 20; refine (H1 _).mono ?_; rintro e w1 ⟨rfl, hF1⟩)
  go_ret2
  exact ⟨rfl, HF.out.trans hF1⟩
set_option maxRecDepth 100000 in
set_option maxHeartbeats 1000000 in
theorem text_ok (t u : ByteArray) (fx ar : Bool) (r1 c1 : Nat) (x1 y1 : Bool) (r2 c2 : Nat) (x2 y2 : Bool) (w : World) (hok : chkF t u fx ar r1 c1 r2 c2 x2 y2 = 0) (hr1 : r1 < 1048576) (hc1 : c1 < 1024) (hr2 : r2 < 1048576) (hc2 : c2 < 1024) (hU : UTab w) :
    Calls Tryd.prog 18 #[(.agg #[.string t, .string u, .bool fx, .bool ar, .int .i64 (r1 : Int), .int .i64 (c1 : Int), .bool x1, .bool y1, .int .i64 (r2 : Int), .int .i64 (c2 : Int), .bool x2, .bool y2])] w fun e w' => e = .returned (.tuple #[.string (baL (texL t u fx ar r1 c1 x1 y1 r2 c2 x2 y2)), .int .i64 0]) ∧ Fr noB w w' := by
  have H1 := check_any t u fx ar r1 c1 x1 y1 r2 c2 x2 y2
  rw [hok] at H1
  have HD := dollar_any fx
  have HA : Hid (∀ W, Fr noB w W → _) := fun W hW => cellText_any t r1 c1 x1 y1 W hr1 hc1 (hU.fr hW)
  have HB : Hid (∀ W, Fr noB w W → _) := fun W hW => cellText_any u r2 c2 x2 y2 W hr2 hc2 (hU.fr hW)
  have z1 := dolB_size fx
  have z2 : (baL (celL t r1 c1 x1 y1)).size ≤ 1060000 := by rw [baL_size]; exact cel_len t r1 c1 x1 y1 hr1 hc1
  have z3 : (baL (celL u r2 c2 x2 y2)).size ≤ 1060000 := by rw [baL_size]; exact cel_len u r2 c2 x2 y2 hr2 hc2
  have HE : Hid (baL (texL t u fx ar r1 c1 x1 y1 r2 c2 x2 y2) = (if ar = true then (dolB fx ++ baL (celL t r1 c1 x1 y1)) ++ (⟨#[58]⟩ ++ baL (celL u r2 c2 x2 y2)) else dolB fx ++ baL (celL t r1 c1 x1 y1))) := by
    show baL (texL t u fx ar r1 c1 x1 y1 r2 c2 x2 y2) = _
    rw [dolB_is]
    cases ar
    · rw [if_neg (by simp)]
      apply ByteArray.ext
      simp [baL, texL, ByteArray.data_append]
    · rw [if_pos rfl]
      apply ByteArray.ext
      simp [baL, texL, ByteArray.data_append]
  obtain ⟨W0, hW0⟩ : ∃ W0, w.alloc (.cells #[.string t, .string u, .bool fx, .bool ar, .int .i64 (r1 : Int), .int .i64 (c1 : Int), .bool x1, .bool y1, .int .i64 (r2 : Int), .int .i64 (c2 : Int), .bool x2, .bool y2] 34 (0, 0)) = W0 := ⟨_, rfl⟩
  have hA0 : RAt W0 w.heap.size t u fx ar (r1 : Int) (c1 : Int) x1 y1 (r2 : Int) (c2 : Int) x2 y2 := ⟨by rw [← hW0]; exact heap_alloc_new w _⟩
  have hF0 : Fr noB w W0 := by rw [← hW0]; exact (Fr.refl noB w).alloc _
  have HG0 : Hid (∀ W, Fr noB W0 W → RAt W w.heap.size t u fx ar (r1 : Int) (c1 : Int) x1 y1 (r2 : Int) (c2 : Int) x2 y2 ∧ Fr noB w W) := fun W hW => ⟨hA0.fr hW id, hF0.trans hW⟩
  have g0 := hA0.g0; have g1 := hA0.g1; have g2 := hA0.g2; have g3 := hA0.g3; have g4 := hA0.g4; have g5 := hA0.g5; have g6 := hA0.g6; have g7 := hA0.g7; have g8 := hA0.g8; have g9 := hA0.g9; have g10 := hA0.g10; have g11 := hA0.g11
  generalize dolB fx = DF at *
  generalize baL (celL t r1 c1 x1 y1) = CA at *
  generalize baL (celL u r2 c2 x2 y2) = CB at *
  generalize baL (texL t u fx ar r1 c1 x1 y1 r2 c2 x2 y2) = TX at *
  have h58 : (⟨#[58]⟩ : ByteArray).size = 1 := rfl
  clear hA0 hF0 hU hok hr1 hc1 hr2 hc2
  go_enter Tryd.func18, Tryd.ntmps18
  go_wp2_with (go_at_call 20; refine (H1 _).mono ?_; rintro e w1 ⟨rfl, hF1⟩)
  have HG : Hid (∀ W, Fr noB w1 W → RAt W w.heap.size t u fx ar (r1 : Int) (c1 : Int) x1 y1 (r2 : Int) (c2 : Int) x2 y2 ∧ Fr noB w W) := fun W hW => HG0.out W (hF1.trans hW)
  clear g0 g1 g2 g3 g4 g5 g6 g7 g8 g9 g10 g11 hW0 HG0 hF1
  refine wp_region_held_drew (S := fun W => RAt W w.heap.size t u fx ar (r1 : Int) (c1 : Int) x1 y1 (r2 : Int) (c2 : Int) x2 y2) (by kernel_rfl) (HG.out _ (Fr.refl _ _).drew).1 (fun hHeld => ?_)
  refine wpAnyH_take (i := 0) (v := .pointer (some ⟨w.heap.size, 2, none⟩)) rfl (by kernel_rfl) (by kernel_rfl) (by kernel_rfl) (fun _ _ _ h => h) (Or.inl ⟨by kernel_rfl, fun w hSw => by kernel_rfl⟩) hHeld ?_
  refine wpAnyH_take (i := 1) (v := .bool fx) rfl (by kernel_rfl) (by kernel_rfl) (by kernel_rfl) (fun _ _ _ h => h) (y_loadOf 4 load_boo (.tmp 11) w.heap.size 2 _ (by kernel_rfl) rfl (by kernel_rfl) (fun w h => h.g2)) hHeld ?_
  refine wpAnyH_take (i := 3) (v := .pointer (some ⟨w.heap.size, 0, none⟩)) rfl (by kernel_rfl) (by kernel_rfl) (by kernel_rfl) (fun _ _ _ h => h) (Or.inl ⟨by kernel_rfl, fun w hSw => by kernel_rfl⟩) hHeld ?_
  refine wpAnyH_take (i := 4) (v := .string t) rfl (by kernel_rfl) (by kernel_rfl) (by kernel_rfl) (fun _ _ _ h => h) (y_loadOf 9 load_str (.tmp 14) w.heap.size 0 _ (by kernel_rfl) rfl (by kernel_rfl) (fun w h => h.g0)) hHeld ?_
  refine wpAnyH_take (i := 5) (v := .pointer (some ⟨w.heap.size, 4, none⟩)) rfl (by kernel_rfl) (by kernel_rfl) (by kernel_rfl) (fun _ _ _ h => h) (Or.inl ⟨by kernel_rfl, fun w hSw => by kernel_rfl⟩) hHeld ?_
  refine wpAnyH_take (i := 6) (v := (.agg #[.int .i64 (r1 : Int), .int .i64 (c1 : Int), .bool x1, .bool y1])) rfl (by kernel_rfl) (by kernel_rfl) (by kernel_rfl) (fun _ _ _ h => h) (y_loadS 32 (.tmp 16) (.pointer (some ⟨w.heap.size, 4, none⟩)) _ (by kernel_rfl) rfl (by kernel_rfl) (fun w h => load_cor w _ 4 _ _ _ _ h.g4 h.g5 h.g6 h.g7)) hHeld ?_
  refine wpAnyH_ready (rs := [2]) (by kernel_rfl) (by simp) ?_
  refine AllReadyH.cons rfl (fun K hK => ?_) AllReadyH.nil
  refine wp_go 41 #[.bool fx] (by kernel_rfl) ?_
  refine (HD _).mono ?_
  rintro e w2 ⟨rfl, rfl⟩
  refine hK.out _ _ (HG.out _ (Fr.refl _ _).drew).1 (fun hHeld1 => ?_)
  clear hK K
  refine wpAnyH_ready (rs := [7]) (by kernel_rfl) (by simp) ?_
  refine AllReadyH.cons rfl (fun K hK => ?_) AllReadyH.nil
  refine wp_go 42 #[.string t, (.agg #[.int .i64 (r1 : Int), .int .i64 (c1 : Int), .bool x1, .bool y1])] (by kernel_rfl) ?_
  refine (HA.out _ (HG.out _ (Fr.refl _ _).drew).2).mono ?_
  rintro e w3 ⟨rfl, hF3⟩
  refine hK.out _ _ (HG.out _ (Fr.trans (Fr.refl _ _).drew hF3)).1 (fun hHeld2 => ?_)
  clear hK K
  refine wpAnyH_take (i := 8) (v := .string (DF ++ CA)) rfl (by kernel_rfl) (by kernel_rfl) (by kernel_rfl) (fun _ _ _ h => h) (y_cat DF CA (.tmp 13) (.tmp 18) (by kernel_rfl) rfl (by kernel_rfl) (by kernel_rfl) (by omega)) hHeld2 ?_
  refine wpAnyH_take (i := 9) (v := .string (DF ++ CA)) rfl (by kernel_rfl) (by kernel_rfl) (by kernel_rfl) (fun _ _ _ h => h) (Or.inl ⟨by kernel_rfl, fun w hSw => by kernel_rfl⟩) hHeld2 ?_
  refine wpAnyH_done (by kernel_rfl) ?_ _
  refine frame_to { tmps := #[(.agg #[.string t, .string u, .bool fx, .bool ar, .int .i64 (r1 : Int), .int .i64 (c1 : Int), .bool x1, .bool y1, .int .i64 (r2 : Int), .int .i64 (c2 : Int), .bool x2, .bool y2]), .pointer (some ⟨w.heap.size, 0, none⟩), .string ⟨#[]⟩, .int .i64 0, .int .i64 0, .string (DF ++ CA), (.agg #[.string t, .string u, .bool fx, .bool ar, .int .i64 (r1 : Int), .int .i64 (c1 : Int), .bool x1, .bool y1, .int .i64 (r2 : Int), .int .i64 (c2 : Int), .bool x2, .bool y2]), .int .i64 0, .int .i64 0, .bool false, undef, .pointer (some ⟨w.heap.size, 2, none⟩), .bool fx, .string DF, .pointer (some ⟨w.heap.size, 0, none⟩), .string t, .pointer (some ⟨w.heap.size, 4, none⟩), (.agg #[.int .i64 (r1 : Int), .int .i64 (c1 : Int), .bool x1, .bool y1]), .string CA, .string (DF ++ CA), undef, undef, undef, undef, undef, undef, undef, undef, undef, undef, undef], defers := [] } (by kernel_rfl) ?_
  have hA3 := (HG.out w3 (Fr.trans (Fr.refl _ _).drew hF3)).1
  have hF4 := (HG.out w3 (Fr.trans (Fr.refl _ _).drew hF3)).2
  have g1 := hA3.g1; have g3 := hA3.g3; have g8 := hA3.g8; have g9 := hA3.g9; have g10 := hA3.g10; have g11 := hA3.g11
  clear hHeld hHeld1 hHeld2 hA3 hF3
  cases ar with
  | false =>
    go_wp2_with fail
    go_ret2
    rw [HE.out]
    exact ⟨rfl, hF4⟩
  | true =>
    have s1 : 1 + CB.size ≤ 9223372036854775807 := by omega
    have s2 : DF.size + CA.size + (1 + CB.size) ≤ 9223372036854775807 := by omega
    go_wp2_with (go_at_call 42; refine (HB.out _ hF4).mono ?_; rintro e w5 ⟨rfl, hF5⟩)
    go_ret2
    rw [HE.out]
    exact ⟨rfl, hF4.trans hF5⟩
#print axioms text_ok
#print axioms text_no
end Go.Proofs.YtklinhfcecfnfaaDoor
