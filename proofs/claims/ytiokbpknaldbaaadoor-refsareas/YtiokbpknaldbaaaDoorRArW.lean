/- RefsAreas: the law's walk. -/
import Derived.Test.YtiokbpknaldbaaaDoorRNrD
namespace Go.Proofs.YtiokbpknaldbaaaDoor
open Go.RowKit Go.Shelf

/-- What lies there when all has been asked but the last question. -/
structure Five (W : World) (bs k1 k2 : Nat) (t : ByteArray) (u : ByteArray) (fx : Bool) (ar : Bool) (r1 : Int) (c1 : Int) (x1 : Bool) (y1 : Bool) (r2 : Int) (c2 : Int) (x2 : Bool) (y2 : Bool) (r c : Int) (t3 : ByteArray) (u3 : ByteArray) (f3 : Bool) (a3 : Bool) (p3 : Int) (q3 : Int) (f4 : Bool) (f5 : Bool) (p4 : Int) (q4 : Int) (f6 : Bool) (f7 : Bool) : Prop where
  a : RAt W bs t u fx ar r1 c1 x1 y1 r2 c2 x2 y2
  c : CAt W (bs + 1 + 1) r c
  x : RAt W k1 t3 u3 f3 a3 p3 q3 f4 f5 p4 q4 f6 f7
  y : RAt W k2 t3 u3 f3 a3 p3 q3 f4 f5 p4 q4 f6 f7
theorem Five.fr {W W' : World} {bs k1 k2 : Nat} {t : ByteArray} {u : ByteArray} {fx : Bool} {ar : Bool} {r1 : Int} {c1 : Int} {x1 : Bool} {y1 : Bool} {r2 : Int} {c2 : Int} {x2 : Bool} {y2 : Bool} {r c : Int} {t3 : ByteArray} {u3 : ByteArray} {f3 : Bool} {a3 : Bool} {p3 : Int} {q3 : Int} {f4 : Bool} {f5 : Bool} {p4 : Int} {q4 : Int} {f6 : Bool} {f7 : Bool} (h : Five W bs k1 k2 t u fx ar r1 c1 x1 y1 r2 c2 x2 y2 r c t3 u3 f3 a3 p3 q3 f4 f5 p4 q4 f6 f7) (hF : Fr noB W W') : Five W' bs k1 k2 t u fx ar r1 c1 x1 y1 r2 c2 x2 y2 r c t3 u3 f3 a3 p3 q3 f4 f5 p4 q4 f6 f7 := ⟨h.a.fr hF id, h.c.fr hF id, h.x.fr hF id, h.y.fr hF id⟩
theorem load_ref (w : World) (b : Nat) (t : ByteArray) (u : ByteArray) (fx : Bool) (ar : Bool) (r1 : Int) (c1 : Int) (x1 : Bool) (y1 : Bool) (r2 : Int) (c2 : Int) (x2 : Bool) (y2 : Bool) (h : RAt w b t u fx ar r1 c1 x1 y1 r2 c2 x2 y2) : (Instr.loadAt 25 (.pointer (some ⟨b, 0, none⟩))).run Tryd.prog w = .ok (.agg #[.string t, .string u, .bool fx, .bool ar, .int .i64 r1, .int .i64 c1, .bool x1, .bool y1, .int .i64 r2, .int .i64 c2, .bool x2, .bool y2]) w := by
  have hu := Tryd.underlying25
  have g0 := h.g0; have g1 := h.g1; have g2 := h.g2; have g3 := h.g3; have g4 := h.g4; have g5 := h.g5; have g6 := h.g6; have g7 := h.g7; have g8 := h.g8; have g9 := h.g9; have g10 := h.g10; have g11 := h.g11
  simp [go_sem, g0, g1, g2, g3, g4, g5, g6, g7, g8, g9, g10, g11]
section
variable {ops : Array Oper} {S : World → Prop} {op : Oper} {a : Act}
theorem y_eqR (t : ByteArray) (u : ByteArray) (fx : Bool) (ar : Bool) (r1 : Int) (c1 : Int) (x1 : Bool) (y1 : Bool) (r2 : Int) (c2 : Int) (x2 : Bool) (y2 : Bool) (x y : Operand) (hw : Region.wanted op (yielded ops a.tmps) = true) (ho : op.op = .binOp .eql 25 x y 25) (hx : a.eval x = (.agg #[.string t, .string u, .bool fx, .bool ar, .int .i64 r1, .int .i64 c1, .bool x1, .bool y1, .int .i64 r2, .int .i64 c2, .bool x2, .bool y2])) (hy : a.eval y = (.agg #[.string t, .string u, .bool fx, .bool ar, .int .i64 r1, .int .i64 c1, .bool x1, .bool y1, .int .i64 r2, .int .i64 c2, .bool x2, .bool y2])) : YieldsIf Tryd.prog ops S op (.bool true) a :=
  .inl ⟨hw, fun w _ => by
    have hu := Tryd.underlying25
    unfold execOp
    simp only [ho, hx, hy]
    simp [go_sem]⟩
theorem y_eqI (n : Int) (x y : Operand) (hw : Region.wanted op (yielded ops a.tmps) = true) (ho : op.op = .binOp .eql 3 x y 3) (hx : a.eval x = .int .i64 n) (hy : a.eval y = .int .i64 n) : YieldsIf Tryd.prog ops S op (.bool true) a :=
  .inl ⟨hw, fun w _ => by
    unfold execOp
    simp only [ho, hx, hy]
    simp [go_sem]⟩
theorem y_eqB (n : Bool) (x y : Operand) (hw : Region.wanted op (yielded ops a.tmps) = true) (ho : op.op = .binOp .eql 4 x y 4) (hx : a.eval x = .bool n) (hy : a.eval y = .bool n) : YieldsIf Tryd.prog ops S op (.bool true) a :=
  .inl ⟨hw, fun w _ => by
    unfold execOp
    simp only [ho, hx, hy]
    simp [go_sem]⟩
end
set_option maxRecDepth 100000 in
set_option maxHeartbeats 4000000 in
theorem ar_walk (t : ByteArray) (u : ByteArray) (fx : Bool) (ar : Bool) (r1 : Int) (c1 : Int) (x1 : Bool) (y1 : Bool) (r2 : Int) (c2 : Int) (x2 : Bool) (y2 : Bool) (t2 : ByteArray) (u2 : ByteArray) (gx : Bool) (br : Bool) (s1 : Int) (d1 : Int) (z1 : Bool) (v1 : Bool) (s2 : Int) (d2 : Int) (z2 : Bool) (v2 : Bool) (r c : Int) (t3 : ByteArray) (u3 : ByteArray) (f3 : Bool) (a3 : Bool) (p3 : Int) (q3 : Int) (f4 : Bool) (f5 : Bool) (p4 : Int) (q4 : Int) (f6 : Bool) (f7 : Bool) (t5 : ByteArray) (u5 : ByteArray) (g3 : Bool) (b3 : Bool) (p5 : Int) (q5 : Int) (g4 : Bool) (g5 : Bool) (p6 : Int) (q6 : Int) (g6 : Bool) (g7 : Bool) (n m : Int) (Z H : Bool) (w : World)
    (HS1 : ∀ w, Calls Tryd.prog 8 #[(.agg #[.string t, .string u, .bool fx, .bool ar, .int .i64 r1, .int .i64 c1, .bool x1, .bool y1, .int .i64 r2, .int .i64 c2, .bool x2, .bool y2])] w fun e w' => e = .returned (.tuple #[.int .i64 n, .int .i64 m]) ∧ Fr noB w w')
    (HS2 : ∀ w, Calls Tryd.prog 9 #[(.agg #[.string t, .string u, .bool fx, .bool ar, .int .i64 r1, .int .i64 c1, .bool x1, .bool y1, .int .i64 r2, .int .i64 c2, .bool x2, .bool y2])] w fun e w' => e = .returned (.tuple #[.int .i64 n, .int .i64 m]) ∧ Fr noB w w')
    (HC1 : ∀ w, Calls Tryd.prog 10 #[(.agg #[.string t, .string u, .bool fx, .bool ar, .int .i64 r1, .int .i64 c1, .bool x1, .bool y1, .int .i64 r2, .int .i64 c2, .bool x2, .bool y2]), (.agg #[.string t2, .string u2, .bool gx, .bool br, .int .i64 s1, .int .i64 d1, .bool z1, .bool v1, .int .i64 s2, .int .i64 d2, .bool z2, .bool v2])] w fun e w' => e = .returned (.tuple #[(.agg #[.string t3, .string u3, .bool f3, .bool a3, .int .i64 p3, .int .i64 q3, .bool f4, .bool f5, .int .i64 p4, .int .i64 q4, .bool f6, .bool f7]), .bool Z]) ∧ Fr noB w w')
    (HC2 : ∀ w, Calls Tryd.prog 11 #[(.agg #[.string t, .string u, .bool fx, .bool ar, .int .i64 r1, .int .i64 c1, .bool x1, .bool y1, .int .i64 r2, .int .i64 c2, .bool x2, .bool y2]), (.agg #[.string t2, .string u2, .bool gx, .bool br, .int .i64 s1, .int .i64 d1, .bool z1, .bool v1, .int .i64 s2, .int .i64 d2, .bool z2, .bool v2])] w fun e w' => e = .returned (.tuple #[(.agg #[.string t3, .string u3, .bool f3, .bool a3, .int .i64 p3, .int .i64 q3, .bool f4, .bool f5, .int .i64 p4, .int .i64 q4, .bool f6, .bool f7]), .bool Z]) ∧ Fr noB w w')
    (HN1 : ∀ w, Calls Tryd.prog 12 #[(.agg #[.string t, .string u, .bool fx, .bool ar, .int .i64 r1, .int .i64 c1, .bool x1, .bool y1, .int .i64 r2, .int .i64 c2, .bool x2, .bool y2])] w fun e w' => e = .returned ((.agg #[.string t5, .string u5, .bool g3, .bool b3, .int .i64 p5, .int .i64 q5, .bool g4, .bool g5, .int .i64 p6, .int .i64 q6, .bool g6, .bool g7])) ∧ Fr noB w w')
    (HN2 : ∀ w, Calls Tryd.prog 13 #[(.agg #[.string t, .string u, .bool fx, .bool ar, .int .i64 r1, .int .i64 c1, .bool x1, .bool y1, .int .i64 r2, .int .i64 c2, .bool x2, .bool y2])] w fun e w' => e = .returned ((.agg #[.string t5, .string u5, .bool g3, .bool b3, .int .i64 p5, .int .i64 q5, .bool g4, .bool g5, .int .i64 p6, .int .i64 q6, .bool g6, .bool g7])) ∧ Fr noB w w')
    (HH1 : ∀ w, Calls Tryd.prog 14 #[(.agg #[.string t, .string u, .bool fx, .bool ar, .int .i64 r1, .int .i64 c1, .bool x1, .bool y1, .int .i64 r2, .int .i64 c2, .bool x2, .bool y2]), .agg #[.int .i64 r, .int .i64 c]] w fun e w' => e = .returned (.bool H) ∧ Fr noB w w')
    (HH2 : ∀ w, Calls Tryd.prog 15 #[(.agg #[.string t, .string u, .bool fx, .bool ar, .int .i64 r1, .int .i64 c1, .bool x1, .bool y1, .int .i64 r2, .int .i64 c2, .bool x2, .bool y2]), .agg #[.int .i64 r, .int .i64 c]] w fun e w' => e = .returned (.bool H) ∧ Fr noB w w') :
    Calls Tryd.prog 4 #[(.agg #[.string t, .string u, .bool fx, .bool ar, .int .i64 r1, .int .i64 c1, .bool x1, .bool y1, .int .i64 r2, .int .i64 c2, .bool x2, .bool y2]), (.agg #[.string t2, .string u2, .bool gx, .bool br, .int .i64 s1, .int .i64 d1, .bool z1, .bool v1, .int .i64 s2, .int .i64 d2, .bool z2, .bool v2]), .agg #[.int .i64 r, .int .i64 c]] w fun e w' => e = .returned (.bool true) ∧ Below w.heap.size w w' := by
  have H0 := live_true
  obtain ⟨W0, hW0⟩ : ∃ W0, ((w.alloc (.cells #[.string t, .string u, .bool fx, .bool ar, .int .i64 r1, .int .i64 c1, .bool x1, .bool y1, .int .i64 r2, .int .i64 c2, .bool x2, .bool y2] 25 (0, 0))).alloc (.cells #[.string t2, .string u2, .bool gx, .bool br, .int .i64 s1, .int .i64 d1, .bool z1, .bool v1, .int .i64 s2, .int .i64 d2, .bool z2, .bool v2] 25 (0, 0))).alloc (.cells #[.int .i64 r, .int .i64 c] 32 (0, 0)) = W0 := ⟨_, rfl⟩
  have hA0 : RAt W0 w.heap.size t u fx ar r1 c1 x1 y1 r2 c2 x2 y2 := ⟨by rw [← hW0]; exact alloc_old (alloc_old (alloc_last _ _ _ rfl))⟩
  have hB0 : RAt W0 (w.heap.size + 1) t2 u2 gx br s1 d1 z1 v1 s2 d2 z2 v2 := ⟨by rw [← hW0]; exact alloc_old (alloc_last _ _ _ (by simp))⟩
  have hC0 : CAt W0 (w.heap.size + 1 + 1) r c := ⟨by rw [← hW0]; exact alloc_last _ _ _ (by simp)⟩
  have hF0 : Fr noB w W0 := by rw [← hW0]; exact (((Fr.refl noB w).alloc _).alloc _).alloc _
  have HG : Hid (∀ W, Fr noB W0 W → RAt W w.heap.size t u fx ar r1 c1 x1 y1 r2 c2 x2 y2 ∧ RAt W (w.heap.size + 1) t2 u2 gx br s1 d1 z1 v1 s2 d2 z2 v2) := fun W hW => ⟨hA0.fr hW id, hB0.fr hW id⟩
  have HX : Hid (∀ w3 w4 : World, Fr noB W0 w3 → Fr noB (w3.alloc (.cells #[.string t3, .string u3, .bool f3, .bool a3, .int .i64 p3, .int .i64 q3, .bool f4, .bool f5, .int .i64 p4, .int .i64 q4, .bool f6, .bool f7] 25 (0, 0))) w4 → Fr noB w (w4.alloc (.cells #[.string t3, .string u3, .bool f3, .bool a3, .int .i64 p3, .int .i64 q3, .bool f4, .bool f5, .int .i64 p4, .int .i64 q4, .bool f6, .bool f7] 25 (0, 0))) ∧ Five (w4.alloc (.cells #[.string t3, .string u3, .bool f3, .bool a3, .int .i64 p3, .int .i64 q3, .bool f4, .bool f5, .int .i64 p4, .int .i64 q4, .bool f6, .bool f7] 25 (0, 0))) w.heap.size w3.heap.size w4.heap.size t u fx ar r1 c1 x1 y1 r2 c2 x2 y2 r c t3 u3 f3 a3 p3 q3 f4 f5 p4 q4 f6 f7) := fun w3 w4 h3 h4 => by
    have f1 := (Fr.refl noB w3).alloc (.cells #[.string t3, .string u3, .bool f3, .bool a3, .int .i64 p3, .int .i64 q3, .bool f4, .bool f5, .int .i64 p4, .int .i64 q4, .bool f6, .bool f7] 25 (0, 0))
    have f2 := (Fr.refl noB w4).alloc (.cells #[.string t3, .string u3, .bool f3, .bool a3, .int .i64 p3, .int .i64 q3, .bool f4, .bool f5, .int .i64 p4, .int .i64 q4, .bool f6, .bool f7] 25 (0, 0))
    have g := h3.trans (f1.trans (h4.trans f2))
    exact ⟨hF0.trans g, hA0.fr g id, hC0.fr g id, (show RAt (w3.alloc (.cells #[.string t3, .string u3, .bool f3, .bool a3, .int .i64 p3, .int .i64 q3, .bool f4, .bool f5, .int .i64 p4, .int .i64 q4, .bool f6, .bool f7] 25 (0, 0))) w3.heap.size t3 u3 f3 a3 p3 q3 f4 f5 p4 q4 f6 f7 from ⟨heap_alloc_new _ _⟩).fr (h4.trans f2) id, ⟨heap_alloc_new _ _⟩⟩
  have g0 := hA0.g0; have g1 := hA0.g1; have g2 := hA0.g2; have g3 := hA0.g3; have g4 := hA0.g4; have g5 := hA0.g5; have g6 := hA0.g6; have g7 := hA0.g7; have g8 := hA0.g8; have g9 := hA0.g9; have g10 := hA0.g10; have g11 := hA0.g11
  have k0 := hB0.g0; have k1 := hB0.g1; have k2 := hB0.g2; have k3 := hB0.g3; have k4 := hB0.g4; have k5 := hB0.g5; have k6 := hB0.g6; have k7 := hB0.g7; have k8 := hB0.g8; have k9 := hB0.g9; have k10 := hB0.g10; have k11 := hB0.g11
  clear hA0 hB0 hC0 hF0
  go_enter Tryd.func4, Tryd.ntmps4
  go_wp2_with (first
    | (go_at_call 8; (with_reducible refine (HS1 _).mono ?_); rintro e w1 ⟨rfl, hF1⟩; clear g0 g1 g2 g3 g4 g5 g6 g7 g8 g9 g10 g11 k0 k1 k2 k3 k4 k5 k6 k7 k8 k9 k10 k11; have h1 := HG.out _ hF1; have g0 := h1.1.g0; have g1 := h1.1.g1; have g2 := h1.1.g2; have g3 := h1.1.g3; have g4 := h1.1.g4; have g5 := h1.1.g5; have g6 := h1.1.g6; have g7 := h1.1.g7; have g8 := h1.1.g8; have g9 := h1.1.g9; have g10 := h1.1.g10; have g11 := h1.1.g11; clear h1)
    | (go_at_call 9; (with_reducible refine (HS2 _).mono ?_); rintro e w2 ⟨rfl, hF2⟩; clear g0 g1 g2 g3 g4 g5 g6 g7 g8 g9 g10 g11; have h2 := HG.out _ (hF1.trans hF2); have g0 := h2.1.g0; have g1 := h2.1.g1; have g2 := h2.1.g2; have g3 := h2.1.g3; have g4 := h2.1.g4; have g5 := h2.1.g5; have g6 := h2.1.g6; have g7 := h2.1.g7; have g8 := h2.1.g8; have g9 := h2.1.g9; have g10 := h2.1.g10; have g11 := h2.1.g11; have k0 := h2.2.g0; have k1 := h2.2.g1; have k2 := h2.2.g2; have k3 := h2.2.g3; have k4 := h2.2.g4; have k5 := h2.2.g5; have k6 := h2.2.g6; have k7 := h2.2.g7; have k8 := h2.2.g8; have k9 := h2.2.g9; have k10 := h2.2.g10; have k11 := h2.2.g11; clear h2)
    | (go_at_call 10; (with_reducible refine (HC1 _).mono ?_); rintro e w3 ⟨rfl, hF3⟩; clear g0 g1 g2 g3 g4 g5 g6 g7 g8 g9 g10 g11 k0 k1 k2 k3 k4 k5 k6 k7 k8 k9 k10 k11; have h3 := HG.out _ ((hF1.trans (hF2.trans hF3)).trans ((Fr.refl noB w3).alloc (.cells #[.string t3, .string u3, .bool f3, .bool a3, .int .i64 p3, .int .i64 q3, .bool f4, .bool f5, .int .i64 p4, .int .i64 q4, .bool f6, .bool f7] 25 (0, 0)))); have g0 := h3.1.g0; have g1 := h3.1.g1; have g2 := h3.1.g2; have g3 := h3.1.g3; have g4 := h3.1.g4; have g5 := h3.1.g5; have g6 := h3.1.g6; have g7 := h3.1.g7; have g8 := h3.1.g8; have g9 := h3.1.g9; have g10 := h3.1.g10; have g11 := h3.1.g11; have k0 := h3.2.g0; have k1 := h3.2.g1; have k2 := h3.2.g2; have k3 := h3.2.g3; have k4 := h3.2.g4; have k5 := h3.2.g5; have k6 := h3.2.g6; have k7 := h3.2.g7; have k8 := h3.2.g8; have k9 := h3.2.g9; have k10 := h3.2.g10; have k11 := h3.2.g11; clear h3)
    | (go_at_call 11; (with_reducible refine (HC2 _).mono ?_); rintro e w4 ⟨rfl, hF4⟩; clear g0 g1 g2 g3 g4 g5 g6 g7 g8 g9 g10 g11 k0 k1 k2 k3 k4 k5 k6 k7 k8 k9 k10 k11))
  obtain ⟨hF, hL⟩ := HX.out w3 w4 (hF1.trans (hF2.trans hF3)) hF4
  clear HX HG hF1 hF2 hF3 hF4 HS1 HS2 HC1 HC2 hW0
  generalize w4.alloc (.cells #[.string t3, .string u3, .bool f3, .bool a3, .int .i64 p3, .int .i64 q3, .bool f4, .bool f5, .int .i64 p4, .int .i64 q4, .bool f6, .bool f7] 25 (0, 0)) = WL at *
  refine wp_region_held_drew (S := fun W => Fr noB WL W) (by kernel_rfl) ((Fr.refl _ _).drew) (fun hHeld => ?_)
  refine wpAnyH_ready (rs := [0]) (by kernel_rfl) (by simp) ?_
  refine AllReadyH.cons rfl (fun K hK => ?_) AllReadyH.nil
  (with_reducible refine ite_in ?_ ?_)
  · kernel_rfl
  (with_reducible refine wp_go 7 #[] ?_ ?_)
  · kernel_rfl
  (with_reducible refine (H0 _).mono ?_)
  rintro e wv0 ⟨rfl, hV0⟩
  refine hK.out _ _ (Fr.trans ((Fr.refl noB WL).drew) hV0) (fun hHeld0 => ?_)
  clear hK K
  refine wpAnyH_take (i := 1) (v := .bool true) rfl (by kernel_rfl) (by kernel_rfl) (by kernel_rfl) (fun _ _ _ h => h) (Or.inl ⟨by kernel_rfl, fun w hSw => by kernel_rfl⟩) hHeld0 ?_
  refine wpAnyH_take (i := 2) (v := (.agg #[.string t, .string u, .bool fx, .bool ar, .int .i64 r1, .int .i64 c1, .bool x1, .bool y1, .int .i64 r2, .int .i64 c2, .bool x2, .bool y2])) rfl (by kernel_rfl) (by kernel_rfl) (by kernel_rfl) (fun _ _ _ h => h) (y_loadS 25 (.tmp 3) (.pointer (some ⟨w.heap.size, 0, none⟩)) _ (by kernel_rfl) rfl (by kernel_rfl) (fun w h => load_ref w _ _ _ _ _ _ _ _ _ _ _ _ _ (hL.fr h).a)) hHeld0 ?_
  refine wpAnyH_take (i := 4) (v := (.agg #[.string t, .string u, .bool fx, .bool ar, .int .i64 r1, .int .i64 c1, .bool x1, .bool y1, .int .i64 r2, .int .i64 c2, .bool x2, .bool y2])) rfl (by kernel_rfl) (by kernel_rfl) (by kernel_rfl) (fun _ _ _ h => h) (y_loadS 25 (.tmp 3) (.pointer (some ⟨w.heap.size, 0, none⟩)) _ (by kernel_rfl) rfl (by kernel_rfl) (fun w h => load_ref w _ _ _ _ _ _ _ _ _ _ _ _ _ (hL.fr h).a)) hHeld0 ?_
  refine wpAnyH_ready (rs := [3]) (by kernel_rfl) (by simp) ?_
  refine AllReadyH.cons rfl (fun K hK => ?_) AllReadyH.nil
  (with_reducible refine ite_in ?_ ?_)
  · kernel_rfl
  (with_reducible refine wp_go 12 #[(.agg #[.string t, .string u, .bool fx, .bool ar, .int .i64 r1, .int .i64 c1, .bool x1, .bool y1, .int .i64 r2, .int .i64 c2, .bool x2, .bool y2])] ?_ ?_)
  · kernel_rfl
  (with_reducible refine (HN1 _).mono ?_)
  rintro e wv1 ⟨rfl, hV1⟩
  refine hK.out _ _ (Fr.trans (Fr.trans ((Fr.refl noB WL).drew) hV0) hV1) (fun hHeld1 => ?_)
  clear hK K
  refine wpAnyH_ready (rs := [5]) (by kernel_rfl) (by simp) ?_
  refine AllReadyH.cons rfl (fun K hK => ?_) AllReadyH.nil
  (with_reducible refine ite_in ?_ ?_)
  · kernel_rfl
  (with_reducible refine wp_go 13 #[(.agg #[.string t, .string u, .bool fx, .bool ar, .int .i64 r1, .int .i64 c1, .bool x1, .bool y1, .int .i64 r2, .int .i64 c2, .bool x2, .bool y2])] ?_ ?_)
  · kernel_rfl
  (with_reducible refine (HN2 _).mono ?_)
  rintro e wv2 ⟨rfl, hV2⟩
  refine hK.out _ _ (Fr.trans (Fr.trans (Fr.trans ((Fr.refl noB WL).drew) hV0) hV1) hV2) (fun hHeld2 => ?_)
  clear hK K
  refine wpAnyH_take (i := 6) (v := .bool true) rfl (by kernel_rfl) (by kernel_rfl) (by kernel_rfl) (fun _ _ _ h => h) (y_eqR t5 u5 g3 b3 p5 q5 g4 g5 p6 q6 g6 g7 (.tmp 40) (.tmp 42) (by kernel_rfl) rfl (by kernel_rfl) (by kernel_rfl)) hHeld2 ?_
  refine wpAnyH_take (i := 7) (v := .bool true) rfl (by kernel_rfl) (by kernel_rfl) (by kernel_rfl) (fun _ _ _ h => h) (Or.inl ⟨by kernel_rfl, fun w hSw => by kernel_rfl⟩) hHeld2 ?_
  refine wpAnyH_take (i := 8) (v := .bool true) rfl (by kernel_rfl) (by kernel_rfl) (by kernel_rfl) (fun _ _ _ h => h) (Or.inl ⟨by kernel_rfl, fun w hSw => by kernel_rfl⟩) hHeld2 ?_
  refine wpAnyH_take (i := 9) (v := .int .i64 n) rfl (by kernel_rfl) (by kernel_rfl) (by kernel_rfl) (fun _ _ _ h => h) (Or.inl ⟨by kernel_rfl, fun w hSw => by kernel_rfl⟩) hHeld2 ?_
  refine wpAnyH_take (i := 10) (v := .int .i64 n) rfl (by kernel_rfl) (by kernel_rfl) (by kernel_rfl) (fun _ _ _ h => h) (Or.inl ⟨by kernel_rfl, fun w hSw => by kernel_rfl⟩) hHeld2 ?_
  refine wpAnyH_take (i := 11) (v := .bool true) rfl (by kernel_rfl) (by kernel_rfl) (by kernel_rfl) (fun _ _ _ h => h) (y_eqI n (.tmp 46) (.tmp 47) (by kernel_rfl) rfl (by kernel_rfl) (by kernel_rfl)) hHeld2 ?_
  refine wpAnyH_take (i := 12) (v := .bool true) rfl (by kernel_rfl) (by kernel_rfl) (by kernel_rfl) (fun _ _ _ h => h) (Or.inl ⟨by kernel_rfl, fun w hSw => by kernel_rfl⟩) hHeld2 ?_
  refine wpAnyH_take (i := 13) (v := .bool true) rfl (by kernel_rfl) (by kernel_rfl) (by kernel_rfl) (fun _ _ _ h => h) (Or.inl ⟨by kernel_rfl, fun w hSw => by kernel_rfl⟩) hHeld2 ?_
  refine wpAnyH_take (i := 14) (v := .int .i64 m) rfl (by kernel_rfl) (by kernel_rfl) (by kernel_rfl) (fun _ _ _ h => h) (Or.inl ⟨by kernel_rfl, fun w hSw => by kernel_rfl⟩) hHeld2 ?_
  refine wpAnyH_take (i := 15) (v := .int .i64 m) rfl (by kernel_rfl) (by kernel_rfl) (by kernel_rfl) (fun _ _ _ h => h) (Or.inl ⟨by kernel_rfl, fun w hSw => by kernel_rfl⟩) hHeld2 ?_
  refine wpAnyH_take (i := 16) (v := .bool true) rfl (by kernel_rfl) (by kernel_rfl) (by kernel_rfl) (fun _ _ _ h => h) (y_eqI m (.tmp 51) (.tmp 52) (by kernel_rfl) rfl (by kernel_rfl) (by kernel_rfl)) hHeld2 ?_
  refine wpAnyH_take (i := 17) (v := .bool true) rfl (by kernel_rfl) (by kernel_rfl) (by kernel_rfl) (fun _ _ _ h => h) (Or.inl ⟨by kernel_rfl, fun w hSw => by kernel_rfl⟩) hHeld2 ?_
  refine wpAnyH_take (i := 18) (v := .bool true) rfl (by kernel_rfl) (by kernel_rfl) (by kernel_rfl) (fun _ _ _ h => h) (Or.inl ⟨by kernel_rfl, fun w hSw => by kernel_rfl⟩) hHeld2 ?_
  refine wpAnyH_take (i := 19) (v := (.agg #[.string t, .string u, .bool fx, .bool ar, .int .i64 r1, .int .i64 c1, .bool x1, .bool y1, .int .i64 r2, .int .i64 c2, .bool x2, .bool y2])) rfl (by kernel_rfl) (by kernel_rfl) (by kernel_rfl) (fun _ _ _ h => h) (y_loadS 25 (.tmp 3) (.pointer (some ⟨w.heap.size, 0, none⟩)) _ (by kernel_rfl) rfl (by kernel_rfl) (fun w h => load_ref w _ _ _ _ _ _ _ _ _ _ _ _ _ (hL.fr h).a)) hHeld2 ?_
  refine wpAnyH_take (i := 20) (v := .agg #[.int .i64 r, .int .i64 c]) rfl (by kernel_rfl) (by kernel_rfl) (by kernel_rfl) (fun _ _ _ h => h) (y_loadS 32 (.tmp 5) (.pointer (some ⟨w.heap.size + 1 + 1, 0, none⟩)) _ (by kernel_rfl) rfl (by kernel_rfl) (fun w h => load_cel w _ _ _ (hL.fr h).c)) hHeld2 ?_
  refine wpAnyH_take (i := 22) (v := (.agg #[.string t, .string u, .bool fx, .bool ar, .int .i64 r1, .int .i64 c1, .bool x1, .bool y1, .int .i64 r2, .int .i64 c2, .bool x2, .bool y2])) rfl (by kernel_rfl) (by kernel_rfl) (by kernel_rfl) (fun _ _ _ h => h) (y_loadS 25 (.tmp 3) (.pointer (some ⟨w.heap.size, 0, none⟩)) _ (by kernel_rfl) rfl (by kernel_rfl) (fun w h => load_ref w _ _ _ _ _ _ _ _ _ _ _ _ _ (hL.fr h).a)) hHeld2 ?_
  refine wpAnyH_take (i := 23) (v := .agg #[.int .i64 r, .int .i64 c]) rfl (by kernel_rfl) (by kernel_rfl) (by kernel_rfl) (fun _ _ _ h => h) (y_loadS 32 (.tmp 5) (.pointer (some ⟨w.heap.size + 1 + 1, 0, none⟩)) _ (by kernel_rfl) rfl (by kernel_rfl) (fun w h => load_cel w _ _ _ (hL.fr h).c)) hHeld2 ?_
  refine wpAnyH_ready (rs := [21]) (by kernel_rfl) (by simp) ?_
  refine AllReadyH.cons rfl (fun K hK => ?_) AllReadyH.nil
  (with_reducible refine ite_in ?_ ?_)
  · kernel_rfl
  (with_reducible refine wp_go 14 #[(.agg #[.string t, .string u, .bool fx, .bool ar, .int .i64 r1, .int .i64 c1, .bool x1, .bool y1, .int .i64 r2, .int .i64 c2, .bool x2, .bool y2]), .agg #[.int .i64 r, .int .i64 c]] ?_ ?_)
  · kernel_rfl
  (with_reducible refine (HH1 _).mono ?_)
  rintro e wv3 ⟨rfl, hV3⟩
  refine hK.out _ _ (Fr.trans (Fr.trans (Fr.trans (Fr.trans ((Fr.refl noB WL).drew) hV0) hV1) hV2) hV3) (fun hHeld3 => ?_)
  clear hK K
  refine wpAnyH_ready (rs := [24]) (by kernel_rfl) (by simp) ?_
  refine AllReadyH.cons rfl (fun K hK => ?_) AllReadyH.nil
  (with_reducible refine ite_in ?_ ?_)
  · kernel_rfl
  (with_reducible refine wp_go 15 #[(.agg #[.string t, .string u, .bool fx, .bool ar, .int .i64 r1, .int .i64 c1, .bool x1, .bool y1, .int .i64 r2, .int .i64 c2, .bool x2, .bool y2]), .agg #[.int .i64 r, .int .i64 c]] ?_ ?_)
  · kernel_rfl
  (with_reducible refine (HH2 _).mono ?_)
  rintro e wv4 ⟨rfl, hV4⟩
  refine hK.out _ _ (Fr.trans (Fr.trans (Fr.trans (Fr.trans (Fr.trans ((Fr.refl noB WL).drew) hV0) hV1) hV2) hV3) hV4) (fun hHeld4 => ?_)
  clear hK K
  refine wpAnyH_take (i := 25) (v := .bool true) rfl (by kernel_rfl) (by kernel_rfl) (by kernel_rfl) (fun _ _ _ h => h) (y_eqB H (.tmp 58) (.tmp 61) (by kernel_rfl) rfl (by kernel_rfl) (by kernel_rfl)) hHeld4 ?_
  refine wpAnyH_take (i := 26) (v := .bool true) rfl (by kernel_rfl) (by kernel_rfl) (by kernel_rfl) (fun _ _ _ h => h) (Or.inl ⟨by kernel_rfl, fun w hSw => by kernel_rfl⟩) hHeld4 ?_
  refine wpAnyH_take (i := 27) (v := .bool true) rfl (by kernel_rfl) (by kernel_rfl) (by kernel_rfl) (fun _ _ _ h => h) (Or.inl ⟨by kernel_rfl, fun w hSw => by kernel_rfl⟩) hHeld4 ?_
  refine wpAnyH_take (i := 28) (v := (.agg #[.string t3, .string u3, .bool f3, .bool a3, .int .i64 p3, .int .i64 q3, .bool f4, .bool f5, .int .i64 p4, .int .i64 q4, .bool f6, .bool f7])) rfl (by kernel_rfl) (by kernel_rfl) (by kernel_rfl) (fun _ _ _ h => h) (y_loadS 25 (.tmp 11) (.pointer (some ⟨w3.heap.size, 0, none⟩)) _ (by kernel_rfl) rfl (by kernel_rfl) (fun w h => load_ref w _ _ _ _ _ _ _ _ _ _ _ _ _ (hL.fr h).x)) hHeld4 ?_
  refine wpAnyH_take (i := 29) (v := (.agg #[.string t3, .string u3, .bool f3, .bool a3, .int .i64 p3, .int .i64 q3, .bool f4, .bool f5, .int .i64 p4, .int .i64 q4, .bool f6, .bool f7])) rfl (by kernel_rfl) (by kernel_rfl) (by kernel_rfl) (fun _ _ _ h => h) (y_loadS 25 (.tmp 13) (.pointer (some ⟨w4.heap.size, 0, none⟩)) _ (by kernel_rfl) rfl (by kernel_rfl) (fun w h => load_ref w _ _ _ _ _ _ _ _ _ _ _ _ _ (hL.fr h).y)) hHeld4 ?_
  refine wpAnyH_take (i := 30) (v := .bool true) rfl (by kernel_rfl) (by kernel_rfl) (by kernel_rfl) (fun _ _ _ h => h) (y_eqR t3 u3 f3 a3 p3 q3 f4 f5 p4 q4 f6 f7 (.tmp 65) (.tmp 66) (by kernel_rfl) rfl (by kernel_rfl) (by kernel_rfl)) hHeld4 ?_
  refine wpAnyH_take (i := 31) (v := .bool true) rfl (by kernel_rfl) (by kernel_rfl) (by kernel_rfl) (fun _ _ _ h => h) (Or.inl ⟨by kernel_rfl, fun w hSw => by kernel_rfl⟩) hHeld4 ?_
  refine wpAnyH_take (i := 32) (v := .bool true) rfl (by kernel_rfl) (by kernel_rfl) (by kernel_rfl) (fun _ _ _ h => h) (Or.inl ⟨by kernel_rfl, fun w hSw => by kernel_rfl⟩) hHeld4 ?_
  refine wpAnyH_take (i := 33) (v := .bool Z) rfl (by kernel_rfl) (by kernel_rfl) (by kernel_rfl) (fun _ _ _ h => h) (Or.inl ⟨by kernel_rfl, fun w hSw => by kernel_rfl⟩) hHeld4 ?_
  refine wpAnyH_take (i := 34) (v := .bool Z) rfl (by kernel_rfl) (by kernel_rfl) (by kernel_rfl) (fun _ _ _ h => h) (Or.inl ⟨by kernel_rfl, fun w hSw => by kernel_rfl⟩) hHeld4 ?_
  refine wpAnyH_take (i := 35) (v := .bool true) rfl (by kernel_rfl) (by kernel_rfl) (by kernel_rfl) (fun _ _ _ h => h) (y_eqB Z (.tmp 70) (.tmp 71) (by kernel_rfl) rfl (by kernel_rfl) (by kernel_rfl)) hHeld4 ?_
  refine wpAnyH_take (i := 36) (v := .bool true) rfl (by kernel_rfl) (by kernel_rfl) (by kernel_rfl) (fun _ _ _ h => h) (Or.inl ⟨by kernel_rfl, fun w hSw => by kernel_rfl⟩) hHeld4 ?_
  refine wpAnyH_take (i := 37) (v := .bool true) rfl (by kernel_rfl) (by kernel_rfl) (by kernel_rfl) (fun _ _ _ h => h) (Or.inl ⟨by kernel_rfl, fun w hSw => by kernel_rfl⟩) hHeld4 ?_
  refine wpAnyH_done (by kernel_rfl) ?_ _
  refine fr_to { tmps := #[(.agg #[.string t, .string u, .bool fx, .bool ar, .int .i64 r1, .int .i64 c1, .bool x1, .bool y1, .int .i64 r2, .int .i64 c2, .bool x2, .bool y2]), (.agg #[.string t2, .string u2, .bool gx, .bool br, .int .i64 s1, .int .i64 d1, .bool z1, .bool v1, .int .i64 s2, .int .i64 d2, .bool z2, .bool v2]), .agg #[.int .i64 r, .int .i64 c], .pointer (some ⟨w.heap.size, 0, none⟩), .pointer (some ⟨w.heap.size + 1, 0, none⟩), .pointer (some ⟨w.heap.size + 1 + 1, 0, none⟩), .bool true, .int .i64 n, .int .i64 m, .int .i64 n, .int .i64 m, .pointer (some ⟨w3.heap.size, 0, none⟩), .bool Z, .pointer (some ⟨w4.heap.size, 0, none⟩), .bool Z, .tuple #[.int .i64 n, .int .i64 m], (.agg #[.string t, .string u, .bool fx, .bool ar, .int .i64 r1, .int .i64 c1, .bool x1, .bool y1, .int .i64 r2, .int .i64 c2, .bool x2, .bool y2]), .tuple #[.int .i64 n, .int .i64 m], .int .i64 n, .int .i64 m, .tuple #[.int .i64 n, .int .i64 m], (.agg #[.string t, .string u, .bool fx, .bool ar, .int .i64 r1, .int .i64 c1, .bool x1, .bool y1, .int .i64 r2, .int .i64 c2, .bool x2, .bool y2]), .tuple #[.int .i64 n, .int .i64 m], .int .i64 n, .int .i64 m, .tuple #[(.agg #[.string t3, .string u3, .bool f3, .bool a3, .int .i64 p3, .int .i64 q3, .bool f4, .bool f5, .int .i64 p4, .int .i64 q4, .bool f6, .bool f7]), .bool Z], (.agg #[.string t, .string u, .bool fx, .bool ar, .int .i64 r1, .int .i64 c1, .bool x1, .bool y1, .int .i64 r2, .int .i64 c2, .bool x2, .bool y2]), (.agg #[.string t2, .string u2, .bool gx, .bool br, .int .i64 s1, .int .i64 d1, .bool z1, .bool v1, .int .i64 s2, .int .i64 d2, .bool z2, .bool v2]), .tuple #[(.agg #[.string t3, .string u3, .bool f3, .bool a3, .int .i64 p3, .int .i64 q3, .bool f4, .bool f5, .int .i64 p4, .int .i64 q4, .bool f6, .bool f7]), .bool Z], (.agg #[.string t3, .string u3, .bool f3, .bool a3, .int .i64 p3, .int .i64 q3, .bool f4, .bool f5, .int .i64 p4, .int .i64 q4, .bool f6, .bool f7]), .bool Z, .tuple #[(.agg #[.string t3, .string u3, .bool f3, .bool a3, .int .i64 p3, .int .i64 q3, .bool f4, .bool f5, .int .i64 p4, .int .i64 q4, .bool f6, .bool f7]), .bool Z], (.agg #[.string t, .string u, .bool fx, .bool ar, .int .i64 r1, .int .i64 c1, .bool x1, .bool y1, .int .i64 r2, .int .i64 c2, .bool x2, .bool y2]), (.agg #[.string t2, .string u2, .bool gx, .bool br, .int .i64 s1, .int .i64 d1, .bool z1, .bool v1, .int .i64 s2, .int .i64 d2, .bool z2, .bool v2]), .tuple #[(.agg #[.string t3, .string u3, .bool f3, .bool a3, .int .i64 p3, .int .i64 q3, .bool f4, .bool f5, .int .i64 p4, .int .i64 q4, .bool f6, .bool f7]), .bool Z], (.agg #[.string t3, .string u3, .bool f3, .bool a3, .int .i64 p3, .int .i64 q3, .bool f4, .bool f5, .int .i64 p4, .int .i64 q4, .bool f6, .bool f7]), .bool Z, .bool true, .bool true, (.agg #[.string t, .string u, .bool fx, .bool ar, .int .i64 r1, .int .i64 c1, .bool x1, .bool y1, .int .i64 r2, .int .i64 c2, .bool x2, .bool y2]), (.agg #[.string t5, .string u5, .bool g3, .bool b3, .int .i64 p5, .int .i64 q5, .bool g4, .bool g5, .int .i64 p6, .int .i64 q6, .bool g6, .bool g7]), (.agg #[.string t, .string u, .bool fx, .bool ar, .int .i64 r1, .int .i64 c1, .bool x1, .bool y1, .int .i64 r2, .int .i64 c2, .bool x2, .bool y2]), (.agg #[.string t5, .string u5, .bool g3, .bool b3, .int .i64 p5, .int .i64 q5, .bool g4, .bool g5, .int .i64 p6, .int .i64 q6, .bool g6, .bool g7]), .bool true, .bool true, .bool true, .int .i64 n, .int .i64 n, .bool true, .bool true, .bool true, .int .i64 m, .int .i64 m, .bool true, .bool true, .bool true, (.agg #[.string t, .string u, .bool fx, .bool ar, .int .i64 r1, .int .i64 c1, .bool x1, .bool y1, .int .i64 r2, .int .i64 c2, .bool x2, .bool y2]), .agg #[.int .i64 r, .int .i64 c], .bool H, (.agg #[.string t, .string u, .bool fx, .bool ar, .int .i64 r1, .int .i64 c1, .bool x1, .bool y1, .int .i64 r2, .int .i64 c2, .bool x2, .bool y2]), .agg #[.int .i64 r, .int .i64 c], .bool H, .bool true, .bool true, .bool true, (.agg #[.string t3, .string u3, .bool f3, .bool a3, .int .i64 p3, .int .i64 q3, .bool f4, .bool f5, .int .i64 p4, .int .i64 q4, .bool f6, .bool f7]), (.agg #[.string t3, .string u3, .bool f3, .bool a3, .int .i64 p3, .int .i64 q3, .bool f4, .bool f5, .int .i64 p4, .int .i64 q4, .bool f6, .bool f7]), .bool true, .bool true, .bool true, .bool Z, .bool Z, .bool true, .bool true], defers := [] } (by kernel_rfl) ?_
  go_wp2_with fail
  go_ret
  exact ⟨rfl, (hF.trans (Fr.trans (Fr.trans (Fr.trans (Fr.trans (Fr.trans ((Fr.refl noB WL).drew) hV0) hV1) hV2) hV3) hV4)).below (Nat.le_refl _) (fun _ h => h.elim)⟩
theorem com_is (t u : ByteArray) (fx : Bool) (bx : Box) : ∃ (t3 : ByteArray) (u3 : ByteArray) (f3 : Bool) (a3 : Bool) (p3 : Int) (q3 : Int) (f4 : Bool) (f5 : Bool) (p4 : Int) (q4 : Int) (f6 : Bool) (f7 : Bool) (Z : Bool), comV t u fx bx = .tuple #[(.agg #[.string t3, .string u3, .bool f3, .bool a3, .int .i64 p3, .int .i64 q3, .bool f4, .bool f5, .int .i64 p4, .int .i64 q4, .bool f6, .bool f7]), .bool Z] := by
  unfold comV
  split
  · split
    · exact ⟨_, _, _, _, _, _, _, _, _, _, _, _, _, rfl⟩
    · exact ⟨_, _, _, _, _, _, _, _, _, _, _, _, _, rfl⟩
  · exact ⟨_, _, _, _, _, _, _, _, _, _, _, _, _, rfl⟩
theorem areas_walk (t : ByteArray) (u : ByteArray) (fx : Bool) (ar : Bool) (r1 : Int) (c1 : Int) (x1 : Bool) (y1 : Bool) (r2 : Int) (c2 : Int) (x2 : Bool) (y2 : Bool) (t2 : ByteArray) (u2 : ByteArray) (gx : Bool) (br : Bool) (s1 : Int) (d1 : Int) (z1 : Bool) (v1 : Bool) (s2 : Int) (d2 : Int) (z2 : Bool) (v2 : Bool) (r c : Int) (w : World) (ht : t.size ≤ 140737488355328) (hu : u.size ≤ 140737488355328) :
    Calls Tryd.prog 4 #[(.agg #[.string t, .string u, .bool fx, .bool ar, .int .i64 r1, .int .i64 c1, .bool x1, .bool y1, .int .i64 r2, .int .i64 c2, .bool x2, .bool y2]), (.agg #[.string t2, .string u2, .bool gx, .bool br, .int .i64 s1, .int .i64 d1, .bool z1, .bool v1, .int .i64 s2, .int .i64 d2, .bool z2, .bool v2]), .agg #[.int .i64 r, .int .i64 c]] w fun e w' => e = .returned (.bool true) ∧ Below w.heap.size w w' := by
  have HS1 := size_any t u fx ar r1 c1 x1 y1 r2 c2 x2 y2
  have HS2 := rsize_any t u fx ar r1 c1 x1 y1 r2 c2 x2 y2
  have HC1 := fun w => common_any t u fx ar r1 c1 x1 y1 r2 c2 x2 y2 t2 u2 gx br s1 d1 z1 v1 s2 d2 z2 v2 w (by omega) (by omega)
  have HC2 := rcommon_any t u fx ar r1 c1 x1 y1 r2 c2 x2 y2 t2 u2 gx br s1 d1 z1 v1 s2 d2 z2 v2
  have HN1 := fun w => pnorm_any t u fx ar r1 c1 x1 y1 r2 c2 x2 y2 w (by omega) (by omega)
  have HN2 := rnorm_any t u fx ar r1 c1 x1 y1 r2 c2 x2 y2
  have HH1 := has_any t u fx ar r1 c1 x1 y1 r2 c2 x2 y2 r c
  have HH2 := rhas_any t u fx ar r1 c1 x1 y1 r2 c2 x2 y2 r c
  obtain ⟨t3, u3, f3, a3, p3, q3, f4, f5, p4, q4, f6, f7, Z, hZ⟩ := com_is t u fx (boxF ar br r1 c1 r2 c2 s1 d1 s2 d2)
  rw [hZ] at HC1 HC2
  exact ar_walk t u fx ar r1 c1 x1 y1 r2 c2 x2 y2 t2 u2 gx br s1 d1 z1 v1 s2 d2 z2 v2 r c t3 u3 f3 a3 p3 q3 f4 f5 p4 q4 f6 f7 _ _ _ _ _ _ _ _ _ _ _ _ _ _ Z _ w HS1 HS2 HC1 HC2 HN1 HN2 HH1 HH2
#print axioms areas_walk
end Go.Proofs.YtiokbpknaldbaaaDoor
