/- RefsCommon: the law's walk. -/
import Derived.Test.YtklinhfcecfnfabDoorRCom
import Derived.Test.YtklinhfcecfnfabDoorRLiv
namespace Go.Proofs.YtklinhfcecfnfabDoor
open Go.RowKit Go.Shelf

theorem has_box (b : Box) (T L D E r c : Int) (hb : b = ⟨T, L, D, E⟩) (hs : b.some = true) : hasF true T L D E r c = ((decide (T ≤ r) && decide (L ≤ c)) && (decide (r ≤ D) && decide (c ≤ E))) := by
  subst hb
  simp only [Box.some, Bool.and_eq_true, decide_eq_true_eq] at hs
  obtain ⟨h1, h2⟩ := hs
  unfold hasF loI hiI othr
  rw [if_pos rfl, if_pos rfl, Int.min_eq_left h1, Int.min_eq_left h2, Int.max_eq_right h1, Int.max_eq_right h2]
theorem has_one (T L p q r c : Int) : hasF false T L p q r c = ((decide (T ≤ r) && decide (L ≤ c)) && (decide (r ≤ T) && decide (c ≤ L))) := by
  unfold hasF loI hiI othr
  simp
theorem both_box (ar br : Bool) (r1 c1 r2 c2 s1 d1 s2 d2 r c : Int) : (hasF ar r1 c1 r2 c2 r c && hasF br s1 d1 s2 d2 r c) = ((decide ((boxF ar br r1 c1 r2 c2 s1 d1 s2 d2).t ≤ r) && decide ((boxF ar br r1 c1 r2 c2 s1 d1 s2 d2).l ≤ c)) && (decide (r ≤ (boxF ar br r1 c1 r2 c2 s1 d1 s2 d2).d) && decide (c ≤ (boxF ar br r1 c1 r2 c2 s1 d1 s2 d2).e))) := by
  unfold hasF boxF
  simp only
  generalize loI ar r1 r2 = lr
  generalize loI ar c1 c2 = lc
  generalize hiI ar r1 r2 = hr
  generalize hiI ar c1 c2 = hc
  generalize loI br s1 s2 = mr
  generalize loI br d1 d2 = mc
  generalize hiI br s1 s2 = nr
  generalize hiI br d1 d2 = nc
  rw [Bool.eq_iff_iff]
  simp only [Bool.and_eq_true, decide_eq_true_eq]
  omega
/-- What Common answers, and which cells lie in it. -/
theorem com_cases (t u : ByteArray) (fx ar br : Bool) (r1 c1 r2 c2 s1 d1 s2 d2 r c : Int) :
    (comV t u fx (boxF ar br r1 c1 r2 c2 s1 d1 s2 d2) = .tuple #[(.agg #[.string ⟨#[]⟩, .string ⟨#[]⟩, .bool false, .bool false, .int .i64 0, .int .i64 0, .bool false, .bool false, .int .i64 0, .int .i64 0, .bool false, .bool false]), .bool false] ∧ (hasF ar r1 c1 r2 c2 r c && hasF br s1 d1 s2 d2 r c) = false) ∨
    ∃ (A : Bool) (p q p2 q2 : Int), comV t u fx (boxF ar br r1 c1 r2 c2 s1 d1 s2 d2) = .tuple #[(.agg #[.string t, .string u, .bool fx, .bool A, .int .i64 p, .int .i64 q, .bool false, .bool false, .int .i64 p2, .int .i64 q2, .bool false, .bool false]), .bool true] ∧ hasF A p q p2 q2 r c = (hasF ar r1 c1 r2 c2 r c && hasF br s1 d1 s2 d2 r c) := by
  rw [both_box]
  generalize boxF ar br r1 c1 r2 c2 s1 d1 s2 d2 = b
  unfold comV
  cases hs : b.some with
  | false =>
    left
    refine ⟨by rw [if_neg (by simp)], ?_⟩
    simp only [Box.some, Bool.and_eq_false_iff, decide_eq_false_iff_not] at hs
    simp only [Bool.and_eq_false_iff, decide_eq_false_iff_not]
    omega
  | true =>
    right
    cases ho : b.one with
    | true =>
      refine ⟨false, b.t, b.l, 0, 0, by rw [if_pos rfl, if_pos rfl], ?_⟩
      simp only [Box.one, Bool.and_eq_true, decide_eq_true_eq] at ho
      rw [has_one, ← ho.1, ← ho.2]
    | false =>
      exact ⟨true, b.t, b.l, b.d, b.e, by rw [if_pos rfl, if_neg (by simp)], has_box b _ _ _ _ r c rfl hs⟩
structure Four (W : World) (bs k : Nat) (t u : ByteArray) (fx ar : Bool) (r1 c1 : Int) (x1 y1 : Bool) (r2 c2 : Int) (x2 y2 : Bool) (t2 u2 : ByteArray) (gx br : Bool) (s1 d1 : Int) (z1 v1 : Bool) (s2 d2 : Int) (z2 v2 : Bool) (r c : Int) (t3 u3 : ByteArray) (f3 a3 : Bool) (p q : Int) (f4 f5 : Bool) (p2 q2 : Int) (f6 f7 : Bool) : Prop where
  a : RAt W bs t u fx ar r1 c1 x1 y1 r2 c2 x2 y2
  b : RAt W (bs + 1) t2 u2 gx br s1 d1 z1 v1 s2 d2 z2 v2
  c : CAt W (bs + 1 + 1) r c
  x : RAt W k t3 u3 f3 a3 p q f4 f5 p2 q2 f6 f7
theorem Four.fr {W W' : World} {bs k : Nat} {t u : ByteArray} {fx ar : Bool} {r1 c1 : Int} {x1 y1 : Bool} {r2 c2 : Int} {x2 y2 : Bool} {t2 u2 : ByteArray} {gx br : Bool} {s1 d1 : Int} {z1 v1 : Bool} {s2 d2 : Int} {z2 v2 : Bool} {r c : Int} {t3 u3 : ByteArray} {f3 a3 : Bool} {p q : Int} {f4 f5 : Bool} {p2 q2 : Int} {f6 f7 : Bool} (h : Four W bs k t u fx ar r1 c1 x1 y1 r2 c2 x2 y2 t2 u2 gx br s1 d1 z1 v1 s2 d2 z2 v2 r c t3 u3 f3 a3 p q f4 f5 p2 q2 f6 f7) (hF : Fr noB W W') : Four W' bs k t u fx ar r1 c1 x1 y1 r2 c2 x2 y2 t2 u2 gx br s1 d1 z1 v1 s2 d2 z2 v2 r c t3 u3 f3 a3 p q f4 f5 p2 q2 f6 f7 :=
  ⟨h.a.fr hF id, h.b.fr hF id, h.c.fr hF id, h.x.fr hF id⟩
set_option maxRecDepth 100000 in
set_option maxHeartbeats 2000000 in
theorem cm_false_false_n (t u : ByteArray) (fx ar : Bool) (r1 c1 : Int) (x1 y1 : Bool) (r2 c2 : Int) (x2 y2 : Bool) (t2 u2 : ByteArray) (gx br : Bool) (s1 d1 : Int) (z1 v1 : Bool) (s2 d2 : Int) (z2 v2 : Bool) (r c : Int) (w : World) (H1 : ∀ w, Calls Tryd.prog 4 #[(.agg #[.string t, .string u, .bool fx, .bool ar, .int .i64 r1, .int .i64 c1, .bool x1, .bool y1, .int .i64 r2, .int .i64 c2, .bool x2, .bool y2]), (.agg #[.string t2, .string u2, .bool gx, .bool br, .int .i64 s1, .int .i64 d1, .bool z1, .bool v1, .int .i64 s2, .int .i64 d2, .bool z2, .bool v2])] w fun e w' => e = .returned (.tuple #[(.agg #[.string ⟨#[]⟩, .string ⟨#[]⟩, .bool false, .bool false, .int .i64 0, .int .i64 0, .bool false, .bool false, .int .i64 0, .int .i64 0, .bool false, .bool false]), .bool false]) ∧ Fr noB w w') (H2 : ∀ w, Calls Tryd.prog 5 #[(.agg #[.string t, .string u, .bool fx, .bool ar, .int .i64 r1, .int .i64 c1, .bool x1, .bool y1, .int .i64 r2, .int .i64 c2, .bool x2, .bool y2]), .agg #[.int .i64 r, .int .i64 c]] w fun e w' => e = .returned (.bool false) ∧ Fr noB w w') (_H3 : ∀ w, Calls Tryd.prog 5 #[(.agg #[.string t2, .string u2, .bool gx, .bool br, .int .i64 s1, .int .i64 d1, .bool z1, .bool v1, .int .i64 s2, .int .i64 d2, .bool z2, .bool v2]), .agg #[.int .i64 r, .int .i64 c]] w fun e w' => e = .returned (.bool false) ∧ Fr noB w w') :
    Calls Tryd.prog 3 #[(.agg #[.string t, .string u, .bool fx, .bool ar, .int .i64 r1, .int .i64 c1, .bool x1, .bool y1, .int .i64 r2, .int .i64 c2, .bool x2, .bool y2]), (.agg #[.string t2, .string u2, .bool gx, .bool br, .int .i64 s1, .int .i64 d1, .bool z1, .bool v1, .int .i64 s2, .int .i64 d2, .bool z2, .bool v2]), .agg #[.int .i64 r, .int .i64 c]] w fun e w' => e = .returned (.bool true) ∧ Below w.heap.size w w' := by
  have H0 := live_true
  obtain ⟨W0, hW0⟩ : ∃ W0, ((w.alloc (.cells #[.string t, .string u, .bool fx, .bool ar, .int .i64 r1, .int .i64 c1, .bool x1, .bool y1, .int .i64 r2, .int .i64 c2, .bool x2, .bool y2] 25 (0, 0))).alloc (.cells #[.string t2, .string u2, .bool gx, .bool br, .int .i64 s1, .int .i64 d1, .bool z1, .bool v1, .int .i64 s2, .int .i64 d2, .bool z2, .bool v2] 25 (0, 0))).alloc (.cells #[.int .i64 r, .int .i64 c] 27 (0, 0)) = W0 := ⟨_, rfl⟩
  have hA0 : RAt W0 w.heap.size t u fx ar r1 c1 x1 y1 r2 c2 x2 y2 := ⟨by rw [← hW0]; exact alloc_old (alloc_old (alloc_last _ _ _ rfl))⟩
  have hB0 : RAt W0 (w.heap.size + 1) t2 u2 gx br s1 d1 z1 v1 s2 d2 z2 v2 := ⟨by rw [← hW0]; exact alloc_old (alloc_last _ _ _ (by simp))⟩
  have hC0 : CAt W0 (w.heap.size + 1 + 1) r c := ⟨by rw [← hW0]; exact alloc_last _ _ _ (by simp)⟩
  have HF0 : Hid (Fr noB w W0) := by
    show Fr noB w W0
    rw [← hW0]; exact (((Fr.refl noB w).alloc _).alloc _).alloc _
  have HX : Hid (∀ w1 : World, Fr noB W0 w1 → Fr noB w (w1.alloc (.cells #[.string ⟨#[]⟩, .string ⟨#[]⟩, .bool false, .bool false, .int .i64 0, .int .i64 0, .bool false, .bool false, .int .i64 0, .int .i64 0, .bool false, .bool false] 25 (0, 0))) ∧ Four (w1.alloc (.cells #[.string ⟨#[]⟩, .string ⟨#[]⟩, .bool false, .bool false, .int .i64 0, .int .i64 0, .bool false, .bool false, .int .i64 0, .int .i64 0, .bool false, .bool false] 25 (0, 0))) w.heap.size w1.heap.size t u fx ar r1 c1 x1 y1 r2 c2 x2 y2 t2 u2 gx br s1 d1 z1 v1 s2 d2 z2 v2 r c ⟨#[]⟩ ⟨#[]⟩ false false 0 0 false false 0 0 false false) := fun w1 h => by
    have g := h.trans ((Fr.refl noB w1).alloc (.cells #[.string ⟨#[]⟩, .string ⟨#[]⟩, .bool false, .bool false, .int .i64 0, .int .i64 0, .bool false, .bool false, .int .i64 0, .int .i64 0, .bool false, .bool false] 25 (0, 0)))
    exact ⟨HF0.out.trans g, hA0.fr g id, hB0.fr g id, hC0.fr g id, ⟨heap_alloc_new _ _⟩⟩
  have g0 := hA0.g0; have g1 := hA0.g1; have g2 := hA0.g2; have g3 := hA0.g3; have g4 := hA0.g4; have g5 := hA0.g5; have g6 := hA0.g6; have g7 := hA0.g7; have g8 := hA0.g8; have g9 := hA0.g9; have g10 := hA0.g10; have g11 := hA0.g11
  have k0 := hB0.g0; have k1 := hB0.g1; have k2 := hB0.g2; have k3 := hB0.g3; have k4 := hB0.g4; have k5 := hB0.g5; have k6 := hB0.g6; have k7 := hB0.g7; have k8 := hB0.g8; have k9 := hB0.g9; have k10 := hB0.g10; have k11 := hB0.g11
  clear hA0 hB0 hC0
  go_enter Tryd.func3, Tryd.ntmps3
  go_wp2_with (first
    | (go_at_call 4; (with_reducible refine (H1 _).mono ?_); rintro e w1 ⟨rfl, hF1⟩; obtain ⟨f1, hL1⟩ := HX.out _ hF1; have pa0 := hL1.a.g0; have pa1 := hL1.a.g1; have pa2 := hL1.a.g2; have pa3 := hL1.a.g3; have pa4 := hL1.a.g4; have pa5 := hL1.a.g5; have pa6 := hL1.a.g6; have pa7 := hL1.a.g7; have pa8 := hL1.a.g8; have pa9 := hL1.a.g9; have pa10 := hL1.a.g10; have pa11 := hL1.a.g11; have pc0 := hL1.c.c0; have pc1 := hL1.c.c1; have HL1 : Hid _ := And.intro f1 hL1; clear f1 hL1 hF1 HX H1)
    | (go_at_call 5; (with_reducible refine (H2 _).mono ?_); rintro e w2 ⟨rfl, hF2⟩; clear pa0 pa1 pa2 pa3 pa4 pa5 pa6 pa7 pa8 pa9 pa10 pa11 pc0 pc1 H2; have f2 := HL1.out.1.trans hF2; have hL2 := HL1.out.2.fr hF2; have sb0 := hL2.b.g0; have sb1 := hL2.b.g1; have sb2 := hL2.b.g2; have sb3 := hL2.b.g3; have sb4 := hL2.b.g4; have sb5 := hL2.b.g5; have sb6 := hL2.b.g6; have sb7 := hL2.b.g7; have sb8 := hL2.b.g8; have sb9 := hL2.b.g9; have sb10 := hL2.b.g10; have sb11 := hL2.b.g11; have sc0 := hL2.c.c0; have sc1 := hL2.c.c1; have HL2 : Hid _ := And.intro f2 hL2; clear f2 hL2 hF2)
    | (go_at_call 6; (with_reducible refine (H0 _).mono ?_); rintro e w5 ⟨rfl, hF5⟩; have f5 := HL2.out.1.trans hF5; have hL5 := HL2.out.2.fr hF5; have yx0 := hL5.x.g0; have yx1 := hL5.x.g1; have yx2 := hL5.x.g2; have yx3 := hL5.x.g3; have yx4 := hL5.x.g4; have yx5 := hL5.x.g5; have yx6 := hL5.x.g6; have yx7 := hL5.x.g7; have yx8 := hL5.x.g8; have yx9 := hL5.x.g9; have yx10 := hL5.x.g10; have yx11 := hL5.x.g11; have yc0 := hL5.c.c0; have yc1 := hL5.c.c1; have HL5 : Hid _ := And.intro f5 hL5; clear f5 hL5 hF5))
  go_ret
  exact ⟨rfl, HL5.out.1.below (Nat.le_refl _) (fun _ h => h.elim)⟩
set_option maxRecDepth 100000 in
set_option maxHeartbeats 2000000 in
theorem cm_false_true_n (t u : ByteArray) (fx ar : Bool) (r1 c1 : Int) (x1 y1 : Bool) (r2 c2 : Int) (x2 y2 : Bool) (t2 u2 : ByteArray) (gx br : Bool) (s1 d1 : Int) (z1 v1 : Bool) (s2 d2 : Int) (z2 v2 : Bool) (r c : Int) (w : World) (H1 : ∀ w, Calls Tryd.prog 4 #[(.agg #[.string t, .string u, .bool fx, .bool ar, .int .i64 r1, .int .i64 c1, .bool x1, .bool y1, .int .i64 r2, .int .i64 c2, .bool x2, .bool y2]), (.agg #[.string t2, .string u2, .bool gx, .bool br, .int .i64 s1, .int .i64 d1, .bool z1, .bool v1, .int .i64 s2, .int .i64 d2, .bool z2, .bool v2])] w fun e w' => e = .returned (.tuple #[(.agg #[.string ⟨#[]⟩, .string ⟨#[]⟩, .bool false, .bool false, .int .i64 0, .int .i64 0, .bool false, .bool false, .int .i64 0, .int .i64 0, .bool false, .bool false]), .bool false]) ∧ Fr noB w w') (H2 : ∀ w, Calls Tryd.prog 5 #[(.agg #[.string t, .string u, .bool fx, .bool ar, .int .i64 r1, .int .i64 c1, .bool x1, .bool y1, .int .i64 r2, .int .i64 c2, .bool x2, .bool y2]), .agg #[.int .i64 r, .int .i64 c]] w fun e w' => e = .returned (.bool false) ∧ Fr noB w w') (_H3 : ∀ w, Calls Tryd.prog 5 #[(.agg #[.string t2, .string u2, .bool gx, .bool br, .int .i64 s1, .int .i64 d1, .bool z1, .bool v1, .int .i64 s2, .int .i64 d2, .bool z2, .bool v2]), .agg #[.int .i64 r, .int .i64 c]] w fun e w' => e = .returned (.bool true) ∧ Fr noB w w') :
    Calls Tryd.prog 3 #[(.agg #[.string t, .string u, .bool fx, .bool ar, .int .i64 r1, .int .i64 c1, .bool x1, .bool y1, .int .i64 r2, .int .i64 c2, .bool x2, .bool y2]), (.agg #[.string t2, .string u2, .bool gx, .bool br, .int .i64 s1, .int .i64 d1, .bool z1, .bool v1, .int .i64 s2, .int .i64 d2, .bool z2, .bool v2]), .agg #[.int .i64 r, .int .i64 c]] w fun e w' => e = .returned (.bool true) ∧ Below w.heap.size w w' := by
  have H0 := live_true
  obtain ⟨W0, hW0⟩ : ∃ W0, ((w.alloc (.cells #[.string t, .string u, .bool fx, .bool ar, .int .i64 r1, .int .i64 c1, .bool x1, .bool y1, .int .i64 r2, .int .i64 c2, .bool x2, .bool y2] 25 (0, 0))).alloc (.cells #[.string t2, .string u2, .bool gx, .bool br, .int .i64 s1, .int .i64 d1, .bool z1, .bool v1, .int .i64 s2, .int .i64 d2, .bool z2, .bool v2] 25 (0, 0))).alloc (.cells #[.int .i64 r, .int .i64 c] 27 (0, 0)) = W0 := ⟨_, rfl⟩
  have hA0 : RAt W0 w.heap.size t u fx ar r1 c1 x1 y1 r2 c2 x2 y2 := ⟨by rw [← hW0]; exact alloc_old (alloc_old (alloc_last _ _ _ rfl))⟩
  have hB0 : RAt W0 (w.heap.size + 1) t2 u2 gx br s1 d1 z1 v1 s2 d2 z2 v2 := ⟨by rw [← hW0]; exact alloc_old (alloc_last _ _ _ (by simp))⟩
  have hC0 : CAt W0 (w.heap.size + 1 + 1) r c := ⟨by rw [← hW0]; exact alloc_last _ _ _ (by simp)⟩
  have HF0 : Hid (Fr noB w W0) := by
    show Fr noB w W0
    rw [← hW0]; exact (((Fr.refl noB w).alloc _).alloc _).alloc _
  have HX : Hid (∀ w1 : World, Fr noB W0 w1 → Fr noB w (w1.alloc (.cells #[.string ⟨#[]⟩, .string ⟨#[]⟩, .bool false, .bool false, .int .i64 0, .int .i64 0, .bool false, .bool false, .int .i64 0, .int .i64 0, .bool false, .bool false] 25 (0, 0))) ∧ Four (w1.alloc (.cells #[.string ⟨#[]⟩, .string ⟨#[]⟩, .bool false, .bool false, .int .i64 0, .int .i64 0, .bool false, .bool false, .int .i64 0, .int .i64 0, .bool false, .bool false] 25 (0, 0))) w.heap.size w1.heap.size t u fx ar r1 c1 x1 y1 r2 c2 x2 y2 t2 u2 gx br s1 d1 z1 v1 s2 d2 z2 v2 r c ⟨#[]⟩ ⟨#[]⟩ false false 0 0 false false 0 0 false false) := fun w1 h => by
    have g := h.trans ((Fr.refl noB w1).alloc (.cells #[.string ⟨#[]⟩, .string ⟨#[]⟩, .bool false, .bool false, .int .i64 0, .int .i64 0, .bool false, .bool false, .int .i64 0, .int .i64 0, .bool false, .bool false] 25 (0, 0)))
    exact ⟨HF0.out.trans g, hA0.fr g id, hB0.fr g id, hC0.fr g id, ⟨heap_alloc_new _ _⟩⟩
  have g0 := hA0.g0; have g1 := hA0.g1; have g2 := hA0.g2; have g3 := hA0.g3; have g4 := hA0.g4; have g5 := hA0.g5; have g6 := hA0.g6; have g7 := hA0.g7; have g8 := hA0.g8; have g9 := hA0.g9; have g10 := hA0.g10; have g11 := hA0.g11
  have k0 := hB0.g0; have k1 := hB0.g1; have k2 := hB0.g2; have k3 := hB0.g3; have k4 := hB0.g4; have k5 := hB0.g5; have k6 := hB0.g6; have k7 := hB0.g7; have k8 := hB0.g8; have k9 := hB0.g9; have k10 := hB0.g10; have k11 := hB0.g11
  clear hA0 hB0 hC0
  go_enter Tryd.func3, Tryd.ntmps3
  go_wp2_with (first
    | (go_at_call 4; (with_reducible refine (H1 _).mono ?_); rintro e w1 ⟨rfl, hF1⟩; obtain ⟨f1, hL1⟩ := HX.out _ hF1; have pa0 := hL1.a.g0; have pa1 := hL1.a.g1; have pa2 := hL1.a.g2; have pa3 := hL1.a.g3; have pa4 := hL1.a.g4; have pa5 := hL1.a.g5; have pa6 := hL1.a.g6; have pa7 := hL1.a.g7; have pa8 := hL1.a.g8; have pa9 := hL1.a.g9; have pa10 := hL1.a.g10; have pa11 := hL1.a.g11; have pc0 := hL1.c.c0; have pc1 := hL1.c.c1; have HL1 : Hid _ := And.intro f1 hL1; clear f1 hL1 hF1 HX H1)
    | (go_at_call 5; (with_reducible refine (H2 _).mono ?_); rintro e w2 ⟨rfl, hF2⟩; clear pa0 pa1 pa2 pa3 pa4 pa5 pa6 pa7 pa8 pa9 pa10 pa11 pc0 pc1 H2; have f2 := HL1.out.1.trans hF2; have hL2 := HL1.out.2.fr hF2; have sb0 := hL2.b.g0; have sb1 := hL2.b.g1; have sb2 := hL2.b.g2; have sb3 := hL2.b.g3; have sb4 := hL2.b.g4; have sb5 := hL2.b.g5; have sb6 := hL2.b.g6; have sb7 := hL2.b.g7; have sb8 := hL2.b.g8; have sb9 := hL2.b.g9; have sb10 := hL2.b.g10; have sb11 := hL2.b.g11; have sc0 := hL2.c.c0; have sc1 := hL2.c.c1; have HL2 : Hid _ := And.intro f2 hL2; clear f2 hL2 hF2)
    | (go_at_call 6; (with_reducible refine (H0 _).mono ?_); rintro e w5 ⟨rfl, hF5⟩; have f5 := HL2.out.1.trans hF5; have hL5 := HL2.out.2.fr hF5; have yx0 := hL5.x.g0; have yx1 := hL5.x.g1; have yx2 := hL5.x.g2; have yx3 := hL5.x.g3; have yx4 := hL5.x.g4; have yx5 := hL5.x.g5; have yx6 := hL5.x.g6; have yx7 := hL5.x.g7; have yx8 := hL5.x.g8; have yx9 := hL5.x.g9; have yx10 := hL5.x.g10; have yx11 := hL5.x.g11; have yc0 := hL5.c.c0; have yc1 := hL5.c.c1; have HL5 : Hid _ := And.intro f5 hL5; clear f5 hL5 hF5))
  go_ret
  exact ⟨rfl, HL5.out.1.below (Nat.le_refl _) (fun _ h => h.elim)⟩
set_option maxRecDepth 100000 in
set_option maxHeartbeats 2000000 in
theorem cm_true_false_n (t u : ByteArray) (fx ar : Bool) (r1 c1 : Int) (x1 y1 : Bool) (r2 c2 : Int) (x2 y2 : Bool) (t2 u2 : ByteArray) (gx br : Bool) (s1 d1 : Int) (z1 v1 : Bool) (s2 d2 : Int) (z2 v2 : Bool) (r c : Int) (w : World) (H1 : ∀ w, Calls Tryd.prog 4 #[(.agg #[.string t, .string u, .bool fx, .bool ar, .int .i64 r1, .int .i64 c1, .bool x1, .bool y1, .int .i64 r2, .int .i64 c2, .bool x2, .bool y2]), (.agg #[.string t2, .string u2, .bool gx, .bool br, .int .i64 s1, .int .i64 d1, .bool z1, .bool v1, .int .i64 s2, .int .i64 d2, .bool z2, .bool v2])] w fun e w' => e = .returned (.tuple #[(.agg #[.string ⟨#[]⟩, .string ⟨#[]⟩, .bool false, .bool false, .int .i64 0, .int .i64 0, .bool false, .bool false, .int .i64 0, .int .i64 0, .bool false, .bool false]), .bool false]) ∧ Fr noB w w') (H2 : ∀ w, Calls Tryd.prog 5 #[(.agg #[.string t, .string u, .bool fx, .bool ar, .int .i64 r1, .int .i64 c1, .bool x1, .bool y1, .int .i64 r2, .int .i64 c2, .bool x2, .bool y2]), .agg #[.int .i64 r, .int .i64 c]] w fun e w' => e = .returned (.bool true) ∧ Fr noB w w') (H3 : ∀ w, Calls Tryd.prog 5 #[(.agg #[.string t2, .string u2, .bool gx, .bool br, .int .i64 s1, .int .i64 d1, .bool z1, .bool v1, .int .i64 s2, .int .i64 d2, .bool z2, .bool v2]), .agg #[.int .i64 r, .int .i64 c]] w fun e w' => e = .returned (.bool false) ∧ Fr noB w w') :
    Calls Tryd.prog 3 #[(.agg #[.string t, .string u, .bool fx, .bool ar, .int .i64 r1, .int .i64 c1, .bool x1, .bool y1, .int .i64 r2, .int .i64 c2, .bool x2, .bool y2]), (.agg #[.string t2, .string u2, .bool gx, .bool br, .int .i64 s1, .int .i64 d1, .bool z1, .bool v1, .int .i64 s2, .int .i64 d2, .bool z2, .bool v2]), .agg #[.int .i64 r, .int .i64 c]] w fun e w' => e = .returned (.bool true) ∧ Below w.heap.size w w' := by
  have H0 := live_true
  obtain ⟨W0, hW0⟩ : ∃ W0, ((w.alloc (.cells #[.string t, .string u, .bool fx, .bool ar, .int .i64 r1, .int .i64 c1, .bool x1, .bool y1, .int .i64 r2, .int .i64 c2, .bool x2, .bool y2] 25 (0, 0))).alloc (.cells #[.string t2, .string u2, .bool gx, .bool br, .int .i64 s1, .int .i64 d1, .bool z1, .bool v1, .int .i64 s2, .int .i64 d2, .bool z2, .bool v2] 25 (0, 0))).alloc (.cells #[.int .i64 r, .int .i64 c] 27 (0, 0)) = W0 := ⟨_, rfl⟩
  have hA0 : RAt W0 w.heap.size t u fx ar r1 c1 x1 y1 r2 c2 x2 y2 := ⟨by rw [← hW0]; exact alloc_old (alloc_old (alloc_last _ _ _ rfl))⟩
  have hB0 : RAt W0 (w.heap.size + 1) t2 u2 gx br s1 d1 z1 v1 s2 d2 z2 v2 := ⟨by rw [← hW0]; exact alloc_old (alloc_last _ _ _ (by simp))⟩
  have hC0 : CAt W0 (w.heap.size + 1 + 1) r c := ⟨by rw [← hW0]; exact alloc_last _ _ _ (by simp)⟩
  have HF0 : Hid (Fr noB w W0) := by
    show Fr noB w W0
    rw [← hW0]; exact (((Fr.refl noB w).alloc _).alloc _).alloc _
  have HX : Hid (∀ w1 : World, Fr noB W0 w1 → Fr noB w (w1.alloc (.cells #[.string ⟨#[]⟩, .string ⟨#[]⟩, .bool false, .bool false, .int .i64 0, .int .i64 0, .bool false, .bool false, .int .i64 0, .int .i64 0, .bool false, .bool false] 25 (0, 0))) ∧ Four (w1.alloc (.cells #[.string ⟨#[]⟩, .string ⟨#[]⟩, .bool false, .bool false, .int .i64 0, .int .i64 0, .bool false, .bool false, .int .i64 0, .int .i64 0, .bool false, .bool false] 25 (0, 0))) w.heap.size w1.heap.size t u fx ar r1 c1 x1 y1 r2 c2 x2 y2 t2 u2 gx br s1 d1 z1 v1 s2 d2 z2 v2 r c ⟨#[]⟩ ⟨#[]⟩ false false 0 0 false false 0 0 false false) := fun w1 h => by
    have g := h.trans ((Fr.refl noB w1).alloc (.cells #[.string ⟨#[]⟩, .string ⟨#[]⟩, .bool false, .bool false, .int .i64 0, .int .i64 0, .bool false, .bool false, .int .i64 0, .int .i64 0, .bool false, .bool false] 25 (0, 0)))
    exact ⟨HF0.out.trans g, hA0.fr g id, hB0.fr g id, hC0.fr g id, ⟨heap_alloc_new _ _⟩⟩
  have g0 := hA0.g0; have g1 := hA0.g1; have g2 := hA0.g2; have g3 := hA0.g3; have g4 := hA0.g4; have g5 := hA0.g5; have g6 := hA0.g6; have g7 := hA0.g7; have g8 := hA0.g8; have g9 := hA0.g9; have g10 := hA0.g10; have g11 := hA0.g11
  have k0 := hB0.g0; have k1 := hB0.g1; have k2 := hB0.g2; have k3 := hB0.g3; have k4 := hB0.g4; have k5 := hB0.g5; have k6 := hB0.g6; have k7 := hB0.g7; have k8 := hB0.g8; have k9 := hB0.g9; have k10 := hB0.g10; have k11 := hB0.g11
  clear hA0 hB0 hC0
  go_enter Tryd.func3, Tryd.ntmps3
  go_wp2_with (first
    | (go_at_call 4; (with_reducible refine (H1 _).mono ?_); rintro e w1 ⟨rfl, hF1⟩; obtain ⟨f1, hL1⟩ := HX.out _ hF1; have pa0 := hL1.a.g0; have pa1 := hL1.a.g1; have pa2 := hL1.a.g2; have pa3 := hL1.a.g3; have pa4 := hL1.a.g4; have pa5 := hL1.a.g5; have pa6 := hL1.a.g6; have pa7 := hL1.a.g7; have pa8 := hL1.a.g8; have pa9 := hL1.a.g9; have pa10 := hL1.a.g10; have pa11 := hL1.a.g11; have pc0 := hL1.c.c0; have pc1 := hL1.c.c1; have HL1 : Hid _ := And.intro f1 hL1; clear f1 hL1 hF1 HX H1)
    | (go_at_call 5; (with_reducible refine (H2 _).mono ?_); rintro e w2 ⟨rfl, hF2⟩; clear pa0 pa1 pa2 pa3 pa4 pa5 pa6 pa7 pa8 pa9 pa10 pa11 pc0 pc1 H2; have f2 := HL1.out.1.trans hF2; have hL2 := HL1.out.2.fr hF2; have sb0 := hL2.b.g0; have sb1 := hL2.b.g1; have sb2 := hL2.b.g2; have sb3 := hL2.b.g3; have sb4 := hL2.b.g4; have sb5 := hL2.b.g5; have sb6 := hL2.b.g6; have sb7 := hL2.b.g7; have sb8 := hL2.b.g8; have sb9 := hL2.b.g9; have sb10 := hL2.b.g10; have sb11 := hL2.b.g11; have sc0 := hL2.c.c0; have sc1 := hL2.c.c1; have HL2 : Hid _ := And.intro f2 hL2; clear f2 hL2 hF2)
    | (go_at_call 5; (with_reducible refine (H3 _).mono ?_); rintro e w3 ⟨rfl, hF3⟩; clear sb0 sb1 sb2 sb3 sb4 sb5 sb6 sb7 sb8 sb9 sb10 sb11 sc0 sc1 H3; have f3 := HL2.out.1.trans hF3; have hL3 := HL2.out.2.fr hF3; have HL3 : Hid _ := And.intro f3 hL3; clear f3 hL3 hF3)
    | (go_at_call 6; (with_reducible refine (H0 _).mono ?_); rintro e w5 ⟨rfl, hF5⟩; have f5 := HL3.out.1.trans hF5; have hL5 := HL3.out.2.fr hF5; have yx0 := hL5.x.g0; have yx1 := hL5.x.g1; have yx2 := hL5.x.g2; have yx3 := hL5.x.g3; have yx4 := hL5.x.g4; have yx5 := hL5.x.g5; have yx6 := hL5.x.g6; have yx7 := hL5.x.g7; have yx8 := hL5.x.g8; have yx9 := hL5.x.g9; have yx10 := hL5.x.g10; have yx11 := hL5.x.g11; have yc0 := hL5.c.c0; have yc1 := hL5.c.c1; have HL5 : Hid _ := And.intro f5 hL5; clear f5 hL5 hF5))
  go_ret
  exact ⟨rfl, HL5.out.1.below (Nat.le_refl _) (fun _ h => h.elim)⟩
set_option maxRecDepth 100000 in
set_option maxHeartbeats 2000000 in
theorem cm_false_false_s (t u : ByteArray) (fx ar : Bool) (r1 c1 : Int) (x1 y1 : Bool) (r2 c2 : Int) (x2 y2 : Bool) (t2 u2 : ByteArray) (gx br : Bool) (s1 d1 : Int) (z1 v1 : Bool) (s2 d2 : Int) (z2 v2 : Bool) (r c : Int) (w : World) (A : Bool) (p q p2 q2 : Int) (H1 : ∀ w, Calls Tryd.prog 4 #[(.agg #[.string t, .string u, .bool fx, .bool ar, .int .i64 r1, .int .i64 c1, .bool x1, .bool y1, .int .i64 r2, .int .i64 c2, .bool x2, .bool y2]), (.agg #[.string t2, .string u2, .bool gx, .bool br, .int .i64 s1, .int .i64 d1, .bool z1, .bool v1, .int .i64 s2, .int .i64 d2, .bool z2, .bool v2])] w fun e w' => e = .returned (.tuple #[(.agg #[.string t, .string u, .bool fx, .bool A, .int .i64 p, .int .i64 q, .bool false, .bool false, .int .i64 p2, .int .i64 q2, .bool false, .bool false]), .bool true]) ∧ Fr noB w w') (H2 : ∀ w, Calls Tryd.prog 5 #[(.agg #[.string t, .string u, .bool fx, .bool ar, .int .i64 r1, .int .i64 c1, .bool x1, .bool y1, .int .i64 r2, .int .i64 c2, .bool x2, .bool y2]), .agg #[.int .i64 r, .int .i64 c]] w fun e w' => e = .returned (.bool false) ∧ Fr noB w w') (_H3 : ∀ w, Calls Tryd.prog 5 #[(.agg #[.string t2, .string u2, .bool gx, .bool br, .int .i64 s1, .int .i64 d1, .bool z1, .bool v1, .int .i64 s2, .int .i64 d2, .bool z2, .bool v2]), .agg #[.int .i64 r, .int .i64 c]] w fun e w' => e = .returned (.bool false) ∧ Fr noB w w') (H4 : ∀ w, Calls Tryd.prog 5 #[(.agg #[.string t, .string u, .bool fx, .bool A, .int .i64 p, .int .i64 q, .bool false, .bool false, .int .i64 p2, .int .i64 q2, .bool false, .bool false]), .agg #[.int .i64 r, .int .i64 c]] w fun e w' => e = .returned (.bool false) ∧ Fr noB w w') :
    Calls Tryd.prog 3 #[(.agg #[.string t, .string u, .bool fx, .bool ar, .int .i64 r1, .int .i64 c1, .bool x1, .bool y1, .int .i64 r2, .int .i64 c2, .bool x2, .bool y2]), (.agg #[.string t2, .string u2, .bool gx, .bool br, .int .i64 s1, .int .i64 d1, .bool z1, .bool v1, .int .i64 s2, .int .i64 d2, .bool z2, .bool v2]), .agg #[.int .i64 r, .int .i64 c]] w fun e w' => e = .returned (.bool true) ∧ Below w.heap.size w w' := by
  have H0 := live_true
  obtain ⟨W0, hW0⟩ : ∃ W0, ((w.alloc (.cells #[.string t, .string u, .bool fx, .bool ar, .int .i64 r1, .int .i64 c1, .bool x1, .bool y1, .int .i64 r2, .int .i64 c2, .bool x2, .bool y2] 25 (0, 0))).alloc (.cells #[.string t2, .string u2, .bool gx, .bool br, .int .i64 s1, .int .i64 d1, .bool z1, .bool v1, .int .i64 s2, .int .i64 d2, .bool z2, .bool v2] 25 (0, 0))).alloc (.cells #[.int .i64 r, .int .i64 c] 27 (0, 0)) = W0 := ⟨_, rfl⟩
  have hA0 : RAt W0 w.heap.size t u fx ar r1 c1 x1 y1 r2 c2 x2 y2 := ⟨by rw [← hW0]; exact alloc_old (alloc_old (alloc_last _ _ _ rfl))⟩
  have hB0 : RAt W0 (w.heap.size + 1) t2 u2 gx br s1 d1 z1 v1 s2 d2 z2 v2 := ⟨by rw [← hW0]; exact alloc_old (alloc_last _ _ _ (by simp))⟩
  have hC0 : CAt W0 (w.heap.size + 1 + 1) r c := ⟨by rw [← hW0]; exact alloc_last _ _ _ (by simp)⟩
  have HF0 : Hid (Fr noB w W0) := by
    show Fr noB w W0
    rw [← hW0]; exact (((Fr.refl noB w).alloc _).alloc _).alloc _
  have HX : Hid (∀ w1 : World, Fr noB W0 w1 → Fr noB w (w1.alloc (.cells #[.string t, .string u, .bool fx, .bool A, .int .i64 p, .int .i64 q, .bool false, .bool false, .int .i64 p2, .int .i64 q2, .bool false, .bool false] 25 (0, 0))) ∧ Four (w1.alloc (.cells #[.string t, .string u, .bool fx, .bool A, .int .i64 p, .int .i64 q, .bool false, .bool false, .int .i64 p2, .int .i64 q2, .bool false, .bool false] 25 (0, 0))) w.heap.size w1.heap.size t u fx ar r1 c1 x1 y1 r2 c2 x2 y2 t2 u2 gx br s1 d1 z1 v1 s2 d2 z2 v2 r c t u fx A p q false false p2 q2 false false) := fun w1 h => by
    have g := h.trans ((Fr.refl noB w1).alloc (.cells #[.string t, .string u, .bool fx, .bool A, .int .i64 p, .int .i64 q, .bool false, .bool false, .int .i64 p2, .int .i64 q2, .bool false, .bool false] 25 (0, 0)))
    exact ⟨HF0.out.trans g, hA0.fr g id, hB0.fr g id, hC0.fr g id, ⟨heap_alloc_new _ _⟩⟩
  have g0 := hA0.g0; have g1 := hA0.g1; have g2 := hA0.g2; have g3 := hA0.g3; have g4 := hA0.g4; have g5 := hA0.g5; have g6 := hA0.g6; have g7 := hA0.g7; have g8 := hA0.g8; have g9 := hA0.g9; have g10 := hA0.g10; have g11 := hA0.g11
  have k0 := hB0.g0; have k1 := hB0.g1; have k2 := hB0.g2; have k3 := hB0.g3; have k4 := hB0.g4; have k5 := hB0.g5; have k6 := hB0.g6; have k7 := hB0.g7; have k8 := hB0.g8; have k9 := hB0.g9; have k10 := hB0.g10; have k11 := hB0.g11
  clear hA0 hB0 hC0
  go_enter Tryd.func3, Tryd.ntmps3
  go_wp2_with (first
    | (go_at_call 4; (with_reducible refine (H1 _).mono ?_); rintro e w1 ⟨rfl, hF1⟩; obtain ⟨f1, hL1⟩ := HX.out _ hF1; have pa0 := hL1.a.g0; have pa1 := hL1.a.g1; have pa2 := hL1.a.g2; have pa3 := hL1.a.g3; have pa4 := hL1.a.g4; have pa5 := hL1.a.g5; have pa6 := hL1.a.g6; have pa7 := hL1.a.g7; have pa8 := hL1.a.g8; have pa9 := hL1.a.g9; have pa10 := hL1.a.g10; have pa11 := hL1.a.g11; have pc0 := hL1.c.c0; have pc1 := hL1.c.c1; have HL1 : Hid _ := And.intro f1 hL1; clear f1 hL1 hF1 HX H1)
    | (go_at_call 5; (with_reducible refine (H2 _).mono ?_); rintro e w2 ⟨rfl, hF2⟩; clear pa0 pa1 pa2 pa3 pa4 pa5 pa6 pa7 pa8 pa9 pa10 pa11 pc0 pc1 H2; have f2 := HL1.out.1.trans hF2; have hL2 := HL1.out.2.fr hF2; have sb0 := hL2.b.g0; have sb1 := hL2.b.g1; have sb2 := hL2.b.g2; have sb3 := hL2.b.g3; have sb4 := hL2.b.g4; have sb5 := hL2.b.g5; have sb6 := hL2.b.g6; have sb7 := hL2.b.g7; have sb8 := hL2.b.g8; have sb9 := hL2.b.g9; have sb10 := hL2.b.g10; have sb11 := hL2.b.g11; have sc0 := hL2.c.c0; have sc1 := hL2.c.c1; have HL2 : Hid _ := And.intro f2 hL2; clear f2 hL2 hF2)
    | (go_at_call 6; (with_reducible refine (H0 _).mono ?_); rintro e w5 ⟨rfl, hF5⟩; have f5 := HL2.out.1.trans hF5; have hL5 := HL2.out.2.fr hF5; have yx0 := hL5.x.g0; have yx1 := hL5.x.g1; have yx2 := hL5.x.g2; have yx3 := hL5.x.g3; have yx4 := hL5.x.g4; have yx5 := hL5.x.g5; have yx6 := hL5.x.g6; have yx7 := hL5.x.g7; have yx8 := hL5.x.g8; have yx9 := hL5.x.g9; have yx10 := hL5.x.g10; have yx11 := hL5.x.g11; have yc0 := hL5.c.c0; have yc1 := hL5.c.c1; have HL5 : Hid _ := And.intro f5 hL5; clear f5 hL5 hF5)
    | (go_at_call 5; (with_reducible refine (H4 _).mono ?_); rintro e w6 ⟨rfl, hF6⟩))
  go_ret
  exact ⟨rfl, (HL5.out.1.trans hF6).below (Nat.le_refl _) (fun _ h => h.elim)⟩
set_option maxRecDepth 100000 in
set_option maxHeartbeats 2000000 in
theorem cm_false_true_s (t u : ByteArray) (fx ar : Bool) (r1 c1 : Int) (x1 y1 : Bool) (r2 c2 : Int) (x2 y2 : Bool) (t2 u2 : ByteArray) (gx br : Bool) (s1 d1 : Int) (z1 v1 : Bool) (s2 d2 : Int) (z2 v2 : Bool) (r c : Int) (w : World) (A : Bool) (p q p2 q2 : Int) (H1 : ∀ w, Calls Tryd.prog 4 #[(.agg #[.string t, .string u, .bool fx, .bool ar, .int .i64 r1, .int .i64 c1, .bool x1, .bool y1, .int .i64 r2, .int .i64 c2, .bool x2, .bool y2]), (.agg #[.string t2, .string u2, .bool gx, .bool br, .int .i64 s1, .int .i64 d1, .bool z1, .bool v1, .int .i64 s2, .int .i64 d2, .bool z2, .bool v2])] w fun e w' => e = .returned (.tuple #[(.agg #[.string t, .string u, .bool fx, .bool A, .int .i64 p, .int .i64 q, .bool false, .bool false, .int .i64 p2, .int .i64 q2, .bool false, .bool false]), .bool true]) ∧ Fr noB w w') (H2 : ∀ w, Calls Tryd.prog 5 #[(.agg #[.string t, .string u, .bool fx, .bool ar, .int .i64 r1, .int .i64 c1, .bool x1, .bool y1, .int .i64 r2, .int .i64 c2, .bool x2, .bool y2]), .agg #[.int .i64 r, .int .i64 c]] w fun e w' => e = .returned (.bool false) ∧ Fr noB w w') (_H3 : ∀ w, Calls Tryd.prog 5 #[(.agg #[.string t2, .string u2, .bool gx, .bool br, .int .i64 s1, .int .i64 d1, .bool z1, .bool v1, .int .i64 s2, .int .i64 d2, .bool z2, .bool v2]), .agg #[.int .i64 r, .int .i64 c]] w fun e w' => e = .returned (.bool true) ∧ Fr noB w w') (H4 : ∀ w, Calls Tryd.prog 5 #[(.agg #[.string t, .string u, .bool fx, .bool A, .int .i64 p, .int .i64 q, .bool false, .bool false, .int .i64 p2, .int .i64 q2, .bool false, .bool false]), .agg #[.int .i64 r, .int .i64 c]] w fun e w' => e = .returned (.bool false) ∧ Fr noB w w') :
    Calls Tryd.prog 3 #[(.agg #[.string t, .string u, .bool fx, .bool ar, .int .i64 r1, .int .i64 c1, .bool x1, .bool y1, .int .i64 r2, .int .i64 c2, .bool x2, .bool y2]), (.agg #[.string t2, .string u2, .bool gx, .bool br, .int .i64 s1, .int .i64 d1, .bool z1, .bool v1, .int .i64 s2, .int .i64 d2, .bool z2, .bool v2]), .agg #[.int .i64 r, .int .i64 c]] w fun e w' => e = .returned (.bool true) ∧ Below w.heap.size w w' := by
  have H0 := live_true
  obtain ⟨W0, hW0⟩ : ∃ W0, ((w.alloc (.cells #[.string t, .string u, .bool fx, .bool ar, .int .i64 r1, .int .i64 c1, .bool x1, .bool y1, .int .i64 r2, .int .i64 c2, .bool x2, .bool y2] 25 (0, 0))).alloc (.cells #[.string t2, .string u2, .bool gx, .bool br, .int .i64 s1, .int .i64 d1, .bool z1, .bool v1, .int .i64 s2, .int .i64 d2, .bool z2, .bool v2] 25 (0, 0))).alloc (.cells #[.int .i64 r, .int .i64 c] 27 (0, 0)) = W0 := ⟨_, rfl⟩
  have hA0 : RAt W0 w.heap.size t u fx ar r1 c1 x1 y1 r2 c2 x2 y2 := ⟨by rw [← hW0]; exact alloc_old (alloc_old (alloc_last _ _ _ rfl))⟩
  have hB0 : RAt W0 (w.heap.size + 1) t2 u2 gx br s1 d1 z1 v1 s2 d2 z2 v2 := ⟨by rw [← hW0]; exact alloc_old (alloc_last _ _ _ (by simp))⟩
  have hC0 : CAt W0 (w.heap.size + 1 + 1) r c := ⟨by rw [← hW0]; exact alloc_last _ _ _ (by simp)⟩
  have HF0 : Hid (Fr noB w W0) := by
    show Fr noB w W0
    rw [← hW0]; exact (((Fr.refl noB w).alloc _).alloc _).alloc _
  have HX : Hid (∀ w1 : World, Fr noB W0 w1 → Fr noB w (w1.alloc (.cells #[.string t, .string u, .bool fx, .bool A, .int .i64 p, .int .i64 q, .bool false, .bool false, .int .i64 p2, .int .i64 q2, .bool false, .bool false] 25 (0, 0))) ∧ Four (w1.alloc (.cells #[.string t, .string u, .bool fx, .bool A, .int .i64 p, .int .i64 q, .bool false, .bool false, .int .i64 p2, .int .i64 q2, .bool false, .bool false] 25 (0, 0))) w.heap.size w1.heap.size t u fx ar r1 c1 x1 y1 r2 c2 x2 y2 t2 u2 gx br s1 d1 z1 v1 s2 d2 z2 v2 r c t u fx A p q false false p2 q2 false false) := fun w1 h => by
    have g := h.trans ((Fr.refl noB w1).alloc (.cells #[.string t, .string u, .bool fx, .bool A, .int .i64 p, .int .i64 q, .bool false, .bool false, .int .i64 p2, .int .i64 q2, .bool false, .bool false] 25 (0, 0)))
    exact ⟨HF0.out.trans g, hA0.fr g id, hB0.fr g id, hC0.fr g id, ⟨heap_alloc_new _ _⟩⟩
  have g0 := hA0.g0; have g1 := hA0.g1; have g2 := hA0.g2; have g3 := hA0.g3; have g4 := hA0.g4; have g5 := hA0.g5; have g6 := hA0.g6; have g7 := hA0.g7; have g8 := hA0.g8; have g9 := hA0.g9; have g10 := hA0.g10; have g11 := hA0.g11
  have k0 := hB0.g0; have k1 := hB0.g1; have k2 := hB0.g2; have k3 := hB0.g3; have k4 := hB0.g4; have k5 := hB0.g5; have k6 := hB0.g6; have k7 := hB0.g7; have k8 := hB0.g8; have k9 := hB0.g9; have k10 := hB0.g10; have k11 := hB0.g11
  clear hA0 hB0 hC0
  go_enter Tryd.func3, Tryd.ntmps3
  go_wp2_with (first
    | (go_at_call 4; (with_reducible refine (H1 _).mono ?_); rintro e w1 ⟨rfl, hF1⟩; obtain ⟨f1, hL1⟩ := HX.out _ hF1; have pa0 := hL1.a.g0; have pa1 := hL1.a.g1; have pa2 := hL1.a.g2; have pa3 := hL1.a.g3; have pa4 := hL1.a.g4; have pa5 := hL1.a.g5; have pa6 := hL1.a.g6; have pa7 := hL1.a.g7; have pa8 := hL1.a.g8; have pa9 := hL1.a.g9; have pa10 := hL1.a.g10; have pa11 := hL1.a.g11; have pc0 := hL1.c.c0; have pc1 := hL1.c.c1; have HL1 : Hid _ := And.intro f1 hL1; clear f1 hL1 hF1 HX H1)
    | (go_at_call 5; (with_reducible refine (H2 _).mono ?_); rintro e w2 ⟨rfl, hF2⟩; clear pa0 pa1 pa2 pa3 pa4 pa5 pa6 pa7 pa8 pa9 pa10 pa11 pc0 pc1 H2; have f2 := HL1.out.1.trans hF2; have hL2 := HL1.out.2.fr hF2; have sb0 := hL2.b.g0; have sb1 := hL2.b.g1; have sb2 := hL2.b.g2; have sb3 := hL2.b.g3; have sb4 := hL2.b.g4; have sb5 := hL2.b.g5; have sb6 := hL2.b.g6; have sb7 := hL2.b.g7; have sb8 := hL2.b.g8; have sb9 := hL2.b.g9; have sb10 := hL2.b.g10; have sb11 := hL2.b.g11; have sc0 := hL2.c.c0; have sc1 := hL2.c.c1; have HL2 : Hid _ := And.intro f2 hL2; clear f2 hL2 hF2)
    | (go_at_call 6; (with_reducible refine (H0 _).mono ?_); rintro e w5 ⟨rfl, hF5⟩; have f5 := HL2.out.1.trans hF5; have hL5 := HL2.out.2.fr hF5; have yx0 := hL5.x.g0; have yx1 := hL5.x.g1; have yx2 := hL5.x.g2; have yx3 := hL5.x.g3; have yx4 := hL5.x.g4; have yx5 := hL5.x.g5; have yx6 := hL5.x.g6; have yx7 := hL5.x.g7; have yx8 := hL5.x.g8; have yx9 := hL5.x.g9; have yx10 := hL5.x.g10; have yx11 := hL5.x.g11; have yc0 := hL5.c.c0; have yc1 := hL5.c.c1; have HL5 : Hid _ := And.intro f5 hL5; clear f5 hL5 hF5)
    | (go_at_call 5; (with_reducible refine (H4 _).mono ?_); rintro e w6 ⟨rfl, hF6⟩))
  go_ret
  exact ⟨rfl, (HL5.out.1.trans hF6).below (Nat.le_refl _) (fun _ h => h.elim)⟩
set_option maxRecDepth 100000 in
set_option maxHeartbeats 2000000 in
theorem cm_true_false_s (t u : ByteArray) (fx ar : Bool) (r1 c1 : Int) (x1 y1 : Bool) (r2 c2 : Int) (x2 y2 : Bool) (t2 u2 : ByteArray) (gx br : Bool) (s1 d1 : Int) (z1 v1 : Bool) (s2 d2 : Int) (z2 v2 : Bool) (r c : Int) (w : World) (A : Bool) (p q p2 q2 : Int) (H1 : ∀ w, Calls Tryd.prog 4 #[(.agg #[.string t, .string u, .bool fx, .bool ar, .int .i64 r1, .int .i64 c1, .bool x1, .bool y1, .int .i64 r2, .int .i64 c2, .bool x2, .bool y2]), (.agg #[.string t2, .string u2, .bool gx, .bool br, .int .i64 s1, .int .i64 d1, .bool z1, .bool v1, .int .i64 s2, .int .i64 d2, .bool z2, .bool v2])] w fun e w' => e = .returned (.tuple #[(.agg #[.string t, .string u, .bool fx, .bool A, .int .i64 p, .int .i64 q, .bool false, .bool false, .int .i64 p2, .int .i64 q2, .bool false, .bool false]), .bool true]) ∧ Fr noB w w') (H2 : ∀ w, Calls Tryd.prog 5 #[(.agg #[.string t, .string u, .bool fx, .bool ar, .int .i64 r1, .int .i64 c1, .bool x1, .bool y1, .int .i64 r2, .int .i64 c2, .bool x2, .bool y2]), .agg #[.int .i64 r, .int .i64 c]] w fun e w' => e = .returned (.bool true) ∧ Fr noB w w') (H3 : ∀ w, Calls Tryd.prog 5 #[(.agg #[.string t2, .string u2, .bool gx, .bool br, .int .i64 s1, .int .i64 d1, .bool z1, .bool v1, .int .i64 s2, .int .i64 d2, .bool z2, .bool v2]), .agg #[.int .i64 r, .int .i64 c]] w fun e w' => e = .returned (.bool false) ∧ Fr noB w w') (H4 : ∀ w, Calls Tryd.prog 5 #[(.agg #[.string t, .string u, .bool fx, .bool A, .int .i64 p, .int .i64 q, .bool false, .bool false, .int .i64 p2, .int .i64 q2, .bool false, .bool false]), .agg #[.int .i64 r, .int .i64 c]] w fun e w' => e = .returned (.bool false) ∧ Fr noB w w') :
    Calls Tryd.prog 3 #[(.agg #[.string t, .string u, .bool fx, .bool ar, .int .i64 r1, .int .i64 c1, .bool x1, .bool y1, .int .i64 r2, .int .i64 c2, .bool x2, .bool y2]), (.agg #[.string t2, .string u2, .bool gx, .bool br, .int .i64 s1, .int .i64 d1, .bool z1, .bool v1, .int .i64 s2, .int .i64 d2, .bool z2, .bool v2]), .agg #[.int .i64 r, .int .i64 c]] w fun e w' => e = .returned (.bool true) ∧ Below w.heap.size w w' := by
  have H0 := live_true
  obtain ⟨W0, hW0⟩ : ∃ W0, ((w.alloc (.cells #[.string t, .string u, .bool fx, .bool ar, .int .i64 r1, .int .i64 c1, .bool x1, .bool y1, .int .i64 r2, .int .i64 c2, .bool x2, .bool y2] 25 (0, 0))).alloc (.cells #[.string t2, .string u2, .bool gx, .bool br, .int .i64 s1, .int .i64 d1, .bool z1, .bool v1, .int .i64 s2, .int .i64 d2, .bool z2, .bool v2] 25 (0, 0))).alloc (.cells #[.int .i64 r, .int .i64 c] 27 (0, 0)) = W0 := ⟨_, rfl⟩
  have hA0 : RAt W0 w.heap.size t u fx ar r1 c1 x1 y1 r2 c2 x2 y2 := ⟨by rw [← hW0]; exact alloc_old (alloc_old (alloc_last _ _ _ rfl))⟩
  have hB0 : RAt W0 (w.heap.size + 1) t2 u2 gx br s1 d1 z1 v1 s2 d2 z2 v2 := ⟨by rw [← hW0]; exact alloc_old (alloc_last _ _ _ (by simp))⟩
  have hC0 : CAt W0 (w.heap.size + 1 + 1) r c := ⟨by rw [← hW0]; exact alloc_last _ _ _ (by simp)⟩
  have HF0 : Hid (Fr noB w W0) := by
    show Fr noB w W0
    rw [← hW0]; exact (((Fr.refl noB w).alloc _).alloc _).alloc _
  have HX : Hid (∀ w1 : World, Fr noB W0 w1 → Fr noB w (w1.alloc (.cells #[.string t, .string u, .bool fx, .bool A, .int .i64 p, .int .i64 q, .bool false, .bool false, .int .i64 p2, .int .i64 q2, .bool false, .bool false] 25 (0, 0))) ∧ Four (w1.alloc (.cells #[.string t, .string u, .bool fx, .bool A, .int .i64 p, .int .i64 q, .bool false, .bool false, .int .i64 p2, .int .i64 q2, .bool false, .bool false] 25 (0, 0))) w.heap.size w1.heap.size t u fx ar r1 c1 x1 y1 r2 c2 x2 y2 t2 u2 gx br s1 d1 z1 v1 s2 d2 z2 v2 r c t u fx A p q false false p2 q2 false false) := fun w1 h => by
    have g := h.trans ((Fr.refl noB w1).alloc (.cells #[.string t, .string u, .bool fx, .bool A, .int .i64 p, .int .i64 q, .bool false, .bool false, .int .i64 p2, .int .i64 q2, .bool false, .bool false] 25 (0, 0)))
    exact ⟨HF0.out.trans g, hA0.fr g id, hB0.fr g id, hC0.fr g id, ⟨heap_alloc_new _ _⟩⟩
  have g0 := hA0.g0; have g1 := hA0.g1; have g2 := hA0.g2; have g3 := hA0.g3; have g4 := hA0.g4; have g5 := hA0.g5; have g6 := hA0.g6; have g7 := hA0.g7; have g8 := hA0.g8; have g9 := hA0.g9; have g10 := hA0.g10; have g11 := hA0.g11
  have k0 := hB0.g0; have k1 := hB0.g1; have k2 := hB0.g2; have k3 := hB0.g3; have k4 := hB0.g4; have k5 := hB0.g5; have k6 := hB0.g6; have k7 := hB0.g7; have k8 := hB0.g8; have k9 := hB0.g9; have k10 := hB0.g10; have k11 := hB0.g11
  clear hA0 hB0 hC0
  go_enter Tryd.func3, Tryd.ntmps3
  go_wp2_with (first
    | (go_at_call 4; (with_reducible refine (H1 _).mono ?_); rintro e w1 ⟨rfl, hF1⟩; obtain ⟨f1, hL1⟩ := HX.out _ hF1; have pa0 := hL1.a.g0; have pa1 := hL1.a.g1; have pa2 := hL1.a.g2; have pa3 := hL1.a.g3; have pa4 := hL1.a.g4; have pa5 := hL1.a.g5; have pa6 := hL1.a.g6; have pa7 := hL1.a.g7; have pa8 := hL1.a.g8; have pa9 := hL1.a.g9; have pa10 := hL1.a.g10; have pa11 := hL1.a.g11; have pc0 := hL1.c.c0; have pc1 := hL1.c.c1; have HL1 : Hid _ := And.intro f1 hL1; clear f1 hL1 hF1 HX H1)
    | (go_at_call 5; (with_reducible refine (H2 _).mono ?_); rintro e w2 ⟨rfl, hF2⟩; clear pa0 pa1 pa2 pa3 pa4 pa5 pa6 pa7 pa8 pa9 pa10 pa11 pc0 pc1 H2; have f2 := HL1.out.1.trans hF2; have hL2 := HL1.out.2.fr hF2; have sb0 := hL2.b.g0; have sb1 := hL2.b.g1; have sb2 := hL2.b.g2; have sb3 := hL2.b.g3; have sb4 := hL2.b.g4; have sb5 := hL2.b.g5; have sb6 := hL2.b.g6; have sb7 := hL2.b.g7; have sb8 := hL2.b.g8; have sb9 := hL2.b.g9; have sb10 := hL2.b.g10; have sb11 := hL2.b.g11; have sc0 := hL2.c.c0; have sc1 := hL2.c.c1; have HL2 : Hid _ := And.intro f2 hL2; clear f2 hL2 hF2)
    | (go_at_call 5; (with_reducible refine (H3 _).mono ?_); rintro e w3 ⟨rfl, hF3⟩; clear sb0 sb1 sb2 sb3 sb4 sb5 sb6 sb7 sb8 sb9 sb10 sb11 sc0 sc1 H3; have f3 := HL2.out.1.trans hF3; have hL3 := HL2.out.2.fr hF3; have HL3 : Hid _ := And.intro f3 hL3; clear f3 hL3 hF3)
    | (go_at_call 6; (with_reducible refine (H0 _).mono ?_); rintro e w5 ⟨rfl, hF5⟩; have f5 := HL3.out.1.trans hF5; have hL5 := HL3.out.2.fr hF5; have yx0 := hL5.x.g0; have yx1 := hL5.x.g1; have yx2 := hL5.x.g2; have yx3 := hL5.x.g3; have yx4 := hL5.x.g4; have yx5 := hL5.x.g5; have yx6 := hL5.x.g6; have yx7 := hL5.x.g7; have yx8 := hL5.x.g8; have yx9 := hL5.x.g9; have yx10 := hL5.x.g10; have yx11 := hL5.x.g11; have yc0 := hL5.c.c0; have yc1 := hL5.c.c1; have HL5 : Hid _ := And.intro f5 hL5; clear f5 hL5 hF5)
    | (go_at_call 5; (with_reducible refine (H4 _).mono ?_); rintro e w6 ⟨rfl, hF6⟩))
  go_ret
  exact ⟨rfl, (HL5.out.1.trans hF6).below (Nat.le_refl _) (fun _ h => h.elim)⟩
set_option maxRecDepth 100000 in
set_option maxHeartbeats 2000000 in
theorem cm_true_true_s (t u : ByteArray) (fx ar : Bool) (r1 c1 : Int) (x1 y1 : Bool) (r2 c2 : Int) (x2 y2 : Bool) (t2 u2 : ByteArray) (gx br : Bool) (s1 d1 : Int) (z1 v1 : Bool) (s2 d2 : Int) (z2 v2 : Bool) (r c : Int) (w : World) (A : Bool) (p q p2 q2 : Int) (H1 : ∀ w, Calls Tryd.prog 4 #[(.agg #[.string t, .string u, .bool fx, .bool ar, .int .i64 r1, .int .i64 c1, .bool x1, .bool y1, .int .i64 r2, .int .i64 c2, .bool x2, .bool y2]), (.agg #[.string t2, .string u2, .bool gx, .bool br, .int .i64 s1, .int .i64 d1, .bool z1, .bool v1, .int .i64 s2, .int .i64 d2, .bool z2, .bool v2])] w fun e w' => e = .returned (.tuple #[(.agg #[.string t, .string u, .bool fx, .bool A, .int .i64 p, .int .i64 q, .bool false, .bool false, .int .i64 p2, .int .i64 q2, .bool false, .bool false]), .bool true]) ∧ Fr noB w w') (H2 : ∀ w, Calls Tryd.prog 5 #[(.agg #[.string t, .string u, .bool fx, .bool ar, .int .i64 r1, .int .i64 c1, .bool x1, .bool y1, .int .i64 r2, .int .i64 c2, .bool x2, .bool y2]), .agg #[.int .i64 r, .int .i64 c]] w fun e w' => e = .returned (.bool true) ∧ Fr noB w w') (H3 : ∀ w, Calls Tryd.prog 5 #[(.agg #[.string t2, .string u2, .bool gx, .bool br, .int .i64 s1, .int .i64 d1, .bool z1, .bool v1, .int .i64 s2, .int .i64 d2, .bool z2, .bool v2]), .agg #[.int .i64 r, .int .i64 c]] w fun e w' => e = .returned (.bool true) ∧ Fr noB w w') (H4 : ∀ w, Calls Tryd.prog 5 #[(.agg #[.string t, .string u, .bool fx, .bool A, .int .i64 p, .int .i64 q, .bool false, .bool false, .int .i64 p2, .int .i64 q2, .bool false, .bool false]), .agg #[.int .i64 r, .int .i64 c]] w fun e w' => e = .returned (.bool true) ∧ Fr noB w w') :
    Calls Tryd.prog 3 #[(.agg #[.string t, .string u, .bool fx, .bool ar, .int .i64 r1, .int .i64 c1, .bool x1, .bool y1, .int .i64 r2, .int .i64 c2, .bool x2, .bool y2]), (.agg #[.string t2, .string u2, .bool gx, .bool br, .int .i64 s1, .int .i64 d1, .bool z1, .bool v1, .int .i64 s2, .int .i64 d2, .bool z2, .bool v2]), .agg #[.int .i64 r, .int .i64 c]] w fun e w' => e = .returned (.bool true) ∧ Below w.heap.size w w' := by
  have H0 := live_true
  obtain ⟨W0, hW0⟩ : ∃ W0, ((w.alloc (.cells #[.string t, .string u, .bool fx, .bool ar, .int .i64 r1, .int .i64 c1, .bool x1, .bool y1, .int .i64 r2, .int .i64 c2, .bool x2, .bool y2] 25 (0, 0))).alloc (.cells #[.string t2, .string u2, .bool gx, .bool br, .int .i64 s1, .int .i64 d1, .bool z1, .bool v1, .int .i64 s2, .int .i64 d2, .bool z2, .bool v2] 25 (0, 0))).alloc (.cells #[.int .i64 r, .int .i64 c] 27 (0, 0)) = W0 := ⟨_, rfl⟩
  have hA0 : RAt W0 w.heap.size t u fx ar r1 c1 x1 y1 r2 c2 x2 y2 := ⟨by rw [← hW0]; exact alloc_old (alloc_old (alloc_last _ _ _ rfl))⟩
  have hB0 : RAt W0 (w.heap.size + 1) t2 u2 gx br s1 d1 z1 v1 s2 d2 z2 v2 := ⟨by rw [← hW0]; exact alloc_old (alloc_last _ _ _ (by simp))⟩
  have hC0 : CAt W0 (w.heap.size + 1 + 1) r c := ⟨by rw [← hW0]; exact alloc_last _ _ _ (by simp)⟩
  have HF0 : Hid (Fr noB w W0) := by
    show Fr noB w W0
    rw [← hW0]; exact (((Fr.refl noB w).alloc _).alloc _).alloc _
  have HX : Hid (∀ w1 : World, Fr noB W0 w1 → Fr noB w (w1.alloc (.cells #[.string t, .string u, .bool fx, .bool A, .int .i64 p, .int .i64 q, .bool false, .bool false, .int .i64 p2, .int .i64 q2, .bool false, .bool false] 25 (0, 0))) ∧ Four (w1.alloc (.cells #[.string t, .string u, .bool fx, .bool A, .int .i64 p, .int .i64 q, .bool false, .bool false, .int .i64 p2, .int .i64 q2, .bool false, .bool false] 25 (0, 0))) w.heap.size w1.heap.size t u fx ar r1 c1 x1 y1 r2 c2 x2 y2 t2 u2 gx br s1 d1 z1 v1 s2 d2 z2 v2 r c t u fx A p q false false p2 q2 false false) := fun w1 h => by
    have g := h.trans ((Fr.refl noB w1).alloc (.cells #[.string t, .string u, .bool fx, .bool A, .int .i64 p, .int .i64 q, .bool false, .bool false, .int .i64 p2, .int .i64 q2, .bool false, .bool false] 25 (0, 0)))
    exact ⟨HF0.out.trans g, hA0.fr g id, hB0.fr g id, hC0.fr g id, ⟨heap_alloc_new _ _⟩⟩
  have g0 := hA0.g0; have g1 := hA0.g1; have g2 := hA0.g2; have g3 := hA0.g3; have g4 := hA0.g4; have g5 := hA0.g5; have g6 := hA0.g6; have g7 := hA0.g7; have g8 := hA0.g8; have g9 := hA0.g9; have g10 := hA0.g10; have g11 := hA0.g11
  have k0 := hB0.g0; have k1 := hB0.g1; have k2 := hB0.g2; have k3 := hB0.g3; have k4 := hB0.g4; have k5 := hB0.g5; have k6 := hB0.g6; have k7 := hB0.g7; have k8 := hB0.g8; have k9 := hB0.g9; have k10 := hB0.g10; have k11 := hB0.g11
  clear hA0 hB0 hC0
  go_enter Tryd.func3, Tryd.ntmps3
  go_wp2_with (first
    | (go_at_call 4; (with_reducible refine (H1 _).mono ?_); rintro e w1 ⟨rfl, hF1⟩; obtain ⟨f1, hL1⟩ := HX.out _ hF1; have pa0 := hL1.a.g0; have pa1 := hL1.a.g1; have pa2 := hL1.a.g2; have pa3 := hL1.a.g3; have pa4 := hL1.a.g4; have pa5 := hL1.a.g5; have pa6 := hL1.a.g6; have pa7 := hL1.a.g7; have pa8 := hL1.a.g8; have pa9 := hL1.a.g9; have pa10 := hL1.a.g10; have pa11 := hL1.a.g11; have pc0 := hL1.c.c0; have pc1 := hL1.c.c1; have HL1 : Hid _ := And.intro f1 hL1; clear f1 hL1 hF1 HX H1)
    | (go_at_call 5; (with_reducible refine (H2 _).mono ?_); rintro e w2 ⟨rfl, hF2⟩; clear pa0 pa1 pa2 pa3 pa4 pa5 pa6 pa7 pa8 pa9 pa10 pa11 pc0 pc1 H2; have f2 := HL1.out.1.trans hF2; have hL2 := HL1.out.2.fr hF2; have sb0 := hL2.b.g0; have sb1 := hL2.b.g1; have sb2 := hL2.b.g2; have sb3 := hL2.b.g3; have sb4 := hL2.b.g4; have sb5 := hL2.b.g5; have sb6 := hL2.b.g6; have sb7 := hL2.b.g7; have sb8 := hL2.b.g8; have sb9 := hL2.b.g9; have sb10 := hL2.b.g10; have sb11 := hL2.b.g11; have sc0 := hL2.c.c0; have sc1 := hL2.c.c1; have HL2 : Hid _ := And.intro f2 hL2; clear f2 hL2 hF2)
    | (go_at_call 5; (with_reducible refine (H3 _).mono ?_); rintro e w3 ⟨rfl, hF3⟩; clear sb0 sb1 sb2 sb3 sb4 sb5 sb6 sb7 sb8 sb9 sb10 sb11 sc0 sc1 H3; have f3 := HL2.out.1.trans hF3; have hL3 := HL2.out.2.fr hF3; have HL3 : Hid _ := And.intro f3 hL3; clear f3 hL3 hF3)
    | (go_at_call 6; (with_reducible refine (H0 _).mono ?_); rintro e w5 ⟨rfl, hF5⟩; have f5 := HL3.out.1.trans hF5; have hL5 := HL3.out.2.fr hF5; have yx0 := hL5.x.g0; have yx1 := hL5.x.g1; have yx2 := hL5.x.g2; have yx3 := hL5.x.g3; have yx4 := hL5.x.g4; have yx5 := hL5.x.g5; have yx6 := hL5.x.g6; have yx7 := hL5.x.g7; have yx8 := hL5.x.g8; have yx9 := hL5.x.g9; have yx10 := hL5.x.g10; have yx11 := hL5.x.g11; have yc0 := hL5.c.c0; have yc1 := hL5.c.c1; have HL5 : Hid _ := And.intro f5 hL5; clear f5 hL5 hF5)
    | (go_at_call 5; (with_reducible refine (H4 _).mono ?_); rintro e w6 ⟨rfl, hF6⟩))
  go_ret
  exact ⟨rfl, (HL5.out.1.trans hF6).below (Nat.le_refl _) (fun _ h => h.elim)⟩
theorem common_walk (t u : ByteArray) (fx ar : Bool) (r1 c1 : Int) (x1 y1 : Bool) (r2 c2 : Int) (x2 y2 : Bool) (t2 u2 : ByteArray) (gx br : Bool) (s1 d1 : Int) (z1 v1 : Bool) (s2 d2 : Int) (z2 v2 : Bool) (r c : Int) (w : World) (ht : t.size ≤ 140737488355328) (hu : u.size ≤ 140737488355328) :
    Calls Tryd.prog 3 #[(.agg #[.string t, .string u, .bool fx, .bool ar, .int .i64 r1, .int .i64 c1, .bool x1, .bool y1, .int .i64 r2, .int .i64 c2, .bool x2, .bool y2]), (.agg #[.string t2, .string u2, .bool gx, .bool br, .int .i64 s1, .int .i64 d1, .bool z1, .bool v1, .int .i64 s2, .int .i64 d2, .bool z2, .bool v2]), .agg #[.int .i64 r, .int .i64 c]] w fun e w' => e = .returned (.bool true) ∧ Below w.heap.size w w' := by
  have H1 := fun w => common_any t u fx ar r1 c1 x1 y1 r2 c2 x2 y2 t2 u2 gx br s1 d1 z1 v1 s2 d2 z2 v2 w (by omega) (by omega)
  have H2 := has_any t u fx ar r1 c1 x1 y1 r2 c2 x2 y2 r c
  have H3 := has_any t2 u2 gx br s1 d1 z1 v1 s2 d2 z2 v2 r c
  have HH := fun A p q p2 q2 => has_any t u fx A p q false false p2 q2 false false r c
  have hcs := com_cases t u fx ar br r1 c1 r2 c2 s1 d1 s2 d2 r c
  generalize hasF ar r1 c1 r2 c2 r c = P at *
  generalize hasF br s1 d1 s2 d2 r c = Q at *
  generalize comV t u fx (boxF ar br r1 c1 r2 c2 s1 d1 s2 d2) = V at *
  rcases hcs with ⟨rfl, hPQ⟩ | ⟨A, p, q, p2, q2, rfl, hPQ⟩
  · cases P <;> cases Q
    · exact cm_false_false_n t u fx ar r1 c1 x1 y1 r2 c2 x2 y2 t2 u2 gx br s1 d1 z1 v1 s2 d2 z2 v2 r c w H1 H2 H3
    · exact cm_false_true_n t u fx ar r1 c1 x1 y1 r2 c2 x2 y2 t2 u2 gx br s1 d1 z1 v1 s2 d2 z2 v2 r c w H1 H2 H3
    · exact cm_true_false_n t u fx ar r1 c1 x1 y1 r2 c2 x2 y2 t2 u2 gx br s1 d1 z1 v1 s2 d2 z2 v2 r c w H1 H2 H3
    · cases hPQ
  · have H4 := HH A p q p2 q2
    rw [hPQ] at H4
    cases P <;> cases Q
    · exact cm_false_false_s t u fx ar r1 c1 x1 y1 r2 c2 x2 y2 t2 u2 gx br s1 d1 z1 v1 s2 d2 z2 v2 r c w A p q p2 q2 H1 H2 H3 H4
    · exact cm_false_true_s t u fx ar r1 c1 x1 y1 r2 c2 x2 y2 t2 u2 gx br s1 d1 z1 v1 s2 d2 z2 v2 r c w A p q p2 q2 H1 H2 H3 H4
    · exact cm_true_false_s t u fx ar r1 c1 x1 y1 r2 c2 x2 y2 t2 u2 gx br s1 d1 z1 v1 s2 d2 z2 v2 r c w A p q p2 q2 H1 H2 H3 H4
    · exact cm_true_true_s t u fx ar r1 c1 x1 y1 r2 c2 x2 y2 t2 u2 gx br s1 d1 z1 v1 s2 d2 z2 v2 r c w A p q p2 q2 H1 H2 H3 H4
#print axioms common_walk
end Go.Proofs.YtklinhfcecfnfabDoor
