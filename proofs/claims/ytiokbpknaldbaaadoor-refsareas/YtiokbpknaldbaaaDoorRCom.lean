/- What two references have in common: the program's contract. -/
import Derived.Test.YtiokbpknaldbaaaDoorRHas
import Derived.Test.YtiokbpknaldbaaaDoorRNee
import Derived.Deep.DeepCutAuto
namespace Go.Proofs.YtiokbpknaldbaaaDoor
open Go.RowKit Go.Shelf

/-- The cells of both: rows and columns. -/
structure Box where
  t : Int
  l : Int
  d : Int
  e : Int
def boxF (ar br : Bool) (r1 c1 r2 c2 s1 d1 s2 d2 : Int) : Box := ⟨max (loI ar r1 r2) (loI br s1 s2), max (loI ar c1 c2) (loI br d1 d2), min (hiI ar r1 r2) (hiI br s1 s2), min (hiI ar c1 c2) (hiI br d1 d2)⟩
def Box.some (b : Box) : Bool := decide (b.t ≤ b.d) && decide (b.l ≤ b.e)
def Box.one (b : Box) : Bool := decide (b.t = b.d) && decide (b.l = b.e)
/-- What Common answers. -/
def comV (t u : ByteArray) (fx : Bool) (b : Box) : Value :=
  if b.some = true then
    (if b.one = true then .tuple #[(.agg #[.string t, .string u, .bool fx, .bool false, .int .i64 b.t, .int .i64 b.l, .bool false, .bool false, .int .i64 0, .int .i64 0, .bool false, .bool false]), .bool true]
     else .tuple #[(.agg #[.string t, .string u, .bool fx, .bool true, .int .i64 b.t, .int .i64 b.l, .bool false, .bool false, .int .i64 b.d, .int .i64 b.e, .bool false, .bool false]), .bool true])
  else .tuple #[(.agg #[.string ⟨#[]⟩, .string ⟨#[]⟩, .bool false, .bool false, .int .i64 0, .int .i64 0, .bool false, .bool false, .int .i64 0, .int .i64 0, .bool false, .bool false]), .bool false]
theorem rret2 {fn : Func} {p q : Tmp} (h : fn.results = #[.cell p 25, .tmp q]) (tmps : Array Value) (w : World) (g : Nat) {t u : ByteArray} {fx ar : Bool} {r1 c1 : Int} {x1 y1 : Bool} {r2 c2 : Int} {x2 y2 : Bool} {z : Bool} (hp : tmps.getD p undef = .pointer (some ⟨g, 0, none⟩)) (hq : tmps.getD q undef = .bool z) (hv : RAt w g t u fx ar r1 c1 x1 y1 r2 c2 x2 y2) :
    (results fn tmps).run Tryd.prog w = .ok (.tuple #[(.agg #[.string t, .string u, .bool fx, .bool ar, .int .i64 r1, .int .i64 c1, .bool x1, .bool y1, .int .i64 r2, .int .i64 c2, .bool x2, .bool y2]), .bool z]) w := by
  have q0 := hv.g0; have q1 := hv.g1; have q2 := hv.g2; have q3 := hv.g3; have q4 := hv.g4; have q5 := hv.g5; have q6 := hv.g6; have q7 := hv.g7; have q8 := hv.g8; have q9 := hv.g9; have q10 := hv.g10; have q11 := hv.g11
  simp only [Array.getD_eq_getD_getElem?] at hp hq
  simp [results, h, hp, hq, go_sem, q0, q1, q2, q3, q4, q5, q6, q7, q8, q9, q10, q11]
/-- What lies there behind the ends of both. -/
structure Mid (w W : World) (b k1 k2 : Nat) (t u : ByteArray) (fx ar : Bool) (r1 c1 : Int) (x1 y1 : Bool) (r2 c2 : Int) (x2 y2 : Bool) (lr lc hr hc mr mc nr nc : Int) : Prop where
  a : RAt W b t u fx ar r1 c1 x1 y1 r2 c2 x2 y2
  o : RAt W (b + 1 + 1) ⟨#[]⟩ ⟨#[]⟩ false false 0 0 false false 0 0 false false
  l1 : CAt W k1 lr lc
  h1 : CAt W (k1 + 1) hr hc
  l2 : CAt W k2 mr mc
  h2 : CAt W (k2 + 1) nr nc
  n1 : b + 1 + 1 < k1
  n2 : k1 + 1 < k2
  f : Fr noB w W
theorem Mid.after {w W : World} {b k1 k2 : Nat} {t u : ByteArray} {fx ar : Bool} {r1 c1 : Int} {x1 y1 : Bool} {r2 c2 : Int} {x2 y2 : Bool} {lr lc hr hc mr mc nr nc : Int} (h : Mid w W b k1 k2 t u fx ar r1 c1 x1 y1 r2 c2 x2 y2 lr lc hr hc mr mc nr nc) (hb : w.heap.size ≤ b) (T L D E : Int) :
    ∃ W3, (((W.setCell ⟨k1, 0, none⟩ (.int .i64 T)).setCell ⟨k1, 1, none⟩ (.int .i64 L)).setCell ⟨k1 + 1, 0, none⟩ (.int .i64 D)).setCell ⟨k1 + 1, 1, none⟩ (.int .i64 E) = W3 ∧ RAt W3 b t u fx ar r1 c1 x1 y1 r2 c2 x2 y2 ∧ RAt W3 (b + 1 + 1) ⟨#[]⟩ ⟨#[]⟩ false false 0 0 false false 0 0 false false ∧ CAt W3 k1 T L ∧ CAt W3 (k1 + 1) D E ∧ Fr noB w W3 := by
  have n1 := h.n1
  refine ⟨_, rfl, ?_, ?_, ?_, ?_, ?_⟩
  · exact (((h.a.setO _ _ _ (by omega)).setO _ _ _ (by omega)).setO _ _ _ (by omega)).setO _ _ _ (by omega)
  · exact (((h.o.setO _ _ _ (by omega)).setO _ _ _ (by omega)).setO _ _ _ (by omega)).setO _ _ _ (by omega)
  · exact (((h.l1.s0 T).s1 L).setO _ _ _ (by omega)).setO _ _ _ (by omega)
  · exact (((h.h1.setO _ _ _ (by omega)).setO _ _ _ (by omega)).s0 D).s1 E
  · exact (((h.f.setCell ⟨k1, 0, none⟩ (Or.inr (by show w.heap.size ≤ k1; omega)) _).setCell ⟨k1, 1, none⟩ (Or.inr (by show w.heap.size ≤ k1; omega)) _).setCell ⟨k1 + 1, 0, none⟩ (Or.inr (by show w.heap.size ≤ k1 + 1; omega)) _).setCell ⟨k1 + 1, 1, none⟩ (Or.inr (by show w.heap.size ≤ k1 + 1; omega)) _
theorem load_cel (w : World) (b : Nat) (r c : Int) (h : CAt w b r c) : (Instr.loadAt 32 (.pointer (some ⟨b, 0, none⟩))).run Tryd.prog w = .ok (.agg #[.int .i64 r, .int .i64 c]) w := by
  have hu := Tryd.underlying32
  have h0 := h.c0
  have h1 := h.c1
  simp [go_sem, h0, h1]
theorem fr_to {Q : Exit → Act → World → Prop} {a : Act} {w : World} (b : Act) (h : a = b) (hq : Q .normal b w) : Q .normal a w := by
  rw [h]
  exact hq
theorem ite_in {c : Prop} {i : Decidable c} {A B : Prop} (h : c) (a : A) : @ite Prop c i A B := by rw [if_pos h]; exact a
section
variable {P : Program} {ops : Array Oper} {S : World → Prop} {op : Oper} {a : Act}
theorem y_loadS (ty : TypeId) (x : Operand) (p v : Value) (hw : Region.wanted op (yielded ops a.tmps) = true) (ho : op.op = .load ty x) (hx : a.eval x = p) (hS : ∀ w, S w → (Instr.loadAt ty p).run Tryd.prog w = .ok v w) : YieldsIf Tryd.prog ops S op v a :=
  .inl ⟨hw, fun w hw' => by
    unfold execOp
    simp only [ho, hx, Sem.run_bind, Sem.run_pure, hS w hw', Result.andThen_ok]⟩
theorem wp_val {w w' : World} {next : Act → World → Prop} {Q : Exit → Act → World → Prop} (v : Value) (h : (execOp a.eval op).run P w = .ok (.value v) w') (hn : next (a.put op.dst v) w') : Oper.wp P op a w next Q := by
  unfold Oper.wp
  rw [h]
  exact hn
end
theorem store_ref (w : World) (b : Nat) (t u : ByteArray) (fx ar : Bool) (r1 c1 : Int) (x1 y1 : Bool) (r2 c2 : Int) (x2 y2 : Bool) {t0 u0 : ByteArray} {f0 a0 : Bool} {p0 q0 : Int} {x0 y0 : Bool} {p9 q9 : Int} {x9 y9 : Bool} (h : RAt w b t0 u0 f0 a0 p0 q0 x0 y0 p9 q9 x9 y9) : (Instr.storeAt 25 (.pointer (some ⟨b, 0, none⟩)) (.agg #[.string t, .string u, .bool fx, .bool ar, .int .i64 r1, .int .i64 c1, .bool x1, .bool y1, .int .i64 r2, .int .i64 c2, .bool x2, .bool y2])).run Tryd.prog w = .ok () ((((((((((((w.setCell ⟨b, 0, none⟩ (.string t)).setCell ⟨b, 1, none⟩ (.string u)).setCell ⟨b, 2, none⟩ (.bool fx)).setCell ⟨b, 3, none⟩ (.bool ar)).setCell ⟨b, 4, none⟩ (.int .i64 r1)).setCell ⟨b, 5, none⟩ (.int .i64 c1)).setCell ⟨b, 6, none⟩ (.bool x1)).setCell ⟨b, 7, none⟩ (.bool y1)).setCell ⟨b, 8, none⟩ (.int .i64 r2)).setCell ⟨b, 9, none⟩ (.int .i64 c2)).setCell ⟨b, 10, none⟩ (.bool x2)).setCell ⟨b, 11, none⟩ (.bool y2)) := by
  have hu := Tryd.underlying25
  have g0 := h.g0; have g1 := h.g1; have g2 := h.g2; have g3 := h.g3; have g4 := h.g4; have g5 := h.g5; have g6 := h.g6; have g7 := h.g7; have g8 := h.g8; have g9 := h.g9; have g10 := h.g10; have g11 := h.g11
  have f := h.f
  simp [go_sem, g0, g1, g2, g3, g4, g5, g6, g7, g8, g9, g10, g11, f]
section
variable {ops : Array Oper} {S : World → Prop} {op : Oper} {a : Act}
theorem wp_storeR {w w' : World} {next : Act → World → Prop} {Q : Exit → Act → World → Prop} (p x : Operand) (vp vx : Value) (ho : op.op = .store 25 p x) (hp : a.eval p = vp) (hx : a.eval x = vx) (hs : (Instr.storeAt 25 vp vx).run Tryd.prog w = .ok () w') (h : next (a.put op.dst undef) w') : Oper.wp Tryd.prog op a w next Q := by
  unfold Oper.wp execOp
  simp only [ho, hp, hx, Sem.run_bind, Sem.run_pure, hs, Result.andThen_ok]
  exact h
end
set_option maxRecDepth 100000 in
set_option maxHeartbeats 2000000 in
theorem common_any (t u : ByteArray) (fx ar : Bool) (r1 c1 : Int) (x1 y1 : Bool) (r2 c2 : Int) (x2 y2 : Bool) (t2 u2 : ByteArray) (gx br : Bool) (s1 d1 : Int) (z1 v1 : Bool) (s2 d2 : Int) (z2 v2 : Bool) (w : World) (ht : t.size ≤ 281474976710656) (hu : u.size ≤ 281474976710656) :
    Calls Tryd.prog 10 #[(.agg #[.string t, .string u, .bool fx, .bool ar, .int .i64 r1, .int .i64 c1, .bool x1, .bool y1, .int .i64 r2, .int .i64 c2, .bool x2, .bool y2]), (.agg #[.string t2, .string u2, .bool gx, .bool br, .int .i64 s1, .int .i64 d1, .bool z1, .bool v1, .int .i64 s2, .int .i64 d2, .bool z2, .bool v2])] w fun e w' => e = .returned (comV t u fx (boxF ar br r1 c1 r2 c2 s1 d1 s2 d2)) ∧ Fr noB w w' := by
  have HE1 := ends_any t u fx ar r1 c1 x1 y1 r2 c2 x2 y2
  have HE2 := ends_any t2 u2 gx br s1 d1 z1 v1 s2 d2 z2 v2
  have HC1 := fun w => clone_any t w ht
  have HC2 := fun w => clone_any u w hu
  unfold boxF
  generalize loI ar r1 r2 = lr at *
  generalize loI ar c1 c2 = lc at *
  generalize hiI ar r1 r2 = hr at *
  generalize hiI ar c1 c2 = hc at *
  generalize loI br s1 s2 = mr at *
  generalize loI br d1 d2 = mc at *
  generalize hiI br s1 s2 = nr at *
  generalize hiI br d1 d2 = nc at *
  obtain ⟨T, hT⟩ : ∃ T, max lr mr = T := ⟨_, rfl⟩
  obtain ⟨L, hL⟩ : ∃ L, max lc mc = L := ⟨_, rfl⟩
  obtain ⟨D, hD⟩ : ∃ D, min hr nr = D := ⟨_, rfl⟩
  obtain ⟨E, hE⟩ : ∃ E, min hc nc = E := ⟨_, rfl⟩
  rw [hT, hL, hD, hE]
  have HA := ahead_any T L D E
  have HBa := bare_any T L
  have HBb := bare_any D E
  obtain ⟨W0, hW0⟩ : ∃ W0, ((w.alloc (.cells #[.string t, .string u, .bool fx, .bool ar, .int .i64 r1, .int .i64 c1, .bool x1, .bool y1, .int .i64 r2, .int .i64 c2, .bool x2, .bool y2] 25 (0, 0))).alloc (.cells #[.string t2, .string u2, .bool gx, .bool br, .int .i64 s1, .int .i64 d1, .bool z1, .bool v1, .int .i64 s2, .int .i64 d2, .bool z2, .bool v2] 25 (0, 0))).alloc (.cells #[.string ⟨#[]⟩, .string ⟨#[]⟩, .bool false, .bool false, .int .i64 0, .int .i64 0, .bool false, .bool false, .int .i64 0, .int .i64 0, .bool false, .bool false] 25 (0, 0)) = W0 := ⟨_, rfl⟩
  have hA0 : RAt W0 w.heap.size t u fx ar r1 c1 x1 y1 r2 c2 x2 y2 := ⟨by rw [← hW0]; exact alloc_old (alloc_old (alloc_last _ _ _ rfl))⟩
  have hB0 : RAt W0 (w.heap.size + 1) t2 u2 gx br s1 d1 z1 v1 s2 d2 z2 v2 := ⟨by rw [← hW0]; exact alloc_old (alloc_last _ _ _ (by simp))⟩
  have hO0 : RAt W0 (w.heap.size + 1 + 1) ⟨#[]⟩ ⟨#[]⟩ false false 0 0 false false 0 0 false false := ⟨by rw [← hW0]; exact alloc_last _ _ _ (by simp)⟩
  have hF0 : Fr noB w W0 := by rw [← hW0]; exact (((Fr.refl noB w).alloc _).alloc _).alloc _
  have HB : Hid (∀ w1 : World, Fr noB W0 w1 → RAt ((w1.alloc (.cells #[.int .i64 lr, .int .i64 lc] 32 (0, 0))).alloc (.cells #[.int .i64 hr, .int .i64 hc] 32 (0, 0))) (w.heap.size + 1) t2 u2 gx br s1 d1 z1 v1 s2 d2 z2 v2) := fun w1 h => hB0.fr (h.trans (((Fr.refl noB w1).alloc _).alloc _)) id
  have HM : Hid (∀ w1 w2 : World, Fr noB W0 w1 → Fr noB ((w1.alloc (.cells #[.int .i64 lr, .int .i64 lc] 32 (0, 0))).alloc (.cells #[.int .i64 hr, .int .i64 hc] 32 (0, 0))) w2 → Mid w ((w2.alloc (.cells #[.int .i64 mr, .int .i64 mc] 32 (0, 0))).alloc (.cells #[.int .i64 nr, .int .i64 nc] 32 (0, 0))) w.heap.size w1.heap.size w2.heap.size t u fx ar r1 c1 x1 y1 r2 c2 x2 y2 lr lc hr hc mr mc nr nc) := fun w1 w2 h1 h2 => by
    have f1 : Fr noB w1 ((w1.alloc (.cells #[.int .i64 lr, .int .i64 lc] 32 (0, 0))).alloc (.cells #[.int .i64 hr, .int .i64 hc] 32 (0, 0))) := ((Fr.refl noB w1).alloc _).alloc _
    have f2 : Fr noB w2 ((w2.alloc (.cells #[.int .i64 mr, .int .i64 mc] 32 (0, 0))).alloc (.cells #[.int .i64 nr, .int .i64 nc] 32 (0, 0))) := ((Fr.refl noB w2).alloc _).alloc _
    have g := (h1.trans f1).trans (h2.trans f2)
    have hz := h2.size
    simp only [World.size_alloc] at hz
    have hz1 := lt_of_block (hO0.fr h1 id).o
    exact ⟨hA0.fr g id, hO0.fr g id, (show CAt ((w1.alloc (.cells #[.int .i64 lr, .int .i64 lc] 32 (0, 0))).alloc (.cells #[.int .i64 hr, .int .i64 hc] 32 (0, 0))) w1.heap.size lr lc from ⟨alloc_old (alloc_last _ _ _ rfl)⟩).fr (h2.trans f2) id, (show CAt ((w1.alloc (.cells #[.int .i64 lr, .int .i64 lc] 32 (0, 0))).alloc (.cells #[.int .i64 hr, .int .i64 hc] 32 (0, 0))) (w1.heap.size + 1) hr hc from ⟨alloc_last _ _ _ (by simp)⟩).fr (h2.trans f2) id,
      ⟨alloc_old (alloc_last _ _ _ rfl)⟩, ⟨alloc_last _ _ _ (by simp)⟩, hz1, by omega, hF0.trans g⟩
  have g0 := hA0.g0; have g1 := hA0.g1; have g2 := hA0.g2; have g3 := hA0.g3; have g4 := hA0.g4; have g5 := hA0.g5; have g6 := hA0.g6; have g7 := hA0.g7; have g8 := hA0.g8; have g9 := hA0.g9; have g10 := hA0.g10; have g11 := hA0.g11
  clear hA0 hB0 hO0 hF0
  obtain ⟨Y, hY⟩ : ∃ Y, (decide (T ≤ D) && decide (L ≤ E)) = Y := ⟨_, rfl⟩
  rw [hY] at HA
  have HY : Hid (comV t u fx ⟨T, L, D, E⟩ = if Y = true then (if T = D ∧ L = E then .tuple #[(.agg #[.string t, .string u, .bool fx, .bool false, .int .i64 T, .int .i64 L, .bool false, .bool false, .int .i64 0, .int .i64 0, .bool false, .bool false]), .bool true] else .tuple #[(.agg #[.string t, .string u, .bool fx, .bool true, .int .i64 T, .int .i64 L, .bool false, .bool false, .int .i64 D, .int .i64 E, .bool false, .bool false]), .bool true]) else .tuple #[(.agg #[.string ⟨#[]⟩, .string ⟨#[]⟩, .bool false, .bool false, .int .i64 0, .int .i64 0, .bool false, .bool false, .int .i64 0, .int .i64 0, .bool false, .bool false]), .bool false]) := by
    show comV t u fx ⟨T, L, D, E⟩ = _
    unfold comV Box.some Box.one
    simp only [hY]
    congr 1
    by_cases h : T = D ∧ L = E
    · rw [if_pos h, if_pos (by simp [h])]
    · rw [if_neg h, if_neg (by simpa using h)]
  clear hY
  go_enter Tryd.func10, Tryd.ntmps10
  go_wp2_with (first
    | (go_at_call 23; (with_reducible refine (HE1 _).mono ?_); rintro e w1 ⟨rfl, hF1⟩; have hB1 := HB.out _ hF1; have k0 := hB1.g0; have k1 := hB1.g1; have k2 := hB1.g2; have k3 := hB1.g3; have k4 := hB1.g4; have k5 := hB1.g5; have k6 := hB1.g6; have k7 := hB1.g7; have k8 := hB1.g8; have k9 := hB1.g9; have k10 := hB1.g10; have k11 := hB1.g11; clear HE1)
    | (go_at_call 23; (with_reducible refine (HE2 _).mono ?_); rintro e w2 ⟨rfl, hF2⟩; clear hB1 k0 k1 k2 k3 k4 k5 k6 k7 k8 k9 k10 k11; have hM := HM.out _ _ hF1 hF2; have l0 := hM.l1.c0; have l1 := hM.l1.c1; have l2 := hM.l1.f; have h0 := hM.h1.c0; have h1 := hM.h1.c1; have h2 := hM.h1.f; have m0 := hM.l2.c0; have m1 := hM.l2.c1; have n0 := hM.h2.c0; have n1 := hM.h2.c1; have nn := hM.n2; have HM2 : Hid _ := hM; clear hM))
  obtain ⟨W3, hW3, hA3, hO3, hL3, hH3, hF3⟩ := HM2.out.after (Nat.le_refl _) T L D E
  have hk1 := HM2.out.n1
  rw [hW3]
  refine (HA _).mono ?_
  rintro e w4 ⟨rfl, hF4⟩
  have hA4 := hA3.fr hF4 id
  have hO4 := hO3.fr hF4 id
  have hL4 := hL3.fr hF4 id
  have hH4 := hH3.fr hF4 id
  have HF4 : Hid (Fr noB w w4) := hF3.trans hF4
  clear hW3 hA3 hO3 hL3 hH3 hF3 hF4 HM2 l0 l1 l2 h0 h1 h2 m0 m1 n0 n1 nn g0 g1 g2 g3 g4 g5 g6 g7 g8 g9 g10 g11 HE2 HM HB hF1 hF2 hW0 hT hL hD hE
  cases Y with
  | false =>
    have o0 := hO4.g0; have o1 := hO4.g1; have o2 := hO4.g2; have o3 := hO4.g3; have o4 := hO4.g4; have o5 := hO4.g5; have o6 := hO4.g6; have o7 := hO4.g7; have o8 := hO4.g8; have o9 := hO4.g9; have o10 := hO4.g10; have o11 := hO4.g11
    have of := hO4.f
    go_wp2_with fail
    rw [HY.out, if_neg (by simp)]
    exact bodyPost_ret (rret2 Tryd.results10 _ _ (w.heap.size + 1 + 1) rfl rfl (hO4.all _ _ _ _ _ _ _ _ _ _ _ _)) rfl ⟨rfl, HF4.out.all (Or.inr (by omega)) _ _ _ _ _ _ _ _ _ _ _ _⟩
  | true =>
    have lc0 := hL4.c0; have lc1 := hL4.c1
    go_wp2_with fail
    clear lc0 lc1
    have hbk : w.heap.size + 1 + 1 < w4.heap.size := lt_of_block hO4.o
    go_cut [10] (fun v wc => ∃ rk, v = .pointer (some ⟨rk, 0, none⟩) ∧ w4.heap.size ≤ rk ∧ RAt wc rk t u fx false T L false false 0 0 false false ∧ Fr noB w4 wc)
    case first =>
      refine wp_region_held_drew (S := fun W => Fr noB w4 W) (by kernel_rfl) ((Fr.refl _ _).drew) (fun hHeld => ?_)
      refine wpAnyH_take (i := 0) (v := .pointer (some ⟨w.heap.size, 0, none⟩)) rfl (by kernel_rfl) (by kernel_rfl) (by kernel_rfl) (fun _ _ _ h => h) (Or.inl ⟨by kernel_rfl, fun w hSw => by kernel_rfl⟩) hHeld ?_
      refine wpAnyH_take (i := 1) (v := .string t) rfl (by kernel_rfl) (by kernel_rfl) (by kernel_rfl) (fun _ _ _ h => h) (y_loadOf 9 load_str (.tmp 48) w.heap.size 0 _ (by kernel_rfl) rfl (by kernel_rfl) (fun w h => (hA4.fr h id).g0)) hHeld ?_
      refine wpAnyH_take (i := 3) (v := .pointer (some ⟨w.heap.size, 1, none⟩)) rfl (by kernel_rfl) (by kernel_rfl) (by kernel_rfl) (fun _ _ _ h => h) (Or.inl ⟨by kernel_rfl, fun w hSw => by kernel_rfl⟩) hHeld ?_
      refine wpAnyH_take (i := 4) (v := .string u) rfl (by kernel_rfl) (by kernel_rfl) (by kernel_rfl) (fun _ _ _ h => h) (y_loadOf 9 load_str (.tmp 51) w.heap.size 1 _ (by kernel_rfl) rfl (by kernel_rfl) (fun w h => (hA4.fr h id).g1)) hHeld ?_
      refine wpAnyH_take (i := 6) (v := .pointer (some ⟨w.heap.size, 2, none⟩)) rfl (by kernel_rfl) (by kernel_rfl) (by kernel_rfl) (fun _ _ _ h => h) (Or.inl ⟨by kernel_rfl, fun w hSw => by kernel_rfl⟩) hHeld ?_
      refine wpAnyH_take (i := 7) (v := .bool fx) rfl (by kernel_rfl) (by kernel_rfl) (by kernel_rfl) (fun _ _ _ h => h) (y_loadOf 4 load_boo (.tmp 54) w.heap.size 2 _ (by kernel_rfl) rfl (by kernel_rfl) (fun w h => (hA4.fr h id).g2)) hHeld ?_
      refine wpAnyH_take (i := 8) (v := .agg #[.int .i64 T, .int .i64 L]) rfl (by kernel_rfl) (by kernel_rfl) (by kernel_rfl) (fun _ _ _ h => h) (y_loadS 32 (.tmp 6) (.pointer (some ⟨w1.heap.size, 0, none⟩)) _ (by kernel_rfl) rfl (by kernel_rfl) (fun w h => load_cel w _ _ _ (hL4.fr h id))) hHeld ?_
      refine wpAnyH_ready (rs := [2, 11]) (by kernel_rfl) (by simp) ?_
      refine AllReadyH.cons rfl (fun K hK => ?_) ?_
      · (with_reducible refine ite_in ?_ ?_)
        · kernel_rfl
        (with_reducible refine wp_go 26 #[.string t] ?_ ?_)
        · kernel_rfl
        (with_reducible refine (HC1 _).mono ?_)
        rintro e wv1 ⟨rfl, hV1⟩
        refine hK.out _ _ (Fr.trans ((Fr.refl noB w4).drew) hV1) (fun hHeld1 => ?_)
        clear hK K
        refine wpAnyH_ready (rs := [5, 11]) (by kernel_rfl) (by simp) ?_
        refine AllReadyH.cons rfl (fun K hK => ?_) ?_
        · (with_reducible refine ite_in ?_ ?_)
          · kernel_rfl
          (with_reducible refine wp_go 26 #[.string u] ?_ ?_)
          · kernel_rfl
          (with_reducible refine (HC2 _).mono ?_)
          rintro e wv2 ⟨rfl, hV2⟩
          refine hK.out _ _ (Fr.trans (Fr.trans ((Fr.refl noB w4).drew) hV1) hV2) (fun hHeld2 => ?_)
          clear hK K
          refine wpAnyH_ready (rs := [9, 11]) (by kernel_rfl) (by simp) ?_
          refine AllReadyH.cons rfl (fun K hK => ?_) ?_
          · (with_reducible refine ite_in ?_ ?_)
            · kernel_rfl
            (with_reducible refine wp_go 27 #[.agg #[.int .i64 T, .int .i64 L]] ?_ ?_)
            · kernel_rfl
            (with_reducible refine (HBa _).mono ?_)
            rintro e wv3 ⟨rfl, hV3⟩
            refine hK.out _ _ (Fr.trans (Fr.trans (Fr.trans ((Fr.refl noB w4).drew) hV1) hV2) hV3) (fun hHeld3 => ?_)
            clear hK K
            refine wpAnyH_take (i := 10) (v := (.agg #[.string t, .string u, .bool fx, .bool false, .int .i64 T, .int .i64 L, .bool false, .bool false, .int .i64 0, .int .i64 0, .bool false, .bool false])) rfl (by kernel_rfl) (by kernel_rfl) (by kernel_rfl) (fun _ _ _ h => h) (Or.inl ⟨by kernel_rfl, fun w hSw => by kernel_rfl⟩) hHeld3 ?_
            refine wpAnyH_ready (rs := [11]) (by kernel_rfl) (by simp) ?_
            refine AllReadyH.cons rfl (fun K hK => ?_) AllReadyH.nil
            (with_reducible refine ite_in ?_ ?_)
            · kernel_rfl
            (with_reducible refine wp_val (.pointer (some ⟨(wv3).heap.size, 0, none⟩)) (w' := (wv3.alloc (.cells #[.string ⟨#[]⟩, .string ⟨#[]⟩, .bool false, .bool false, .int .i64 0, .int .i64 0, .bool false, .bool false, .int .i64 0, .int .i64 0, .bool false, .bool false] 25 (0, 0)))) ?_ ?_)
            · kernel_rfl
            refine hK.out _ _ (Fr.alloc (Fr.trans (Fr.trans (Fr.trans ((Fr.refl noB w4).drew) hV1) hV2) hV3) _) (fun hHeld4 => ?_)
            clear hK K
            refine wpAnyH_ready (rs := [12]) (by kernel_rfl) (by simp) ?_
            refine AllReadyH.cons rfl (fun K hK => ?_) AllReadyH.nil
            (with_reducible refine ite_in ?_ ?_)
            · kernel_rfl
            have hSt := store_ref (wv3.alloc (.cells #[.string ⟨#[]⟩, .string ⟨#[]⟩, .bool false, .bool false, .int .i64 0, .int .i64 0, .bool false, .bool false, .int .i64 0, .int .i64 0, .bool false, .bool false] 25 (0, 0))) (wv3).heap.size t u fx false T L false false 0 0 false false (show RAt (wv3.alloc (.cells #[.string ⟨#[]⟩, .string ⟨#[]⟩, .bool false, .bool false, .int .i64 0, .int .i64 0, .bool false, .bool false, .int .i64 0, .int .i64 0, .bool false, .bool false] 25 (0, 0))) (wv3).heap.size ⟨#[]⟩ ⟨#[]⟩ false false 0 0 false false 0 0 false false from ⟨heap_alloc_new _ _⟩)
            (with_reducible refine wp_storeR (.tmp 10) (.tmp 58) (.pointer (some ⟨(wv3).heap.size, 0, none⟩)) (.agg #[.string t, .string u, .bool fx, .bool false, .int .i64 T, .int .i64 L, .bool false, .bool false, .int .i64 0, .int .i64 0, .bool false, .bool false]) ?_ ?_ ?_ hSt ?_)
            · kernel_rfl
            · kernel_rfl
            · kernel_rfl
            clear hSt
            refine hK.out _ _ (Fr.all (Fr.alloc (Fr.trans (Fr.trans (Fr.trans ((Fr.refl noB w4).drew) hV1) hV2) hV3) (.cells #[.string ⟨#[]⟩, .string ⟨#[]⟩, .bool false, .bool false, .int .i64 0, .int .i64 0, .bool false, .bool false, .int .i64 0, .int .i64 0, .bool false, .bool false] 25 (0, 0))) (Or.inr (show w4.heap.size ≤ (wv3).heap.size from Fr.size (Fr.trans (Fr.trans (Fr.trans ((Fr.refl noB w4).drew) hV1) hV2) hV3))) _ _ _ _ _ _ _ _ _ _ _ _) (fun _ => ?_)
            clear hK K
            refine wpAnyH_done (by kernel_rfl) ?_ _
            refine fr_to { tmps := #[.agg #[.string t, .string u, .bool fx, .bool ar, .int .i64 r1, .int .i64 c1, .bool x1, .bool y1, .int .i64 r2, .int .i64 c2, .bool x2, .bool y2], .agg #[.string t2, .string u2, .bool gx, .bool br, .int .i64 s1, .int .i64 d1, .bool z1, .bool v1, .int .i64 s2, .int .i64 d2, .bool z2, .bool v2], .pointer (some ⟨w.heap.size, 0, none⟩), .pointer (some ⟨w.heap.size + 1, 0, none⟩), .pointer (some ⟨w.heap.size + 1 + 1, 0, none⟩), .bool false, .pointer (some ⟨w1.heap.size, 0, none⟩), .pointer (some ⟨w1.heap.size + 1, 0, none⟩), .pointer (some ⟨w2.heap.size, 0, none⟩), .pointer (some ⟨w2.heap.size + 1, 0, none⟩), .pointer (some ⟨(wv3).heap.size, 0, none⟩), .tuple #[.agg #[.int .i64 lr, .int .i64 lc], .agg #[.int .i64 hr, .int .i64 hc]], .agg #[.string t, .string u, .bool fx, .bool ar, .int .i64 r1, .int .i64 c1, .bool x1, .bool y1, .int .i64 r2, .int .i64 c2, .bool x2, .bool y2], .tuple #[.agg #[.int .i64 lr, .int .i64 lc], .agg #[.int .i64 hr, .int .i64 hc]], .agg #[.int .i64 lr, .int .i64 lc], .agg #[.int .i64 hr, .int .i64 hc], .tuple #[.agg #[.int .i64 mr, .int .i64 mc], .agg #[.int .i64 nr, .int .i64 nc]], .agg #[.string t2, .string u2, .bool gx, .bool br, .int .i64 s1, .int .i64 d1, .bool z1, .bool v1, .int .i64 s2, .int .i64 d2, .bool z2, .bool v2], .tuple #[.agg #[.int .i64 mr, .int .i64 mc], .agg #[.int .i64 nr, .int .i64 nc]], .agg #[.int .i64 mr, .int .i64 mc], .agg #[.int .i64 nr, .int .i64 nc], .pointer (some ⟨w1.heap.size, 0, none⟩), .int .i64 lr, .pointer (some ⟨w2.heap.size, 0, none⟩), .int .i64 mr, .int .i64 T, .pointer (some ⟨w1.heap.size, 1, none⟩), .int .i64 lc, .pointer (some ⟨w2.heap.size, 1, none⟩), .int .i64 mc, .int .i64 L, .agg #[.int .i64 T, .int .i64 L], .pointer (some ⟨w1.heap.size + 1, 0, none⟩), .int .i64 hr, .pointer (some ⟨w2.heap.size + 1, 0, none⟩), .int .i64 nr, .int .i64 D, .pointer (some ⟨w1.heap.size + 1, 1, none⟩), .int .i64 hc, .pointer (some ⟨w2.heap.size + 1, 1, none⟩), .int .i64 nc, .int .i64 E, .agg #[.int .i64 D, .int .i64 E], .agg #[.int .i64 T, .int .i64 L], .agg #[.int .i64 D, .int .i64 E], .bool true, .bool false, undef, .pointer (some ⟨w.heap.size, 0, none⟩), .string t, .string t, .pointer (some ⟨w.heap.size, 1, none⟩), .string u, .string u, .pointer (some ⟨w.heap.size, 2, none⟩), .bool fx, .agg #[.int .i64 T, .int .i64 L], .agg #[.int .i64 T, .int .i64 L, .bool false, .bool false], (.agg #[.string t, .string u, .bool fx, .bool false, .int .i64 T, .int .i64 L, .bool false, .bool false, .int .i64 0, .int .i64 0, .bool false, .bool false]), undef, undef, undef, undef, undef, undef, undef, undef], defers := [] } (by kernel_rfl) ?_
            go_wp2_with fail
            go_meet
            exact ⟨(wv3).heap.size, rfl, (show w4.heap.size ≤ (wv3).heap.size from Fr.size (Fr.trans (Fr.trans (Fr.trans ((Fr.refl noB w4).drew) hV1) hV2) hV3)), ((show RAt (wv3.alloc (.cells #[.string ⟨#[]⟩, .string ⟨#[]⟩, .bool false, .bool false, .int .i64 0, .int .i64 0, .bool false, .bool false, .int .i64 0, .int .i64 0, .bool false, .bool false] 25 (0, 0))) (wv3).heap.size ⟨#[]⟩ ⟨#[]⟩ false false 0 0 false false 0 0 false false from ⟨heap_alloc_new _ _⟩)).all _ _ _ _ _ _ _ _ _ _ _ _, Fr.all (Fr.alloc (Fr.trans (Fr.trans (Fr.trans ((Fr.refl noB w4).drew) hV1) hV2) hV3) (.cells #[.string ⟨#[]⟩, .string ⟨#[]⟩, .bool false, .bool false, .int .i64 0, .int .i64 0, .bool false, .bool false, .int .i64 0, .int .i64 0, .bool false, .bool false] 25 (0, 0))) (Or.inr (show w4.heap.size ≤ (wv3).heap.size from Fr.size (Fr.trans (Fr.trans (Fr.trans ((Fr.refl noB w4).drew) hV1) hV2) hV3))) _ _ _ _ _ _ _ _ _ _ _ _⟩
          refine AllReadyH.cons rfl (fun K hK => ?_) AllReadyH.nil
          (with_reducible refine ite_in ?_ ?_)
          · kernel_rfl
          (with_reducible refine wp_val (.pointer (some ⟨(wv2).heap.size, 0, none⟩)) (w' := (wv2.alloc (.cells #[.string ⟨#[]⟩, .string ⟨#[]⟩, .bool false, .bool false, .int .i64 0, .int .i64 0, .bool false, .bool false, .int .i64 0, .int .i64 0, .bool false, .bool false] 25 (0, 0)))) ?_ ?_)
          · kernel_rfl
          refine hK.out _ _ (Fr.alloc (Fr.trans (Fr.trans ((Fr.refl noB w4).drew) hV1) hV2) _) (fun hHeld5 => ?_)
          clear hK K
          refine wpAnyH_ready (rs := [9]) (by kernel_rfl) (by simp) ?_
          refine AllReadyH.cons rfl (fun K hK => ?_) AllReadyH.nil
          (with_reducible refine ite_in ?_ ?_)
          · kernel_rfl
          (with_reducible refine wp_go 27 #[.agg #[.int .i64 T, .int .i64 L]] ?_ ?_)
          · kernel_rfl
          (with_reducible refine (HBa _).mono ?_)
          rintro e wv6 ⟨rfl, hV6⟩
          refine hK.out _ _ (Fr.trans (Fr.alloc (Fr.trans (Fr.trans ((Fr.refl noB w4).drew) hV1) hV2) (.cells #[.string ⟨#[]⟩, .string ⟨#[]⟩, .bool false, .bool false, .int .i64 0, .int .i64 0, .bool false, .bool false, .int .i64 0, .int .i64 0, .bool false, .bool false] 25 (0, 0))) hV6) (fun hHeld6 => ?_)
          clear hK K
          refine wpAnyH_take (i := 10) (v := (.agg #[.string t, .string u, .bool fx, .bool false, .int .i64 T, .int .i64 L, .bool false, .bool false, .int .i64 0, .int .i64 0, .bool false, .bool false])) rfl (by kernel_rfl) (by kernel_rfl) (by kernel_rfl) (fun _ _ _ h => h) (Or.inl ⟨by kernel_rfl, fun w hSw => by kernel_rfl⟩) hHeld6 ?_
          refine wpAnyH_ready (rs := [12]) (by kernel_rfl) (by simp) ?_
          refine AllReadyH.cons rfl (fun K hK => ?_) AllReadyH.nil
          (with_reducible refine ite_in ?_ ?_)
          · kernel_rfl
          have hSt := store_ref wv6 (wv2).heap.size t u fx false T L false false 0 0 false false (RAt.fr (show RAt (wv2.alloc (.cells #[.string ⟨#[]⟩, .string ⟨#[]⟩, .bool false, .bool false, .int .i64 0, .int .i64 0, .bool false, .bool false, .int .i64 0, .int .i64 0, .bool false, .bool false] 25 (0, 0))) (wv2).heap.size ⟨#[]⟩ ⟨#[]⟩ false false 0 0 false false 0 0 false false from ⟨heap_alloc_new _ _⟩) hV6 id)
          (with_reducible refine wp_storeR (.tmp 10) (.tmp 58) (.pointer (some ⟨(wv2).heap.size, 0, none⟩)) (.agg #[.string t, .string u, .bool fx, .bool false, .int .i64 T, .int .i64 L, .bool false, .bool false, .int .i64 0, .int .i64 0, .bool false, .bool false]) ?_ ?_ ?_ hSt ?_)
          · kernel_rfl
          · kernel_rfl
          · kernel_rfl
          clear hSt
          refine hK.out _ _ (Fr.all (Fr.trans (Fr.alloc (Fr.trans (Fr.trans ((Fr.refl noB w4).drew) hV1) hV2) (.cells #[.string ⟨#[]⟩, .string ⟨#[]⟩, .bool false, .bool false, .int .i64 0, .int .i64 0, .bool false, .bool false, .int .i64 0, .int .i64 0, .bool false, .bool false] 25 (0, 0))) hV6) (Or.inr (show w4.heap.size ≤ (wv2).heap.size from Fr.size (Fr.trans (Fr.trans ((Fr.refl noB w4).drew) hV1) hV2))) _ _ _ _ _ _ _ _ _ _ _ _) (fun _ => ?_)
          clear hK K
          refine wpAnyH_done (by kernel_rfl) ?_ _
          refine fr_to { tmps := #[.agg #[.string t, .string u, .bool fx, .bool ar, .int .i64 r1, .int .i64 c1, .bool x1, .bool y1, .int .i64 r2, .int .i64 c2, .bool x2, .bool y2], .agg #[.string t2, .string u2, .bool gx, .bool br, .int .i64 s1, .int .i64 d1, .bool z1, .bool v1, .int .i64 s2, .int .i64 d2, .bool z2, .bool v2], .pointer (some ⟨w.heap.size, 0, none⟩), .pointer (some ⟨w.heap.size + 1, 0, none⟩), .pointer (some ⟨w.heap.size + 1 + 1, 0, none⟩), .bool false, .pointer (some ⟨w1.heap.size, 0, none⟩), .pointer (some ⟨w1.heap.size + 1, 0, none⟩), .pointer (some ⟨w2.heap.size, 0, none⟩), .pointer (some ⟨w2.heap.size + 1, 0, none⟩), .pointer (some ⟨(wv2).heap.size, 0, none⟩), .tuple #[.agg #[.int .i64 lr, .int .i64 lc], .agg #[.int .i64 hr, .int .i64 hc]], .agg #[.string t, .string u, .bool fx, .bool ar, .int .i64 r1, .int .i64 c1, .bool x1, .bool y1, .int .i64 r2, .int .i64 c2, .bool x2, .bool y2], .tuple #[.agg #[.int .i64 lr, .int .i64 lc], .agg #[.int .i64 hr, .int .i64 hc]], .agg #[.int .i64 lr, .int .i64 lc], .agg #[.int .i64 hr, .int .i64 hc], .tuple #[.agg #[.int .i64 mr, .int .i64 mc], .agg #[.int .i64 nr, .int .i64 nc]], .agg #[.string t2, .string u2, .bool gx, .bool br, .int .i64 s1, .int .i64 d1, .bool z1, .bool v1, .int .i64 s2, .int .i64 d2, .bool z2, .bool v2], .tuple #[.agg #[.int .i64 mr, .int .i64 mc], .agg #[.int .i64 nr, .int .i64 nc]], .agg #[.int .i64 mr, .int .i64 mc], .agg #[.int .i64 nr, .int .i64 nc], .pointer (some ⟨w1.heap.size, 0, none⟩), .int .i64 lr, .pointer (some ⟨w2.heap.size, 0, none⟩), .int .i64 mr, .int .i64 T, .pointer (some ⟨w1.heap.size, 1, none⟩), .int .i64 lc, .pointer (some ⟨w2.heap.size, 1, none⟩), .int .i64 mc, .int .i64 L, .agg #[.int .i64 T, .int .i64 L], .pointer (some ⟨w1.heap.size + 1, 0, none⟩), .int .i64 hr, .pointer (some ⟨w2.heap.size + 1, 0, none⟩), .int .i64 nr, .int .i64 D, .pointer (some ⟨w1.heap.size + 1, 1, none⟩), .int .i64 hc, .pointer (some ⟨w2.heap.size + 1, 1, none⟩), .int .i64 nc, .int .i64 E, .agg #[.int .i64 D, .int .i64 E], .agg #[.int .i64 T, .int .i64 L], .agg #[.int .i64 D, .int .i64 E], .bool true, .bool false, undef, .pointer (some ⟨w.heap.size, 0, none⟩), .string t, .string t, .pointer (some ⟨w.heap.size, 1, none⟩), .string u, .string u, .pointer (some ⟨w.heap.size, 2, none⟩), .bool fx, .agg #[.int .i64 T, .int .i64 L], .agg #[.int .i64 T, .int .i64 L, .bool false, .bool false], (.agg #[.string t, .string u, .bool fx, .bool false, .int .i64 T, .int .i64 L, .bool false, .bool false, .int .i64 0, .int .i64 0, .bool false, .bool false]), undef, undef, undef, undef, undef, undef, undef, undef], defers := [] } (by kernel_rfl) ?_
          go_wp2_with fail
          go_meet
          exact ⟨(wv2).heap.size, rfl, (show w4.heap.size ≤ (wv2).heap.size from Fr.size (Fr.trans (Fr.trans ((Fr.refl noB w4).drew) hV1) hV2)), ((RAt.fr (show RAt (wv2.alloc (.cells #[.string ⟨#[]⟩, .string ⟨#[]⟩, .bool false, .bool false, .int .i64 0, .int .i64 0, .bool false, .bool false, .int .i64 0, .int .i64 0, .bool false, .bool false] 25 (0, 0))) (wv2).heap.size ⟨#[]⟩ ⟨#[]⟩ false false 0 0 false false 0 0 false false from ⟨heap_alloc_new _ _⟩) hV6 id)).all _ _ _ _ _ _ _ _ _ _ _ _, Fr.all (Fr.trans (Fr.alloc (Fr.trans (Fr.trans ((Fr.refl noB w4).drew) hV1) hV2) (.cells #[.string ⟨#[]⟩, .string ⟨#[]⟩, .bool false, .bool false, .int .i64 0, .int .i64 0, .bool false, .bool false, .int .i64 0, .int .i64 0, .bool false, .bool false] 25 (0, 0))) hV6) (Or.inr (show w4.heap.size ≤ (wv2).heap.size from Fr.size (Fr.trans (Fr.trans ((Fr.refl noB w4).drew) hV1) hV2))) _ _ _ _ _ _ _ _ _ _ _ _⟩
        refine AllReadyH.cons rfl (fun K hK => ?_) AllReadyH.nil
        (with_reducible refine ite_in ?_ ?_)
        · kernel_rfl
        (with_reducible refine wp_val (.pointer (some ⟨(wv1).heap.size, 0, none⟩)) (w' := (wv1.alloc (.cells #[.string ⟨#[]⟩, .string ⟨#[]⟩, .bool false, .bool false, .int .i64 0, .int .i64 0, .bool false, .bool false, .int .i64 0, .int .i64 0, .bool false, .bool false] 25 (0, 0)))) ?_ ?_)
        · kernel_rfl
        refine hK.out _ _ (Fr.alloc (Fr.trans ((Fr.refl noB w4).drew) hV1) _) (fun hHeld7 => ?_)
        clear hK K
        refine wpAnyH_ready (rs := [5]) (by kernel_rfl) (by simp) ?_
        refine AllReadyH.cons rfl (fun K hK => ?_) AllReadyH.nil
        (with_reducible refine ite_in ?_ ?_)
        · kernel_rfl
        (with_reducible refine wp_go 26 #[.string u] ?_ ?_)
        · kernel_rfl
        (with_reducible refine (HC2 _).mono ?_)
        rintro e wv8 ⟨rfl, hV8⟩
        refine hK.out _ _ (Fr.trans (Fr.alloc (Fr.trans ((Fr.refl noB w4).drew) hV1) (.cells #[.string ⟨#[]⟩, .string ⟨#[]⟩, .bool false, .bool false, .int .i64 0, .int .i64 0, .bool false, .bool false, .int .i64 0, .int .i64 0, .bool false, .bool false] 25 (0, 0))) hV8) (fun hHeld8 => ?_)
        clear hK K
        refine wpAnyH_ready (rs := [9]) (by kernel_rfl) (by simp) ?_
        refine AllReadyH.cons rfl (fun K hK => ?_) AllReadyH.nil
        (with_reducible refine ite_in ?_ ?_)
        · kernel_rfl
        (with_reducible refine wp_go 27 #[.agg #[.int .i64 T, .int .i64 L]] ?_ ?_)
        · kernel_rfl
        (with_reducible refine (HBa _).mono ?_)
        rintro e wv9 ⟨rfl, hV9⟩
        refine hK.out _ _ (Fr.trans (Fr.trans (Fr.alloc (Fr.trans ((Fr.refl noB w4).drew) hV1) (.cells #[.string ⟨#[]⟩, .string ⟨#[]⟩, .bool false, .bool false, .int .i64 0, .int .i64 0, .bool false, .bool false, .int .i64 0, .int .i64 0, .bool false, .bool false] 25 (0, 0))) hV8) hV9) (fun hHeld9 => ?_)
        clear hK K
        refine wpAnyH_take (i := 10) (v := (.agg #[.string t, .string u, .bool fx, .bool false, .int .i64 T, .int .i64 L, .bool false, .bool false, .int .i64 0, .int .i64 0, .bool false, .bool false])) rfl (by kernel_rfl) (by kernel_rfl) (by kernel_rfl) (fun _ _ _ h => h) (Or.inl ⟨by kernel_rfl, fun w hSw => by kernel_rfl⟩) hHeld9 ?_
        refine wpAnyH_ready (rs := [12]) (by kernel_rfl) (by simp) ?_
        refine AllReadyH.cons rfl (fun K hK => ?_) AllReadyH.nil
        (with_reducible refine ite_in ?_ ?_)
        · kernel_rfl
        have hSt := store_ref wv9 (wv1).heap.size t u fx false T L false false 0 0 false false (RAt.fr (RAt.fr (show RAt (wv1.alloc (.cells #[.string ⟨#[]⟩, .string ⟨#[]⟩, .bool false, .bool false, .int .i64 0, .int .i64 0, .bool false, .bool false, .int .i64 0, .int .i64 0, .bool false, .bool false] 25 (0, 0))) (wv1).heap.size ⟨#[]⟩ ⟨#[]⟩ false false 0 0 false false 0 0 false false from ⟨heap_alloc_new _ _⟩) hV8 id) hV9 id)
        (with_reducible refine wp_storeR (.tmp 10) (.tmp 58) (.pointer (some ⟨(wv1).heap.size, 0, none⟩)) (.agg #[.string t, .string u, .bool fx, .bool false, .int .i64 T, .int .i64 L, .bool false, .bool false, .int .i64 0, .int .i64 0, .bool false, .bool false]) ?_ ?_ ?_ hSt ?_)
        · kernel_rfl
        · kernel_rfl
        · kernel_rfl
        clear hSt
        refine hK.out _ _ (Fr.all (Fr.trans (Fr.trans (Fr.alloc (Fr.trans ((Fr.refl noB w4).drew) hV1) (.cells #[.string ⟨#[]⟩, .string ⟨#[]⟩, .bool false, .bool false, .int .i64 0, .int .i64 0, .bool false, .bool false, .int .i64 0, .int .i64 0, .bool false, .bool false] 25 (0, 0))) hV8) hV9) (Or.inr (show w4.heap.size ≤ (wv1).heap.size from Fr.size (Fr.trans ((Fr.refl noB w4).drew) hV1))) _ _ _ _ _ _ _ _ _ _ _ _) (fun _ => ?_)
        clear hK K
        refine wpAnyH_done (by kernel_rfl) ?_ _
        refine fr_to { tmps := #[.agg #[.string t, .string u, .bool fx, .bool ar, .int .i64 r1, .int .i64 c1, .bool x1, .bool y1, .int .i64 r2, .int .i64 c2, .bool x2, .bool y2], .agg #[.string t2, .string u2, .bool gx, .bool br, .int .i64 s1, .int .i64 d1, .bool z1, .bool v1, .int .i64 s2, .int .i64 d2, .bool z2, .bool v2], .pointer (some ⟨w.heap.size, 0, none⟩), .pointer (some ⟨w.heap.size + 1, 0, none⟩), .pointer (some ⟨w.heap.size + 1 + 1, 0, none⟩), .bool false, .pointer (some ⟨w1.heap.size, 0, none⟩), .pointer (some ⟨w1.heap.size + 1, 0, none⟩), .pointer (some ⟨w2.heap.size, 0, none⟩), .pointer (some ⟨w2.heap.size + 1, 0, none⟩), .pointer (some ⟨(wv1).heap.size, 0, none⟩), .tuple #[.agg #[.int .i64 lr, .int .i64 lc], .agg #[.int .i64 hr, .int .i64 hc]], .agg #[.string t, .string u, .bool fx, .bool ar, .int .i64 r1, .int .i64 c1, .bool x1, .bool y1, .int .i64 r2, .int .i64 c2, .bool x2, .bool y2], .tuple #[.agg #[.int .i64 lr, .int .i64 lc], .agg #[.int .i64 hr, .int .i64 hc]], .agg #[.int .i64 lr, .int .i64 lc], .agg #[.int .i64 hr, .int .i64 hc], .tuple #[.agg #[.int .i64 mr, .int .i64 mc], .agg #[.int .i64 nr, .int .i64 nc]], .agg #[.string t2, .string u2, .bool gx, .bool br, .int .i64 s1, .int .i64 d1, .bool z1, .bool v1, .int .i64 s2, .int .i64 d2, .bool z2, .bool v2], .tuple #[.agg #[.int .i64 mr, .int .i64 mc], .agg #[.int .i64 nr, .int .i64 nc]], .agg #[.int .i64 mr, .int .i64 mc], .agg #[.int .i64 nr, .int .i64 nc], .pointer (some ⟨w1.heap.size, 0, none⟩), .int .i64 lr, .pointer (some ⟨w2.heap.size, 0, none⟩), .int .i64 mr, .int .i64 T, .pointer (some ⟨w1.heap.size, 1, none⟩), .int .i64 lc, .pointer (some ⟨w2.heap.size, 1, none⟩), .int .i64 mc, .int .i64 L, .agg #[.int .i64 T, .int .i64 L], .pointer (some ⟨w1.heap.size + 1, 0, none⟩), .int .i64 hr, .pointer (some ⟨w2.heap.size + 1, 0, none⟩), .int .i64 nr, .int .i64 D, .pointer (some ⟨w1.heap.size + 1, 1, none⟩), .int .i64 hc, .pointer (some ⟨w2.heap.size + 1, 1, none⟩), .int .i64 nc, .int .i64 E, .agg #[.int .i64 D, .int .i64 E], .agg #[.int .i64 T, .int .i64 L], .agg #[.int .i64 D, .int .i64 E], .bool true, .bool false, undef, .pointer (some ⟨w.heap.size, 0, none⟩), .string t, .string t, .pointer (some ⟨w.heap.size, 1, none⟩), .string u, .string u, .pointer (some ⟨w.heap.size, 2, none⟩), .bool fx, .agg #[.int .i64 T, .int .i64 L], .agg #[.int .i64 T, .int .i64 L, .bool false, .bool false], (.agg #[.string t, .string u, .bool fx, .bool false, .int .i64 T, .int .i64 L, .bool false, .bool false, .int .i64 0, .int .i64 0, .bool false, .bool false]), undef, undef, undef, undef, undef, undef, undef, undef], defers := [] } (by kernel_rfl) ?_
        go_wp2_with fail
        go_meet
        exact ⟨(wv1).heap.size, rfl, (show w4.heap.size ≤ (wv1).heap.size from Fr.size (Fr.trans ((Fr.refl noB w4).drew) hV1)), ((RAt.fr (RAt.fr (show RAt (wv1.alloc (.cells #[.string ⟨#[]⟩, .string ⟨#[]⟩, .bool false, .bool false, .int .i64 0, .int .i64 0, .bool false, .bool false, .int .i64 0, .int .i64 0, .bool false, .bool false] 25 (0, 0))) (wv1).heap.size ⟨#[]⟩ ⟨#[]⟩ false false 0 0 false false 0 0 false false from ⟨heap_alloc_new _ _⟩) hV8 id) hV9 id)).all _ _ _ _ _ _ _ _ _ _ _ _, Fr.all (Fr.trans (Fr.trans (Fr.alloc (Fr.trans ((Fr.refl noB w4).drew) hV1) (.cells #[.string ⟨#[]⟩, .string ⟨#[]⟩, .bool false, .bool false, .int .i64 0, .int .i64 0, .bool false, .bool false, .int .i64 0, .int .i64 0, .bool false, .bool false] 25 (0, 0))) hV8) hV9) (Or.inr (show w4.heap.size ≤ (wv1).heap.size from Fr.size (Fr.trans ((Fr.refl noB w4).drew) hV1))) _ _ _ _ _ _ _ _ _ _ _ _⟩
      refine AllReadyH.cons rfl (fun K hK => ?_) AllReadyH.nil
      (with_reducible refine ite_in ?_ ?_)
      · kernel_rfl
      (with_reducible refine wp_val (.pointer (some ⟨(w4.drew).heap.size, 0, none⟩)) (w' := (w4.drew.alloc (.cells #[.string ⟨#[]⟩, .string ⟨#[]⟩, .bool false, .bool false, .int .i64 0, .int .i64 0, .bool false, .bool false, .int .i64 0, .int .i64 0, .bool false, .bool false] 25 (0, 0)))) ?_ ?_)
      · kernel_rfl
      refine hK.out _ _ (Fr.alloc ((Fr.refl noB w4).drew) _) (fun hHeld10 => ?_)
      clear hK K
      refine wpAnyH_ready (rs := [2]) (by kernel_rfl) (by simp) ?_
      refine AllReadyH.cons rfl (fun K hK => ?_) AllReadyH.nil
      (with_reducible refine ite_in ?_ ?_)
      · kernel_rfl
      (with_reducible refine wp_go 26 #[.string t] ?_ ?_)
      · kernel_rfl
      (with_reducible refine (HC1 _).mono ?_)
      rintro e wv11 ⟨rfl, hV11⟩
      refine hK.out _ _ (Fr.trans (Fr.alloc ((Fr.refl noB w4).drew) (.cells #[.string ⟨#[]⟩, .string ⟨#[]⟩, .bool false, .bool false, .int .i64 0, .int .i64 0, .bool false, .bool false, .int .i64 0, .int .i64 0, .bool false, .bool false] 25 (0, 0))) hV11) (fun hHeld11 => ?_)
      clear hK K
      refine wpAnyH_ready (rs := [5]) (by kernel_rfl) (by simp) ?_
      refine AllReadyH.cons rfl (fun K hK => ?_) AllReadyH.nil
      (with_reducible refine ite_in ?_ ?_)
      · kernel_rfl
      (with_reducible refine wp_go 26 #[.string u] ?_ ?_)
      · kernel_rfl
      (with_reducible refine (HC2 _).mono ?_)
      rintro e wv12 ⟨rfl, hV12⟩
      refine hK.out _ _ (Fr.trans (Fr.trans (Fr.alloc ((Fr.refl noB w4).drew) (.cells #[.string ⟨#[]⟩, .string ⟨#[]⟩, .bool false, .bool false, .int .i64 0, .int .i64 0, .bool false, .bool false, .int .i64 0, .int .i64 0, .bool false, .bool false] 25 (0, 0))) hV11) hV12) (fun hHeld12 => ?_)
      clear hK K
      refine wpAnyH_ready (rs := [9]) (by kernel_rfl) (by simp) ?_
      refine AllReadyH.cons rfl (fun K hK => ?_) AllReadyH.nil
      (with_reducible refine ite_in ?_ ?_)
      · kernel_rfl
      (with_reducible refine wp_go 27 #[.agg #[.int .i64 T, .int .i64 L]] ?_ ?_)
      · kernel_rfl
      (with_reducible refine (HBa _).mono ?_)
      rintro e wv13 ⟨rfl, hV13⟩
      refine hK.out _ _ (Fr.trans (Fr.trans (Fr.trans (Fr.alloc ((Fr.refl noB w4).drew) (.cells #[.string ⟨#[]⟩, .string ⟨#[]⟩, .bool false, .bool false, .int .i64 0, .int .i64 0, .bool false, .bool false, .int .i64 0, .int .i64 0, .bool false, .bool false] 25 (0, 0))) hV11) hV12) hV13) (fun hHeld13 => ?_)
      clear hK K
      refine wpAnyH_take (i := 10) (v := (.agg #[.string t, .string u, .bool fx, .bool false, .int .i64 T, .int .i64 L, .bool false, .bool false, .int .i64 0, .int .i64 0, .bool false, .bool false])) rfl (by kernel_rfl) (by kernel_rfl) (by kernel_rfl) (fun _ _ _ h => h) (Or.inl ⟨by kernel_rfl, fun w hSw => by kernel_rfl⟩) hHeld13 ?_
      refine wpAnyH_ready (rs := [12]) (by kernel_rfl) (by simp) ?_
      refine AllReadyH.cons rfl (fun K hK => ?_) AllReadyH.nil
      (with_reducible refine ite_in ?_ ?_)
      · kernel_rfl
      have hSt := store_ref wv13 (w4.drew).heap.size t u fx false T L false false 0 0 false false (RAt.fr (RAt.fr (RAt.fr (show RAt (w4.drew.alloc (.cells #[.string ⟨#[]⟩, .string ⟨#[]⟩, .bool false, .bool false, .int .i64 0, .int .i64 0, .bool false, .bool false, .int .i64 0, .int .i64 0, .bool false, .bool false] 25 (0, 0))) (w4.drew).heap.size ⟨#[]⟩ ⟨#[]⟩ false false 0 0 false false 0 0 false false from ⟨heap_alloc_new _ _⟩) hV11 id) hV12 id) hV13 id)
      (with_reducible refine wp_storeR (.tmp 10) (.tmp 58) (.pointer (some ⟨(w4.drew).heap.size, 0, none⟩)) (.agg #[.string t, .string u, .bool fx, .bool false, .int .i64 T, .int .i64 L, .bool false, .bool false, .int .i64 0, .int .i64 0, .bool false, .bool false]) ?_ ?_ ?_ hSt ?_)
      · kernel_rfl
      · kernel_rfl
      · kernel_rfl
      clear hSt
      refine hK.out _ _ (Fr.all (Fr.trans (Fr.trans (Fr.trans (Fr.alloc ((Fr.refl noB w4).drew) (.cells #[.string ⟨#[]⟩, .string ⟨#[]⟩, .bool false, .bool false, .int .i64 0, .int .i64 0, .bool false, .bool false, .int .i64 0, .int .i64 0, .bool false, .bool false] 25 (0, 0))) hV11) hV12) hV13) (Or.inr (show w4.heap.size ≤ (w4.drew).heap.size from Fr.size ((Fr.refl noB w4).drew))) _ _ _ _ _ _ _ _ _ _ _ _) (fun _ => ?_)
      clear hK K
      refine wpAnyH_done (by kernel_rfl) ?_ _
      refine fr_to { tmps := #[.agg #[.string t, .string u, .bool fx, .bool ar, .int .i64 r1, .int .i64 c1, .bool x1, .bool y1, .int .i64 r2, .int .i64 c2, .bool x2, .bool y2], .agg #[.string t2, .string u2, .bool gx, .bool br, .int .i64 s1, .int .i64 d1, .bool z1, .bool v1, .int .i64 s2, .int .i64 d2, .bool z2, .bool v2], .pointer (some ⟨w.heap.size, 0, none⟩), .pointer (some ⟨w.heap.size + 1, 0, none⟩), .pointer (some ⟨w.heap.size + 1 + 1, 0, none⟩), .bool false, .pointer (some ⟨w1.heap.size, 0, none⟩), .pointer (some ⟨w1.heap.size + 1, 0, none⟩), .pointer (some ⟨w2.heap.size, 0, none⟩), .pointer (some ⟨w2.heap.size + 1, 0, none⟩), .pointer (some ⟨(w4.drew).heap.size, 0, none⟩), .tuple #[.agg #[.int .i64 lr, .int .i64 lc], .agg #[.int .i64 hr, .int .i64 hc]], .agg #[.string t, .string u, .bool fx, .bool ar, .int .i64 r1, .int .i64 c1, .bool x1, .bool y1, .int .i64 r2, .int .i64 c2, .bool x2, .bool y2], .tuple #[.agg #[.int .i64 lr, .int .i64 lc], .agg #[.int .i64 hr, .int .i64 hc]], .agg #[.int .i64 lr, .int .i64 lc], .agg #[.int .i64 hr, .int .i64 hc], .tuple #[.agg #[.int .i64 mr, .int .i64 mc], .agg #[.int .i64 nr, .int .i64 nc]], .agg #[.string t2, .string u2, .bool gx, .bool br, .int .i64 s1, .int .i64 d1, .bool z1, .bool v1, .int .i64 s2, .int .i64 d2, .bool z2, .bool v2], .tuple #[.agg #[.int .i64 mr, .int .i64 mc], .agg #[.int .i64 nr, .int .i64 nc]], .agg #[.int .i64 mr, .int .i64 mc], .agg #[.int .i64 nr, .int .i64 nc], .pointer (some ⟨w1.heap.size, 0, none⟩), .int .i64 lr, .pointer (some ⟨w2.heap.size, 0, none⟩), .int .i64 mr, .int .i64 T, .pointer (some ⟨w1.heap.size, 1, none⟩), .int .i64 lc, .pointer (some ⟨w2.heap.size, 1, none⟩), .int .i64 mc, .int .i64 L, .agg #[.int .i64 T, .int .i64 L], .pointer (some ⟨w1.heap.size + 1, 0, none⟩), .int .i64 hr, .pointer (some ⟨w2.heap.size + 1, 0, none⟩), .int .i64 nr, .int .i64 D, .pointer (some ⟨w1.heap.size + 1, 1, none⟩), .int .i64 hc, .pointer (some ⟨w2.heap.size + 1, 1, none⟩), .int .i64 nc, .int .i64 E, .agg #[.int .i64 D, .int .i64 E], .agg #[.int .i64 T, .int .i64 L], .agg #[.int .i64 D, .int .i64 E], .bool true, .bool false, undef, .pointer (some ⟨w.heap.size, 0, none⟩), .string t, .string t, .pointer (some ⟨w.heap.size, 1, none⟩), .string u, .string u, .pointer (some ⟨w.heap.size, 2, none⟩), .bool fx, .agg #[.int .i64 T, .int .i64 L], .agg #[.int .i64 T, .int .i64 L, .bool false, .bool false], (.agg #[.string t, .string u, .bool fx, .bool false, .int .i64 T, .int .i64 L, .bool false, .bool false, .int .i64 0, .int .i64 0, .bool false, .bool false]), undef, undef, undef, undef, undef, undef, undef, undef], defers := [] } (by kernel_rfl) ?_
      go_wp2_with fail
      go_meet
      exact ⟨(w4.drew).heap.size, rfl, (show w4.heap.size ≤ (w4.drew).heap.size from Fr.size ((Fr.refl noB w4).drew)), ((RAt.fr (RAt.fr (RAt.fr (show RAt (w4.drew.alloc (.cells #[.string ⟨#[]⟩, .string ⟨#[]⟩, .bool false, .bool false, .int .i64 0, .int .i64 0, .bool false, .bool false, .int .i64 0, .int .i64 0, .bool false, .bool false] 25 (0, 0))) (w4.drew).heap.size ⟨#[]⟩ ⟨#[]⟩ false false 0 0 false false 0 0 false false from ⟨heap_alloc_new _ _⟩) hV11 id) hV12 id) hV13 id)).all _ _ _ _ _ _ _ _ _ _ _ _, Fr.all (Fr.trans (Fr.trans (Fr.trans (Fr.alloc ((Fr.refl noB w4).drew) (.cells #[.string ⟨#[]⟩, .string ⟨#[]⟩, .bool false, .bool false, .int .i64 0, .int .i64 0, .bool false, .bool false, .int .i64 0, .int .i64 0, .bool false, .bool false] 25 (0, 0))) hV11) hV12) hV13) (Or.inr (show w4.heap.size ≤ (w4.drew).heap.size from Fr.size ((Fr.refl noB w4).drew))) _ _ _ _ _ _ _ _ _ _ _ _⟩
    case rest =>
      obtain ⟨rk, rfl, hrk, hRk, hFc⟩ := hcut
      have hLc := hL4.fr hFc id
      have hHc := hH4.fr hFc id
      have hOc := hO4.fr hFc id
      have HFc : Hid (Fr noB w wc) := HF4.out.trans hFc
      have a0 := hLc.c0; have a1 := hLc.c1; have b0 := hHc.c0; have b1 := hHc.c1
      by_cases hone : T = D ∧ L = E
      · obtain ⟨rfl, rfl⟩ := hone
        have HV : Hid (comV t u fx ⟨T, L, T, L⟩ = .tuple #[(.agg #[.string t, .string u, .bool fx, .bool false, .int .i64 T, .int .i64 L, .bool false, .bool false, .int .i64 0, .int .i64 0, .bool false, .bool false]), .bool true]) := by
          show comV t u fx ⟨T, L, T, L⟩ = _
          rw [HY.out, if_pos trivial, if_pos ⟨rfl, rfl⟩]
        clear HY
        have k0 := hRk.g0; have k1 := hRk.g1; have k2 := hRk.g2; have k3 := hRk.g3; have k4 := hRk.g4; have k5 := hRk.g5; have k6 := hRk.g6; have k7 := hRk.g7; have k8 := hRk.g8; have k9 := hRk.g9; have k10 := hRk.g10; have k11 := hRk.g11
        have o0 := hOc.g0; have o1 := hOc.g1; have o2 := hOc.g2; have o3 := hOc.g3; have o4 := hOc.g4; have o5 := hOc.g5; have o6 := hOc.g6; have o7 := hOc.g7; have o8 := hOc.g8; have o9 := hOc.g9; have o10 := hOc.g10; have o11 := hOc.g11
        have of := hOc.f
        go_wp2_with fail
        rw [HV.out]
        exact bodyPost_ret (rret2 Tryd.results10 _ _ (w.heap.size + 1 + 1) rfl rfl (hOc.all _ _ _ _ _ _ _ _ _ _ _ _)) rfl ⟨rfl, HFc.out.all (Or.inr (by omega)) _ _ _ _ _ _ _ _ _ _ _ _⟩
      · have hne : ¬ T = D ∨ (T = D ∧ ¬ L = E) := by
          by_cases h : T = D
          · exact Or.inr ⟨h, fun h2 => hone ⟨h, h2⟩⟩
          · exact Or.inl h
        have HV : Hid (comV t u fx ⟨T, L, D, E⟩ = .tuple #[(.agg #[.string t, .string u, .bool fx, .bool true, .int .i64 T, .int .i64 L, .bool false, .bool false, .int .i64 D, .int .i64 E, .bool false, .bool false]), .bool true]) := by
          show comV t u fx ⟨T, L, D, E⟩ = _
          rw [HY.out, if_pos trivial, if_neg hone]
        clear hone HY
        have kf := hRk.f
        have k3 := hRk.g3
        have HX : Hid (∀ w5 : World, Fr noB (wc.setCell ⟨rk, 3, none⟩ (.bool true)) w5 → RAt (((((w5.setCell ⟨rk, 8, none⟩ (.int .i64 D)).setCell ⟨rk, 9, none⟩ (.int .i64 E)).setCell ⟨rk, 10, none⟩ (.bool false)).setCell ⟨rk, 11, none⟩ (.bool false))) rk t u fx true T L false false D E false false ∧ RAt (((((w5.setCell ⟨rk, 8, none⟩ (.int .i64 D)).setCell ⟨rk, 9, none⟩ (.int .i64 E)).setCell ⟨rk, 10, none⟩ (.bool false)).setCell ⟨rk, 11, none⟩ (.bool false))) (w.heap.size + 1 + 1) ⟨#[]⟩ ⟨#[]⟩ false false 0 0 false false 0 0 false false ∧ Fr noB w (((((w5.setCell ⟨rk, 8, none⟩ (.int .i64 D)).setCell ⟨rk, 9, none⟩ (.int .i64 E)).setCell ⟨rk, 10, none⟩ (.bool false)).setCell ⟨rk, 11, none⟩ (.bool false))) ∧ RAt w5 rk t u fx true T L false false 0 0 false false) := fun w5 h => by
          have r5 := (hRk.s3 true).fr h id
          have o5 := (hOc.setO rk 3 (.bool true) (by omega)).fr h id
          have f5 := (HFc.out.setCell ⟨rk, 3, none⟩ (Or.inr (by show w.heap.size ≤ rk; omega)) (.bool true)).trans h
          exact ⟨(((r5.s8 D).s9 E).s10 false).s11 false, (((o5.setO _ _ _ (by omega)).setO _ _ _ (by omega)).setO _ _ _ (by omega)).setO _ _ _ (by omega), (((f5.setCell ⟨rk, 8, none⟩ (Or.inr (by show w.heap.size ≤ rk; omega)) _).setCell ⟨rk, 9, none⟩ (Or.inr (by show w.heap.size ≤ rk; omega)) _).setCell ⟨rk, 10, none⟩ (Or.inr (by show w.heap.size ≤ rk; omega)) _).setCell ⟨rk, 11, none⟩ (Or.inr (by show w.heap.size ≤ rk; omega)) _, r5⟩
        have hH5 := hHc.setO rk 3 (.bool true) (by have := lt_of_block hH4.o; omega)
        have d0 := hH5.c0; have d1 := hH5.c1
        rcases hne with hne | ⟨rfl, hne⟩
        all_goals
          go_wp2_with (go_at_call 27; refine (HBb _).mono ?_; rintro e w5 ⟨rfl, hF5⟩; obtain ⟨x1', x2', x3', x4'⟩ := HX.out w5 hF5; have k0' := x1'.g0; have k1' := x1'.g1; have k2' := x1'.g2; have k3' := x1'.g3; have k4' := x1'.g4; have k5' := x1'.g5; have k6' := x1'.g6; have k7' := x1'.g7; have k8' := x1'.g8; have k9' := x1'.g9; have k10' := x1'.g10; have k11' := x1'.g11; have o0 := x2'.g0; have o1 := x2'.g1; have o2 := x2'.g2; have o3 := x2'.g3; have o4 := x2'.g4; have o5 := x2'.g5; have o6 := x2'.g6; have o7 := x2'.g7; have o8 := x2'.g8; have o9 := x2'.g9; have o10 := x2'.g10; have o11 := x2'.g11; have of := x2'.f; have r8 := x4'.g8; have r9 := x4'.g9; have r10 := x4'.g10; have r11 := x4'.g11; have rf := x4'.f)
          rw [HV.out]
          exact bodyPost_ret (rret2 Tryd.results10 _ _ (w.heap.size + 1 + 1) rfl rfl (x2'.all _ _ _ _ _ _ _ _ _ _ _ _)) rfl ⟨rfl, x3'.all (Or.inr (by omega)) _ _ _ _ _ _ _ _ _ _ _ _⟩
#print axioms common_any
end Go.Proofs.YtiokbpknaldbaaaDoor
