/- ArrayMakes: the law's walk. -/
import Derived.Test.YtaobnfjkggpdlaaGreatDoorAMkW
namespace Go.Proofs.YtaobnfjkggpdlaaGreatDoor
open Go.RowKit Ieee Go.Shelf
attribute [local go_sem] run_store_float

set_option maxRecDepth 100000 in
set_option maxHeartbeats 8000000 in
theorem makes_ok (r c : Int) (ao : Option Addr) (cap : Nat) (L : List Vv) (rf ms : Bool) (gr gc : Int) (go_ : Option Addr) (gcap : Nat) (P : List Pl) (w : World) (hA : VsAt w ao L) (hl : L.length ≤ 140737488355328) (hV : ∀ y ∈ L, Vok y) (hG : PsAt w go_ P) (hlg : P.length ≤ 140737488355328) (hVg : ∀ p ∈ P, Vok p.v) (hU : U8 w) (hE : arrF ckV r c L = 0) :
    Calls Tryz.prog 3 #[.agg #[.int .i64 r, .int .i64 c, .slice ao L.length cap], .agg #[.bool rf, .bool ms, .int .i64 gr, .int .i64 gc, .slice go_ P.length gcap]] w fun e w' => e = .returned (.bool true) ∧ Fr noB w w' := by
  have HB : Hid (∀ W, Fr noB w W → Calls Tryz.prog 9 #[] W fun e w' => e = .returned (.bool true) ∧ Fr noB W w') := fun W h => begun_true W (hU.fr h)
  have HM : Hid (∀ W, Fr noB w W → Calls Tryz.prog 10 #[.int .i64 r, .int .i64 c, .slice ao L.length cap] W fun e w' => ∃ so sc, e = .returned (.tuple #[.agg #[.int .i64 r, .int .i64 c, .slice so L.length sc], .int .i64 0]) ∧ VsAt w' so L ∧ (∀ b o, so = some ⟨b, o, none⟩ → W.heap.size ≤ b) ∧ Fr noB W w') := fun W h => make_ok r c ao cap L W (hA.keep h) hV (hU.fr h) hE
  have HC : Hid (∀ W, Fr noB w W → Calls Tryz.prog 12 #[.agg #[.int .i64 r, .int .i64 c, .slice ao L.length cap]] W fun e w' => e = .returned (.int .i64 0) ∧ Fr noB W w') := fun W h => by
    have hh := pcheckA r c ao cap L W (hA.keep h) hV (hU.fr h)
    rw [hE] at hh
    exact hh
  have HR : Hid (∀ W, Fr noB w W → Calls Tryz.prog 11 #[.agg #[.int .i64 r, .int .i64 c, .slice ao L.length cap]] W fun e w' => e = .returned (.int .i64 0) ∧ Fr noB W w') := fun W h => by
    have hh := rcheckA r c ao cap L W (hA.keep h) hV (hU.fr h)
    rw [hE] at hh
    exact hh
  obtain ⟨Q, hQ⟩ : ∃ Q, argF ckV ms gr gc P = Q := ⟨_, rfl⟩
  have HP : Hid (∀ W, Fr noB w W → Calls Tryz.prog 13 #[.agg #[.bool rf, .bool ms, .int .i64 gr, .int .i64 gc, .slice go_ P.length gcap]] W fun e w' => e = .returned (.int .i64 Q) ∧ Fr noB W w') := fun W h => by
    have hh := parg_any rf ms gr gc go_ gcap P W (hG.keep h) hlg hVg (hU.fr h)
    rw [hQ] at hh
    exact hh
  have HD : Hid (∀ W, Fr noB w W → Calls Tryz.prog 14 #[.agg #[.bool rf, .bool ms, .int .i64 gr, .int .i64 gc, .slice go_ P.length gcap]] W fun e w' => e = .returned (.int .i64 Q) ∧ Fr noB W w') := fun W h => by
    have hh := rarg_any rf ms gr gc go_ gcap P W (hG.keep h) hlg hVg (hU.fr h)
    rw [hQ] at hh
    exact hh
  have HV : Hid (∀ W, Fr noB w W → VsAt W ao L) := fun W h => hA.keep h
  have HL : Hid (L.length ≤ 140737488355328) := hl
  have hX : AAt ((w.alloc (.cells #[.int .i64 r, .int .i64 c, .slice ao L.length cap] 24 (0, 0))).alloc (.cells #[.bool rf, .bool ms, .int .i64 gr, .int .i64 gc, .slice go_ P.length gcap] 27 (0, 0))) w.heap.size r c ao L.length cap := ⟨old1 (new1 _ _ _ rfl)⟩
  have hY : GAt ((w.alloc (.cells #[.int .i64 r, .int .i64 c, .slice ao L.length cap] 24 (0, 0))).alloc (.cells #[.bool rf, .bool ms, .int .i64 gr, .int .i64 gc, .slice go_ P.length gcap] 27 (0, 0))) (w.heap.size + 1) rf ms gr gc go_ P.length gcap := ⟨new1 _ _ _ (by simp)⟩
  have HX : Hid (∀ W, Fr noB ((w.alloc (.cells #[.int .i64 r, .int .i64 c, .slice ao L.length cap] 24 (0, 0))).alloc (.cells #[.bool rf, .bool ms, .int .i64 gr, .int .i64 gc, .slice go_ P.length gcap] 27 (0, 0))) W → W.cell? ⟨w.heap.size, 0, none⟩ = some (.int .i64 r) ∧ W.cell? ⟨w.heap.size, 1, none⟩ = some (.int .i64 c) ∧ W.cell? ⟨w.heap.size, 2, none⟩ = some (.slice ao L.length cap) ∧ W.cell? ⟨w.heap.size + 1, 0, none⟩ = some (.bool rf) ∧ W.cell? ⟨w.heap.size + 1, 1, none⟩ = some (.bool ms) ∧ W.cell? ⟨w.heap.size + 1, 2, none⟩ = some (.int .i64 gr) ∧ W.cell? ⟨w.heap.size + 1, 3, none⟩ = some (.int .i64 gc) ∧ W.cell? ⟨w.heap.size + 1, 4, none⟩ = some (.slice go_ P.length gcap)) := fun W h => ⟨cellOf (o := 0) (hX.fr h id).o rfl, cellOf (o := 1) (hX.fr h id).o rfl, cellOf (o := 2) (hX.fr h id).o rfl, (hY.fr h id).c0, (hY.fr h id).c1, (hY.fr h id).c2, (hY.fr h id).c3, (hY.fr h id).c4⟩
  have HF0 : Hid (Fr noB w ((w.alloc (.cells #[.int .i64 r, .int .i64 c, .slice ao L.length cap] 24 (0, 0))).alloc (.cells #[.bool rf, .bool ms, .int .i64 gr, .int .i64 gc, .slice go_ P.length gcap] 27 (0, 0)))) := ((Fr.refl noB w).alloc _).alloc _
  have q1 : (Q != Q) = false := by simp
  skip
  skip
  skip
  clear hA hl hV hG hlg hVg hU hE hQ hX hY
  go_enter Tryz.func3, Tryz.ntmps3
  go_wp2_with (first
    | (go_at_call 9; refine (HB.out _ HF0.out).mono ?_; rintro e w1 ⟨rfl, hF1⟩; obtain ⟨x0, x1, x2, _⟩ := HX.out _ hF1)
    | (go_at_call 10; refine (HM.out _ (HF0.out.trans hF1)).mono ?_; rintro e w2 ⟨so, sc, rfl, hV2, hb2, hF2⟩; obtain ⟨z0, z1, z2, _⟩ := HX.out _ ((hF1.trans hF2).alloc (.cells #[.int .i64 r, .int .i64 c, .slice so L.length sc] 24 (0, 0))))
    | (go_at_call 11; refine (HR.out _ (HF0.out.trans ((hF1.trans hF2).alloc _))).mono ?_; rintro e w3 ⟨rfl, hF3⟩))
  have hX3 : AAt w3 w2.heap.size r c so L.length sc := AAt.fr (show AAt (w2.alloc (.cells #[.int .i64 r, .int .i64 c, .slice so L.length sc] 24 (0, 0))) w2.heap.size r c so L.length sc from ⟨new1 _ _ _ rfl⟩) hF3 id
  have hF4 : Fr noB ((w.alloc (.cells #[.int .i64 r, .int .i64 c, .slice ao L.length cap] 24 (0, 0))).alloc (.cells #[.bool rf, .bool ms, .int .i64 gr, .int .i64 gc, .slice go_ P.length gcap] 27 (0, 0))) w3 := ((hF1.trans hF2).alloc _).trans hF3
  have HF4 : Hid (Fr noB ((w.alloc (.cells #[.int .i64 r, .int .i64 c, .slice ao L.length cap] 24 (0, 0))).alloc (.cells #[.bool rf, .bool ms, .int .i64 gr, .int .i64 gc, .slice go_ P.length gcap] 27 (0, 0))) w3) := hF4
  have HV3 : Hid (VsAt w3 so L) := (hV2.keep ((Fr.refl noB w2).alloc _)).keep hF3
  have HX3 : Hid (∀ W, Fr noB w3 W → AAt W w2.heap.size r c so L.length sc) := fun W h => hX3.fr h id
  have HZ : Hid (∀ W, Fr noB w3 W → W.cell? ⟨w.heap.size, 0, none⟩ = some (.int .i64 r) ∧ W.cell? ⟨w.heap.size, 1, none⟩ = some (.int .i64 c) ∧ W.cell? ⟨w.heap.size, 2, none⟩ = some (.slice ao L.length cap) ∧ W.cell? ⟨w.heap.size + 1, 0, none⟩ = some (.bool rf) ∧ W.cell? ⟨w.heap.size + 1, 1, none⟩ = some (.bool ms) ∧ W.cell? ⟨w.heap.size + 1, 2, none⟩ = some (.int .i64 gr) ∧ W.cell? ⟨w.heap.size + 1, 3, none⟩ = some (.int .i64 gc) ∧ W.cell? ⟨w.heap.size + 1, 4, none⟩ = some (.slice go_ P.length gcap)) := fun W h => HX.out W (hF4.trans h)
  clear hX3 hF4 hF1 hF2 hF3 x0 x1 x2 z0 z1 z2 hV2 hb2
  generalize w2.heap.size = g at *
  go_region_held3 (fun W => W.cell? ⟨w.heap.size, 0, none⟩ = some (.int .i64 r) ∧ W.cell? ⟨w.heap.size, 1, none⟩ = some (.int .i64 c) ∧ W.cell? ⟨w.heap.size, 2, none⟩ = some (.slice ao L.length cap) ∧ W.cell? ⟨w.heap.size + 1, 0, none⟩ = some (.bool rf) ∧ W.cell? ⟨w.heap.size + 1, 1, none⟩ = some (.bool ms) ∧ W.cell? ⟨w.heap.size + 1, 2, none⟩ = some (.int .i64 gr) ∧ W.cell? ⟨w.heap.size + 1, 3, none⟩ = some (.int .i64 gc) ∧ W.cell? ⟨w.heap.size + 1, 4, none⟩ = some (.slice go_ P.length gcap))
    (exact HZ.out _ (by repeat first | assumption | exact Fr.refl _ _ | exact Fr.drew (by assumption) | exact (Fr.refl _ _).drew | refine Fr.trans ?_ (by assumption)))
    (first
      | (go_at_call 12; with_reducible refine (HC.out _ (HF0.out.trans (HF4.out.trans (by repeat first | assumption | exact Fr.refl _ _ | exact Fr.drew (by assumption) | exact (Fr.refl _ _).drew | refine Fr.trans ?_ (by assumption))))).mono ?_; rintro e w5 ⟨rfl, hF5⟩)
      | (go_at_call 13; with_reducible refine (HP.out _ (HF0.out.trans (HF4.out.trans (by repeat first | assumption | exact Fr.refl _ _ | exact Fr.drew (by assumption) | exact (Fr.refl _ _).drew | refine Fr.trans ?_ (by assumption))))).mono ?_; rintro e w6 ⟨rfl, hF6⟩)
      | (go_at_call 14; with_reducible refine (HD.out _ (HF0.out.trans (HF4.out.trans (by repeat first | assumption | exact Fr.refl _ _ | exact Fr.drew (by assumption) | exact (Fr.refl _ _).drew | refine Fr.trans ?_ (by assumption))))).mono ?_; rintro e w7 ⟨rfl, hF7⟩))
  have hF8 : Fr noB w3 w7 := (by repeat first | assumption | exact Fr.refl _ _ | exact Fr.drew (by assumption) | exact (Fr.refl _ _).drew | refine Fr.trans ?_ (by assumption))
  have hX7 := HX3.out _ hF8
  have p0 := cellOf (o := 0) hX7.o rfl
  have p1 := cellOf (o := 1) hX7.o rfl
  have p2 := cellOf (o := 2) hX7.o rfl
  obtain ⟨z0, z1, z2, _⟩ := HZ.out _ hF8
  have hF9 : Fr noB w w7 := HF0.out.trans (HF4.out.trans hF8)
  have HS := samearr_self r c so ao sc cap L w7 (HV3.out.keep hF8) (HV.out _ hF9) HL.out
  skip
  have HF9 : Hid (Fr noB w w7) := hF9
  clear hX7 hF5 hF6 hF7 hF8 hF9
  go_wp2_with (go_at_call 15; refine HS.mono ?_; rintro e w9 ⟨rfl, hF9⟩)
  go_ret
  exact ⟨rfl, HF9.out.trans hF9⟩
set_option maxRecDepth 100000 in
set_option maxHeartbeats 8000000 in
theorem makes_no (r c : Int) (ao : Option Addr) (cap : Nat) (L : List Vv) (rf ms : Bool) (gr gc : Int) (go_ : Option Addr) (gcap : Nat) (P : List Pl) (w : World) (hA : VsAt w ao L) (hl : L.length ≤ 140737488355328) (hV : ∀ y ∈ L, Vok y) (hG : PsAt w go_ P) (hlg : P.length ≤ 140737488355328) (hVg : ∀ p ∈ P, Vok p.v) (hU : U8 w) (E : Int) (hE : arrF ckV r c L = E) (hne : E ≠ 0) :
    Calls Tryz.prog 3 #[.agg #[.int .i64 r, .int .i64 c, .slice ao L.length cap], .agg #[.bool rf, .bool ms, .int .i64 gr, .int .i64 gc, .slice go_ P.length gcap]] w fun e w' => e = .returned (.bool true) ∧ Fr noB w w' := by
  have HB : Hid (∀ W, Fr noB w W → Calls Tryz.prog 9 #[] W fun e w' => e = .returned (.bool true) ∧ Fr noB W w') := fun W h => begun_true W (hU.fr h)
  have HM : Hid (∀ W, Fr noB w W → Calls Tryz.prog 10 #[.int .i64 r, .int .i64 c, .slice ao L.length cap] W fun e w' => e = .returned (.tuple #[.agg #[.int .i64 0, .int .i64 0, .slice none 0 0], .int .i64 E]) ∧ Fr noB W w') := fun W h => make_no r c ao cap L W (hA.keep h) hV (hU.fr h) E hE hne
  have HC : Hid (∀ W, Fr noB w W → Calls Tryz.prog 12 #[.agg #[.int .i64 r, .int .i64 c, .slice ao L.length cap]] W fun e w' => e = .returned (.int .i64 E) ∧ Fr noB W w') := fun W h => by
    have hh := pcheckA r c ao cap L W (hA.keep h) hV (hU.fr h)
    rw [hE] at hh
    exact hh
  have HR : Hid (∀ W, Fr noB w W → Calls Tryz.prog 11 #[.agg #[.int .i64 r, .int .i64 c, .slice ao L.length cap]] W fun e w' => e = .returned (.int .i64 E) ∧ Fr noB W w') := fun W h => by
    have hh := rcheckA r c ao cap L W (hA.keep h) hV (hU.fr h)
    rw [hE] at hh
    exact hh
  obtain ⟨Q, hQ⟩ : ∃ Q, argF ckV ms gr gc P = Q := ⟨_, rfl⟩
  have HP : Hid (∀ W, Fr noB w W → Calls Tryz.prog 13 #[.agg #[.bool rf, .bool ms, .int .i64 gr, .int .i64 gc, .slice go_ P.length gcap]] W fun e w' => e = .returned (.int .i64 Q) ∧ Fr noB W w') := fun W h => by
    have hh := parg_any rf ms gr gc go_ gcap P W (hG.keep h) hlg hVg (hU.fr h)
    rw [hQ] at hh
    exact hh
  have HD : Hid (∀ W, Fr noB w W → Calls Tryz.prog 14 #[.agg #[.bool rf, .bool ms, .int .i64 gr, .int .i64 gc, .slice go_ P.length gcap]] W fun e w' => e = .returned (.int .i64 Q) ∧ Fr noB W w') := fun W h => by
    have hh := rarg_any rf ms gr gc go_ gcap P W (hG.keep h) hlg hVg (hU.fr h)
    rw [hQ] at hh
    exact hh
  have HV : Hid (∀ W, Fr noB w W → VsAt W ao L) := fun W h => hA.keep h
  have HL : Hid (L.length ≤ 140737488355328) := hl
  have hX : AAt ((w.alloc (.cells #[.int .i64 r, .int .i64 c, .slice ao L.length cap] 24 (0, 0))).alloc (.cells #[.bool rf, .bool ms, .int .i64 gr, .int .i64 gc, .slice go_ P.length gcap] 27 (0, 0))) w.heap.size r c ao L.length cap := ⟨old1 (new1 _ _ _ rfl)⟩
  have hY : GAt ((w.alloc (.cells #[.int .i64 r, .int .i64 c, .slice ao L.length cap] 24 (0, 0))).alloc (.cells #[.bool rf, .bool ms, .int .i64 gr, .int .i64 gc, .slice go_ P.length gcap] 27 (0, 0))) (w.heap.size + 1) rf ms gr gc go_ P.length gcap := ⟨new1 _ _ _ (by simp)⟩
  have HX : Hid (∀ W, Fr noB ((w.alloc (.cells #[.int .i64 r, .int .i64 c, .slice ao L.length cap] 24 (0, 0))).alloc (.cells #[.bool rf, .bool ms, .int .i64 gr, .int .i64 gc, .slice go_ P.length gcap] 27 (0, 0))) W → W.cell? ⟨w.heap.size, 0, none⟩ = some (.int .i64 r) ∧ W.cell? ⟨w.heap.size, 1, none⟩ = some (.int .i64 c) ∧ W.cell? ⟨w.heap.size, 2, none⟩ = some (.slice ao L.length cap) ∧ W.cell? ⟨w.heap.size + 1, 0, none⟩ = some (.bool rf) ∧ W.cell? ⟨w.heap.size + 1, 1, none⟩ = some (.bool ms) ∧ W.cell? ⟨w.heap.size + 1, 2, none⟩ = some (.int .i64 gr) ∧ W.cell? ⟨w.heap.size + 1, 3, none⟩ = some (.int .i64 gc) ∧ W.cell? ⟨w.heap.size + 1, 4, none⟩ = some (.slice go_ P.length gcap)) := fun W h => ⟨cellOf (o := 0) (hX.fr h id).o rfl, cellOf (o := 1) (hX.fr h id).o rfl, cellOf (o := 2) (hX.fr h id).o rfl, (hY.fr h id).c0, (hY.fr h id).c1, (hY.fr h id).c2, (hY.fr h id).c3, (hY.fr h id).c4⟩
  have HF0 : Hid (Fr noB w ((w.alloc (.cells #[.int .i64 r, .int .i64 c, .slice ao L.length cap] 24 (0, 0))).alloc (.cells #[.bool rf, .bool ms, .int .i64 gr, .int .i64 gc, .slice go_ P.length gcap] 27 (0, 0)))) := ((Fr.refl noB w).alloc _).alloc _
  have q1 : (Q != Q) = false := by simp
  have q2 : (E != E) = false := by simp
  have q3 : (E != 0) = true := by simpa using hne
  have q4 : (E == 0) = false := by simpa using hne
  clear hA hl hV hG hlg hVg hU hE hne hQ hX hY
  go_enter Tryz.func3, Tryz.ntmps3
  go_wp2_with (first
    | (go_at_call 9; refine (HB.out _ HF0.out).mono ?_; rintro e w1 ⟨rfl, hF1⟩; obtain ⟨x0, x1, x2, _⟩ := HX.out _ hF1)
    | (go_at_call 10; refine (HM.out _ (HF0.out.trans hF1)).mono ?_; rintro e w2 ⟨rfl, hF2⟩; obtain ⟨z0, z1, z2, _⟩ := HX.out _ ((hF1.trans hF2).alloc (.cells #[.int .i64 0, .int .i64 0, .slice none 0 0] 24 (0, 0))))
    | (go_at_call 11; refine (HR.out _ (HF0.out.trans ((hF1.trans hF2).alloc _))).mono ?_; rintro e w3 ⟨rfl, hF3⟩))
  have hX3 : AAt w3 w2.heap.size 0 0 none 0 0 := AAt.fr (show AAt (w2.alloc (.cells #[.int .i64 0, .int .i64 0, .slice none 0 0] 24 (0, 0))) w2.heap.size 0 0 none 0 0 from ⟨new1 _ _ _ rfl⟩) hF3 id
  have hF4 : Fr noB ((w.alloc (.cells #[.int .i64 r, .int .i64 c, .slice ao L.length cap] 24 (0, 0))).alloc (.cells #[.bool rf, .bool ms, .int .i64 gr, .int .i64 gc, .slice go_ P.length gcap] 27 (0, 0))) w3 := ((hF1.trans hF2).alloc _).trans hF3
  have HF4 : Hid (Fr noB ((w.alloc (.cells #[.int .i64 r, .int .i64 c, .slice ao L.length cap] 24 (0, 0))).alloc (.cells #[.bool rf, .bool ms, .int .i64 gr, .int .i64 gc, .slice go_ P.length gcap] 27 (0, 0))) w3) := hF4
  skip
  have HX3 : Hid (∀ W, Fr noB w3 W → AAt W w2.heap.size 0 0 none 0 0) := fun W h => hX3.fr h id
  have HZ : Hid (∀ W, Fr noB w3 W → W.cell? ⟨w.heap.size, 0, none⟩ = some (.int .i64 r) ∧ W.cell? ⟨w.heap.size, 1, none⟩ = some (.int .i64 c) ∧ W.cell? ⟨w.heap.size, 2, none⟩ = some (.slice ao L.length cap) ∧ W.cell? ⟨w.heap.size + 1, 0, none⟩ = some (.bool rf) ∧ W.cell? ⟨w.heap.size + 1, 1, none⟩ = some (.bool ms) ∧ W.cell? ⟨w.heap.size + 1, 2, none⟩ = some (.int .i64 gr) ∧ W.cell? ⟨w.heap.size + 1, 3, none⟩ = some (.int .i64 gc) ∧ W.cell? ⟨w.heap.size + 1, 4, none⟩ = some (.slice go_ P.length gcap)) := fun W h => HX.out W (hF4.trans h)
  clear hX3 hF4 hF1 hF2 hF3 x0 x1 x2 z0 z1 z2 
  generalize w2.heap.size = g at *
  go_region_held3 (fun W => W.cell? ⟨w.heap.size, 0, none⟩ = some (.int .i64 r) ∧ W.cell? ⟨w.heap.size, 1, none⟩ = some (.int .i64 c) ∧ W.cell? ⟨w.heap.size, 2, none⟩ = some (.slice ao L.length cap) ∧ W.cell? ⟨w.heap.size + 1, 0, none⟩ = some (.bool rf) ∧ W.cell? ⟨w.heap.size + 1, 1, none⟩ = some (.bool ms) ∧ W.cell? ⟨w.heap.size + 1, 2, none⟩ = some (.int .i64 gr) ∧ W.cell? ⟨w.heap.size + 1, 3, none⟩ = some (.int .i64 gc) ∧ W.cell? ⟨w.heap.size + 1, 4, none⟩ = some (.slice go_ P.length gcap))
    (exact HZ.out _ (by repeat first | assumption | exact Fr.refl _ _ | exact Fr.drew (by assumption) | exact (Fr.refl _ _).drew | refine Fr.trans ?_ (by assumption)))
    (first
      | (go_at_call 12; with_reducible refine (HC.out _ (HF0.out.trans (HF4.out.trans (by repeat first | assumption | exact Fr.refl _ _ | exact Fr.drew (by assumption) | exact (Fr.refl _ _).drew | refine Fr.trans ?_ (by assumption))))).mono ?_; rintro e w5 ⟨rfl, hF5⟩)
      | (go_at_call 13; with_reducible refine (HP.out _ (HF0.out.trans (HF4.out.trans (by repeat first | assumption | exact Fr.refl _ _ | exact Fr.drew (by assumption) | exact (Fr.refl _ _).drew | refine Fr.trans ?_ (by assumption))))).mono ?_; rintro e w6 ⟨rfl, hF6⟩)
      | (go_at_call 14; with_reducible refine (HD.out _ (HF0.out.trans (HF4.out.trans (by repeat first | assumption | exact Fr.refl _ _ | exact Fr.drew (by assumption) | exact (Fr.refl _ _).drew | refine Fr.trans ?_ (by assumption))))).mono ?_; rintro e w7 ⟨rfl, hF7⟩))
  have hF8 : Fr noB w3 w7 := (by repeat first | assumption | exact Fr.refl _ _ | exact Fr.drew (by assumption) | exact (Fr.refl _ _).drew | refine Fr.trans ?_ (by assumption))
  have hX7 := HX3.out _ hF8
  have p0 := cellOf (o := 0) hX7.o rfl
  have p1 := cellOf (o := 1) hX7.o rfl
  have p2 := cellOf (o := 2) hX7.o rfl
  obtain ⟨z0, z1, z2, _⟩ := HZ.out _ hF8
  have hF9 : Fr noB w w7 := HF0.out.trans (HF4.out.trans hF8)
  have HS := samearr_self 0 0 none none 0 0 [] w7 (Or.inl rfl) (Or.inl rfl) (by decide)
  simp only [List.length_nil] at HS
  have HF9 : Hid (Fr noB w w7) := hF9
  clear hX7 hF5 hF6 hF7 hF8 hF9
  go_wp2_with (go_at_call 15; refine HS.mono ?_; rintro e w9 ⟨rfl, hF9⟩)
  go_ret
  exact ⟨rfl, HF9.out.trans hF9⟩
theorem amakes_walk (r c : Int) (ao : Option Addr) (cap : Nat) (L : List Vv) (rf ms : Bool) (gr gc : Int) (go_ : Option Addr) (gcap : Nat) (P : List Pl) (w : World) (hA : VsAt w ao L) (hl : L.length ≤ 140737488355328) (hV : ∀ y ∈ L, Vok y) (hG : PsAt w go_ P) (hlg : P.length ≤ 140737488355328) (hVg : ∀ p ∈ P, Vok p.v) (hU : U8 w) :
    Calls Tryz.prog 3 #[.agg #[.int .i64 r, .int .i64 c, .slice ao L.length cap], .agg #[.bool rf, .bool ms, .int .i64 gr, .int .i64 gc, .slice go_ P.length gcap]] w fun e w' => e = .returned (.bool true) ∧ Below w.heap.size w w' := by
  have key : Calls Tryz.prog 3 #[.agg #[.int .i64 r, .int .i64 c, .slice ao L.length cap], .agg #[.bool rf, .bool ms, .int .i64 gr, .int .i64 gc, .slice go_ P.length gcap]] w fun e w' => e = .returned (.bool true) ∧ Fr noB w w' := by
    by_cases h : arrF ckV r c L = 0
    · exact makes_ok r c ao cap L rf ms gr gc go_ gcap P w hA hl hV hG hlg hVg hU h
    · exact makes_no r c ao cap L rf ms gr gc go_ gcap P w hA hl hV hG hlg hVg hU _ rfl h
  exact key.mono fun e w' ⟨h1, h2⟩ => ⟨h1, h2.below (Nat.le_refl _) (fun _ h => h.elim)⟩
#print axioms amakes_walk
end Go.Proofs.YtaobnfjkggpdlaaGreatDoor
