/- ArrayAreas: the law's walk, out of what Dense, Sparse and Single of both answer. -/
import Derived.Test.YtpjbobbmldplbaaGreatDoorASmA
import Derived.Test.YtpjbobbmldplbaaGreatDoorK25
import Derived.Test.YtpjbobbmldplbaaGreatDoorK16
import Derived.Deep.RegionHeld3
namespace Go.Proofs.YtpjbobbmldplbaaGreatDoor
open Go.RowKit Ieee Go.Shelf
attribute [local go_sem] run_store_float

theorem toHidA {p : Prop} (h : p) : Hid p := h
set_option maxRecDepth 100000 in
set_option maxHeartbeats 8000000 in
theorem areas_walk (rf ms : Bool) (gr gc : Int) (go_ : Option Addr) (gcap : Nat) (P : List Pl) (r c : Int) (ao : Option Addr) (n cap : Nat) (w : World) (hU : U8 w) (v : Vv) (x y : Int) (T : List Vv) (ok : Bool) (x2 y2 : Int) (Q : List Pl) (hT : T.length ≤ 140737488355328) (hQ : Q.length ≤ 140737488355328)
    (HP : Hid (∀ V, Fr noB w V → Calls Tryz.prog 5 #[.agg #[.bool rf, .bool ms, .int .i64 gr, .int .i64 gc, .slice go_ P.length gcap]] V fun e w' => ∃ so sc, e = .returned (.tuple #[.agg #[.int .i64 x, .int .i64 y, .slice so T.length sc], .bool ok]) ∧ VsAt w' so T ∧ Fr noB V w'))
    (HR : Hid (∀ V, Fr noB w V → Calls Tryz.prog 6 #[.agg #[.bool rf, .bool ms, .int .i64 gr, .int .i64 gc, .slice go_ P.length gcap]] V fun e w' => ∃ so sc, e = .returned (.tuple #[.agg #[.int .i64 x, .int .i64 y, .slice so T.length sc], .bool ok]) ∧ VsAt w' so T ∧ Fr noB V w'))
    (HSp : Hid (∀ V, Fr noB w V → Calls Tryz.prog 10 #[.agg #[.int .i64 r, .int .i64 c, .slice ao n cap]] V fun e w' => ∃ so sc, e = .returned (.agg #[.bool false, .bool false, .int .i64 x2, .int .i64 y2, .slice so Q.length sc]) ∧ PsAt w' so Q ∧ Fr noB V w'))
    (HSr : Hid (∀ V, Fr noB w V → Calls Tryz.prog 11 #[.agg #[.int .i64 r, .int .i64 c, .slice ao n cap]] V fun e w' => ∃ so sc, e = .returned (.agg #[.bool false, .bool false, .int .i64 x2, .int .i64 y2, .slice so Q.length sc]) ∧ PsAt w' so Q ∧ Fr noB V w'))
    (HGp : Hid (∀ V, Fr noB w V → Calls Tryz.prog 13 #[.agg #[.bool rf, .bool ms, .int .i64 gr, .int .i64 gc, .slice go_ P.length gcap]] V fun e w' => e = .returned (.agg #[.int .i64 v.k, .float .f64 v.n, .string v.s, .bool v.y, .int .i64 v.e]) ∧ Fr noB V w'))
    (HGr : Hid (∀ V, Fr noB w V → Calls Tryz.prog 14 #[.agg #[.bool rf, .bool ms, .int .i64 gr, .int .i64 gc, .slice go_ P.length gcap]] V fun e w' => e = .returned (.agg #[.int .i64 v.k, .float .f64 v.n, .string v.s, .bool v.y, .int .i64 v.e]) ∧ Fr noB V w')) :
    Calls Tryz.prog 3 #[.agg #[.bool rf, .bool ms, .int .i64 gr, .int .i64 gc, .slice go_ P.length gcap], .agg #[.int .i64 r, .int .i64 c, .slice ao n cap]] w fun e w' => e = .returned (.bool true) ∧ Fr noB w w' := by
  have HB : Hid (∀ W, Fr noB w W → Calls Tryz.prog 7 #[] W fun e w' => e = .returned (.bool true) ∧ Fr noB W w') := fun W h => begun_true W (hU.fr h)
  have HSv : Hid (∀ W, Calls Tryz.prog 12 #[(.agg #[.int .i64 v.k, .float .f64 v.n, .string v.s, .bool v.y, .int .i64 v.e]), (.agg #[.int .i64 v.k, .float .f64 v.n, .string v.s, .bool v.y, .int .i64 v.e])] W fun e w' => e = .returned (.bool true) ∧ Fr noB W w') := fun W => by
    have hh := rsame_any v.k v.n v.s v.y v.e v.k v.n v.s v.y v.e W
    rw [smB_self] at hh
    exact hh
  have HSa : Hid (∀ W ao bo ca cb, VsAt W ao T → VsAt W bo T → Calls Tryz.prog 8 #[.agg #[.int .i64 x, .int .i64 y, .slice ao T.length ca], .agg #[.int .i64 x, .int .i64 y, .slice bo T.length cb]] W fun e w' => e = .returned (.bool true) ∧ Fr noB W w') := fun W ao bo ca cb h1 h2 => samearr_self x y ao bo ca cb T W h1 h2 hT
  have HSg : Hid (∀ W ao bo ca cb, PsAt W ao Q → PsAt W bo Q → Calls Tryz.prog 9 #[.agg #[.bool false, .bool false, .int .i64 x2, .int .i64 y2, .slice ao Q.length ca], .agg #[.bool false, .bool false, .int .i64 x2, .int .i64 y2, .slice bo Q.length cb]] W fun e w' => e = .returned (.bool true) ∧ Fr noB W w') := fun W ao bo ca cb h1 h2 => samearg_self false false x2 y2 ao bo ca cb Q W h1 h2 hQ
  have hok : (ok == ok) = true := by simp
  obtain ⟨W0, hW0⟩ : ∃ W0, (w.alloc (.cells #[.bool rf, .bool ms, .int .i64 gr, .int .i64 gc, .slice go_ P.length gcap] 24 (0, 0))).alloc (.cells #[.int .i64 r, .int .i64 c, .slice ao n cap] 27 (0, 0)) = W0 := ⟨_, rfl⟩
  have hG : GAt W0 w.heap.size rf ms gr gc go_ P.length gcap := by rw [← hW0]; exact ⟨old1 (new1 _ _ _ rfl)⟩
  have hA : AAt W0 (w.heap.size + 1) r c ao n cap := by rw [← hW0]; exact ⟨new1 _ _ _ (by simp)⟩
  have HF0 : Hid (Fr noB w W0) := by rw [← hW0]; exact ((Fr.refl noB w).alloc _).alloc _
  have HX : Hid (∀ V, Fr noB W0 V → GAt V w.heap.size rf ms gr gc go_ P.length gcap ∧ AAt V (w.heap.size + 1) r c ao n cap) := fun V h => ⟨hG.fr h id, hA.fr h id⟩
  have g0 := hG.c0; have g1 := hG.c1; have g2 := hG.c2; have g3 := hG.c3; have g4 := hG.c4
  have HW0 : Hid _ := hW0
  clear hT hQ hU hG hA hW0
  go_enter Tryz.func3, Tryz.ntmps3
  go_wp2_with (first
    | (go_at_call 5; rw [HW0.out]; refine (HP.out _ HF0.out).mono ?_; rintro e w1 ⟨so1, sc1, rfl, hV1, hF1⟩; have HV1 := toHidA hV1; have HF1 := toHidA hF1; have hGb := (HX.out _ (hF1.alloc (.cells #[.int .i64 x, .int .i64 y, .slice so1 T.length sc1] 27 (0, 0)))).1; have g10 := hGb.c0; have g11 := hGb.c1; have g12 := hGb.c2; have g13 := hGb.c3; have g14 := hGb.c4; clear hV1 hF1 hGb)
    | (go_at_call 6; refine (HR.out _ (HF0.out.trans (HF1.out.alloc _))).mono ?_; rintro e w2 ⟨so2, sc2, rfl, hV2, hF2⟩; have HV2 := toHidA hV2; have HF2 := toHidA hF2; clear hV2 hF2))
  obtain ⟨bx, hbx⟩ : ∃ bx, w1.heap.size = bx := ⟨_, rfl⟩
  obtain ⟨by_, hby⟩ : ∃ by_, w2.heap.size = by_ := ⟨_, rfl⟩
  obtain ⟨W2, hW2⟩ : ∃ W2, w2.alloc (.cells #[.int .i64 x, .int .i64 y, .slice so2 T.length sc2] 27 (0, 0)) = W2 := ⟨_, rfl⟩
  have hFA : Fr noB w1 W2 := by rw [← hW2]; exact (((Fr.refl _ _).alloc _).trans HF2.out).alloc _
  have hFB : Fr noB w2 W2 := by rw [← hW2]; exact (Fr.refl _ _).alloc _
  have hx1 : AAt W2 bx x y so1 T.length sc1 := by
    rw [← hW2, ← hbx]
    have h0 : AAt (w1.alloc (.cells #[.int .i64 x, .int .i64 y, .slice so1 T.length sc1] 27 (0, 0))) w1.heap.size x y so1 T.length sc1 := ⟨new1 _ _ _ rfl⟩
    exact (h0.fr HF2.out id).fr ((Fr.refl noB _).alloc _) id
  have hx2 : AAt W2 by_ x y so2 T.length sc2 := by rw [← hW2, ← hby]; exact ⟨new1 _ _ _ rfl⟩
  have HF3 : Hid (Fr noB w W2) := (HF0.out.trans HF1.out).trans hFA
  have HZ : Hid (∀ V, Fr noB W2 V → V.cell? ⟨w.heap.size, 0, none⟩ = some (.bool rf) ∧ V.cell? ⟨w.heap.size, 1, none⟩ = some (.bool ms) ∧ V.cell? ⟨w.heap.size, 2, none⟩ = some (.int .i64 gr) ∧ V.cell? ⟨w.heap.size, 3, none⟩ = some (.int .i64 gc) ∧ V.cell? ⟨w.heap.size, 4, none⟩ = some (.slice go_ P.length gcap) ∧ V.cell? ⟨w.heap.size + 1, 0, none⟩ = some (.int .i64 r) ∧ V.cell? ⟨w.heap.size + 1, 1, none⟩ = some (.int .i64 c) ∧ V.cell? ⟨w.heap.size + 1, 2, none⟩ = some (.slice ao n cap) ∧ V.cell? ⟨bx, 0, none⟩ = some (.int .i64 x) ∧ V.cell? ⟨bx, 1, none⟩ = some (.int .i64 y) ∧ V.cell? ⟨bx, 2, none⟩ = some (.slice so1 T.length sc1) ∧ V.cell? ⟨by_, 0, none⟩ = some (.int .i64 x) ∧ V.cell? ⟨by_, 1, none⟩ = some (.int .i64 y) ∧ V.cell? ⟨by_, 2, none⟩ = some (.slice so2 T.length sc2)) := fun V h => by
    obtain ⟨h1, h3⟩ := HX.out V ((HF1.out.trans hFA).trans h)
    have h4 := hx1.fr h id
    have h5 := hx2.fr h id
    exact ⟨h1.c0, h1.c1, h1.c2, h1.c3, h1.c4, h3.d0, h3.d1, h3.d2, h4.d0, h4.d1, h4.d2, h5.d0, h5.d1, h5.d2⟩
  have HSb : Hid (∀ V, Fr noB W2 V → Calls Tryz.prog 8 #[.agg #[.int .i64 x, .int .i64 y, .slice so1 T.length sc1], .agg #[.int .i64 x, .int .i64 y, .slice so2 T.length sc2]] V fun e w' => e = .returned (.bool true) ∧ Fr noB V w') := fun V h => HSa.out V _ _ _ _ (HV1.out.keep (hFA.trans h)) (HV2.out.keep (hFB.trans h))
  rw [hW2]
  simp only [hbx, hby]
  clear hFA hFB hx1 hx2 hW2 hbx hby g0 g1 g2 g3 g4 g10 g11 g12 g13 g14 HV1 HV2 HF1 HF2 HX
  go_region_held3 (fun V => V.cell? ⟨w.heap.size, 0, none⟩ = some (.bool rf) ∧ V.cell? ⟨w.heap.size, 1, none⟩ = some (.bool ms) ∧ V.cell? ⟨w.heap.size, 2, none⟩ = some (.int .i64 gr) ∧ V.cell? ⟨w.heap.size, 3, none⟩ = some (.int .i64 gc) ∧ V.cell? ⟨w.heap.size, 4, none⟩ = some (.slice go_ P.length gcap) ∧ V.cell? ⟨w.heap.size + 1, 0, none⟩ = some (.int .i64 r) ∧ V.cell? ⟨w.heap.size + 1, 1, none⟩ = some (.int .i64 c) ∧ V.cell? ⟨w.heap.size + 1, 2, none⟩ = some (.slice ao n cap) ∧ V.cell? ⟨bx, 0, none⟩ = some (.int .i64 x) ∧ V.cell? ⟨bx, 1, none⟩ = some (.int .i64 y) ∧ V.cell? ⟨bx, 2, none⟩ = some (.slice so1 T.length sc1) ∧ V.cell? ⟨by_, 0, none⟩ = some (.int .i64 x) ∧ V.cell? ⟨by_, 1, none⟩ = some (.int .i64 y) ∧ V.cell? ⟨by_, 2, none⟩ = some (.slice so2 T.length sc2))
    (exact HZ.out _ (by repeat first | assumption | exact Fr.refl _ _ | exact Fr.drew (by assumption) | exact (Fr.refl _ _).drew | refine Fr.trans ?_ (by assumption)))
    (first
      | (go_at_call 7; with_reducible refine (HB.out _ (HF3.out.trans (by repeat first | assumption | exact Fr.refl _ _ | exact Fr.drew (by assumption) | exact (Fr.refl _ _).drew | refine Fr.trans ?_ (by assumption)))).mono ?_; rintro e w1 ⟨rfl, hF1⟩)
      | (go_at_call 8; with_reducible refine (HSb.out _ (by repeat first | assumption | exact Fr.refl _ _ | exact Fr.drew (by assumption) | exact (Fr.refl _ _).drew | refine Fr.trans ?_ (by assumption))).mono ?_; rintro e w2 ⟨rfl, hF2⟩)
      | (go_at_call 10; with_reducible refine (HSp.out _ (HF3.out.trans (by repeat first | assumption | exact Fr.refl _ _ | exact Fr.drew (by assumption) | exact (Fr.refl _ _).drew | refine Fr.trans ?_ (by assumption)))).mono ?_; rintro e w5 ⟨so5, sc5, rfl, hV5, hF5⟩; have HV5 := toHidA hV5; clear hV5)
      | (go_at_call 11; with_reducible refine (HSr.out _ (HF3.out.trans (by repeat first | assumption | exact Fr.refl _ _ | exact Fr.drew (by assumption) | exact (Fr.refl _ _).drew | refine Fr.trans ?_ (by assumption)))).mono ?_; rintro e w6 ⟨so6, sc6, rfl, hV6, hF6⟩; have HV6 := toHidA (And.intro hV6 (HV5.out.keep (show Fr noB w5 w6 from by first | exact hF6 | exact (Fr.refl _ _).drew.trans hF6))); clear hV6)
      | (go_at_call 9; with_reducible refine (HSg.out _ _ _ _ _ HV6.out.2 HV6.out.1).mono ?_; rintro e w7 ⟨rfl, hF7⟩)
      | (go_at_call 13; with_reducible refine (HGp.out _ (HF3.out.trans (by repeat first | assumption | exact Fr.refl _ _ | exact Fr.drew (by assumption) | exact (Fr.refl _ _).drew | refine Fr.trans ?_ (by assumption)))).mono ?_; rintro e w8 ⟨rfl, hF8⟩)
      | (go_at_call 14; with_reducible refine (HGr.out _ (HF3.out.trans (by repeat first | assumption | exact Fr.refl _ _ | exact Fr.drew (by assumption) | exact (Fr.refl _ _).drew | refine Fr.trans ?_ (by assumption)))).mono ?_; rintro e w9 ⟨rfl, hF9⟩)
      | (go_at_call 12; with_reducible refine (HSv.out _).mono ?_; rintro e w10 ⟨rfl, hF10⟩))
  go_wp2_with fail
  go_ret
  exact ⟨rfl, HF3.out.trans (by repeat first | assumption | exact Fr.refl _ _ | exact Fr.drew (by assumption) | exact (Fr.refl _ _).drew | refine Fr.trans ?_ (by assumption))⟩
#print axioms areas_walk
end Go.Proofs.YtpjbobbmldplbaaGreatDoor
