/- ArrayCuts: the law's walk, out of what Cut and Turn of both answer. -/
import Derived.Test.YtpjbobbmldplbaaGreatDoorK18
import Derived.Test.YtpjbobbmldplbaaGreatDoorK20
import Derived.Test.YtpjbobbmldplbaaGreatDoorABeg
namespace Go.Proofs.YtpjbobbmldplbaaGreatDoor
open Go.RowKit Ieee Go.Shelf
attribute [local go_sem] run_store_float

theorem toHid {p : Prop} (h : p) : Hid p := h
set_option maxRecDepth 100000 in
set_option maxHeartbeats 8000000 in
theorem cuts_walk (rf ms : Bool) (gr gc : Int) (go_ : Option Addr) (gcap : Nat) (P : List Pl) (top left row col : Int) (r c : Int) (ao : Option Addr) (n cap : Nat) (w : World) (hU : U8 w) (v : Vv) (x y : Int) (T : List Vv) (hT : T.length ≤ 140737488355328)
    (HP : Hid (∀ V, Fr noB w V → Calls Tryz.prog 15 #[.agg #[.bool rf, .bool ms, .int .i64 gr, .int .i64 gc, .slice go_ P.length gcap], .int .i64 top, .int .i64 left, .int .i64 row, .int .i64 col] V fun e w' => e = .returned (.agg #[.int .i64 v.k, .float .f64 v.n, .string v.s, .bool v.y, .int .i64 v.e]) ∧ Fr noB V w'))
    (HR : Hid (∀ V, Fr noB w V → Calls Tryz.prog 16 #[.agg #[.bool rf, .bool ms, .int .i64 gr, .int .i64 gc, .slice go_ P.length gcap], .int .i64 top, .int .i64 left, .int .i64 row, .int .i64 col] V fun e w' => e = .returned (.agg #[.int .i64 v.k, .float .f64 v.n, .string v.s, .bool v.y, .int .i64 v.e]) ∧ Fr noB V w'))
    (HTp : Hid (∀ V, Fr noB w V → Calls Tryz.prog 17 #[.agg #[.int .i64 r, .int .i64 c, .slice ao n cap]] V fun e w' => ∃ so sc, e = .returned (.agg #[.int .i64 x, .int .i64 y, .slice so T.length sc]) ∧ VsAt w' so T ∧ Fr noB V w'))
    (HTr : Hid (∀ V, Fr noB w V → Calls Tryz.prog 18 #[.agg #[.int .i64 r, .int .i64 c, .slice ao n cap]] V fun e w' => ∃ so sc, e = .returned (.agg #[.int .i64 x, .int .i64 y, .slice so T.length sc]) ∧ VsAt w' so T ∧ Fr noB V w')) :
    Calls Tryz.prog 4 #[.agg #[.bool rf, .bool ms, .int .i64 gr, .int .i64 gc, .slice go_ P.length gcap], .agg #[.int .i64 top, .int .i64 left, .int .i64 row, .int .i64 col], .agg #[.int .i64 r, .int .i64 c, .slice ao n cap]] w fun e w' => e = .returned (.bool true) ∧ Fr noB w w' := by
  have HB : Hid (∀ W, Fr noB w W → Calls Tryz.prog 7 #[] W fun e w' => e = .returned (.bool true) ∧ Fr noB W w') := fun W h => begun_true W (hU.fr h)
  have HL : Hid (T.length ≤ 140737488355328) := hT
  have HSv : Hid (∀ W, Calls Tryz.prog 12 #[(.agg #[.int .i64 v.k, .float .f64 v.n, .string v.s, .bool v.y, .int .i64 v.e]), (.agg #[.int .i64 v.k, .float .f64 v.n, .string v.s, .bool v.y, .int .i64 v.e])] W fun e w' => e = .returned (.bool true) ∧ Fr noB W w') := fun W => by
    have hh := rsame_any v.k v.n v.s v.y v.e v.k v.n v.s v.y v.e W
    rw [smB_self] at hh
    exact hh
  have HSa : Hid (∀ W ao bo ca cb, VsAt W ao T → VsAt W bo T → Calls Tryz.prog 8 #[.agg #[.int .i64 x, .int .i64 y, .slice ao T.length ca], .agg #[.int .i64 x, .int .i64 y, .slice bo T.length cb]] W fun e w' => e = .returned (.bool true) ∧ Fr noB W w') := fun W ao bo ca cb h1 h2 => samearr_self x y ao bo ca cb T W h1 h2 hT
  obtain ⟨W0, hW0⟩ : ∃ W0, ((w.alloc (.cells #[.bool rf, .bool ms, .int .i64 gr, .int .i64 gc, .slice go_ P.length gcap] 24 (0, 0))).alloc (.cells #[.int .i64 top, .int .i64 left, .int .i64 row, .int .i64 col] 41 (0, 0))).alloc (.cells #[.int .i64 r, .int .i64 c, .slice ao n cap] 27 (0, 0)) = W0 := ⟨_, rfl⟩
  have hG : GAt W0 w.heap.size rf ms gr gc go_ P.length gcap := by rw [← hW0]; exact ⟨old1 (old1 (new1 _ _ _ rfl))⟩
  have hS : W0.heap[w.heap.size + 1]? = some (.cells #[.int .i64 top, .int .i64 left, .int .i64 row, .int .i64 col] 41 (0, 0)) := by rw [← hW0]; exact old1 (new1 _ _ _ (by simp))
  have hA : AAt W0 (w.heap.size + 1 + 1) r c ao n cap := by rw [← hW0]; exact ⟨new1 _ _ _ (by simp)⟩
  have HF0 : Hid (Fr noB w W0) := by rw [← hW0]; exact (((Fr.refl noB w).alloc _).alloc _).alloc _
  have HZ : Hid (∀ V, Fr noB W0 V → V.cell? ⟨w.heap.size, 0, none⟩ = some (.bool rf) ∧ V.cell? ⟨w.heap.size, 1, none⟩ = some (.bool ms) ∧ V.cell? ⟨w.heap.size, 2, none⟩ = some (.int .i64 gr) ∧ V.cell? ⟨w.heap.size, 3, none⟩ = some (.int .i64 gc) ∧ V.cell? ⟨w.heap.size, 4, none⟩ = some (.slice go_ P.length gcap) ∧ V.cell? ⟨w.heap.size + 1, 0, none⟩ = some (.int .i64 top) ∧ V.cell? ⟨w.heap.size + 1, 1, none⟩ = some (.int .i64 left) ∧ V.cell? ⟨w.heap.size + 1, 2, none⟩ = some (.int .i64 row) ∧ V.cell? ⟨w.heap.size + 1, 3, none⟩ = some (.int .i64 col) ∧ V.cell? ⟨w.heap.size + 1 + 1, 0, none⟩ = some (.int .i64 r) ∧ V.cell? ⟨w.heap.size + 1 + 1, 1, none⟩ = some (.int .i64 c) ∧ V.cell? ⟨w.heap.size + 1 + 1, 2, none⟩ = some (.slice ao n cap)) := fun V h => by
    have h1 := hG.fr h id
    have h2 := h.obj hS id
    have h3 := hA.fr h id
    exact ⟨h1.c0, h1.c1, h1.c2, h1.c3, h1.c4, cellOf (o := 0) h2 rfl, cellOf (o := 1) h2 rfl, cellOf (o := 2) h2 rfl, cellOf (o := 3) h2 rfl, h3.d0, h3.d1, h3.d2⟩
  have HW0 : Hid _ := hW0
  clear hT hU hG hS hA hW0
  go_enter Tryz.func4, Tryz.ntmps4
  go_wp2_with fail
  rw [HW0.out]
  go_region_held3 (fun V => V.cell? ⟨w.heap.size, 0, none⟩ = some (.bool rf) ∧ V.cell? ⟨w.heap.size, 1, none⟩ = some (.bool ms) ∧ V.cell? ⟨w.heap.size, 2, none⟩ = some (.int .i64 gr) ∧ V.cell? ⟨w.heap.size, 3, none⟩ = some (.int .i64 gc) ∧ V.cell? ⟨w.heap.size, 4, none⟩ = some (.slice go_ P.length gcap) ∧ V.cell? ⟨w.heap.size + 1, 0, none⟩ = some (.int .i64 top) ∧ V.cell? ⟨w.heap.size + 1, 1, none⟩ = some (.int .i64 left) ∧ V.cell? ⟨w.heap.size + 1, 2, none⟩ = some (.int .i64 row) ∧ V.cell? ⟨w.heap.size + 1, 3, none⟩ = some (.int .i64 col) ∧ V.cell? ⟨w.heap.size + 1 + 1, 0, none⟩ = some (.int .i64 r) ∧ V.cell? ⟨w.heap.size + 1 + 1, 1, none⟩ = some (.int .i64 c) ∧ V.cell? ⟨w.heap.size + 1 + 1, 2, none⟩ = some (.slice ao n cap))
    (exact HZ.out _ (by repeat first | assumption | exact Fr.refl _ _ | exact Fr.drew (by assumption) | exact (Fr.refl _ _).drew | refine Fr.trans ?_ (by assumption)))
    (first
      | (go_at_call 7; with_reducible refine (HB.out _ (HF0.out.trans (by repeat first | assumption | exact Fr.refl _ _ | exact Fr.drew (by assumption) | exact (Fr.refl _ _).drew | refine Fr.trans ?_ (by assumption)))).mono ?_; rintro e w1 ⟨rfl, hF1⟩)
      | (go_at_call 15; with_reducible refine (HP.out _ (HF0.out.trans (by repeat first | assumption | exact Fr.refl _ _ | exact Fr.drew (by assumption) | exact (Fr.refl _ _).drew | refine Fr.trans ?_ (by assumption)))).mono ?_; rintro e w2 ⟨rfl, hF2⟩)
      | (go_at_call 16; with_reducible refine (HR.out _ (HF0.out.trans (by repeat first | assumption | exact Fr.refl _ _ | exact Fr.drew (by assumption) | exact (Fr.refl _ _).drew | refine Fr.trans ?_ (by assumption)))).mono ?_; rintro e w3 ⟨rfl, hF3⟩)
      | (go_at_call 12; with_reducible refine (HSv.out _).mono ?_; rintro e w4 ⟨rfl, hF4⟩)
      | (go_at_call 17; with_reducible refine (HTp.out _ (HF0.out.trans (by repeat first | assumption | exact Fr.refl _ _ | exact Fr.drew (by assumption) | exact (Fr.refl _ _).drew | refine Fr.trans ?_ (by assumption)))).mono ?_; rintro e w5 ⟨so5, sc5, rfl, hV5, hF5⟩; have HV5 := toHid hV5; clear hV5)
      | (go_at_call 18; with_reducible refine (HTr.out _ (HF0.out.trans (by repeat first | assumption | exact Fr.refl _ _ | exact Fr.drew (by assumption) | exact (Fr.refl _ _).drew | refine Fr.trans ?_ (by assumption)))).mono ?_; rintro e w6 ⟨so6, sc6, rfl, hV6, hF6⟩; have HV6 := toHid (And.intro hV6 (HV5.out.keep (show Fr noB w5 w6 from by first | exact hF6 | exact (Fr.refl _ _).drew.trans hF6))); clear hV6)
      | (go_at_call 8; with_reducible refine (HSa.out _ _ _ _ _ HV6.out.2 HV6.out.1).mono ?_; rintro e w7 ⟨rfl, hF7⟩))

  go_wp2_with fail
  go_ret
  exact ⟨rfl, HF0.out.trans (by repeat first | assumption | exact Fr.refl _ _ | exact Fr.drew (by assumption) | exact (Fr.refl _ _).drew | refine Fr.trans ?_ (by assumption))⟩
#print axioms cuts_walk
end Go.Proofs.YtpjbobbmldplbaaGreatDoor
