/- What becomes of a reference by a shift: the program's change.ref. -/
import Derived.Test.YthokhnbecgkpbaaDoorHCho
namespace Go.Proofs.YthokhnbecgkpbaaDoor
open Go.RowKit

set_option maxRecDepth 100000 in
set_option maxHeartbeats 2000000 in
theorem cref_a (ao : Option Addr) (l cap : Nat) (K : Int) (sh : ByteArray) (At N : Int) (nm : ByteArray) (home : Bool) (t u : ByteArray) (fx ar : Bool) (r1 c1 : Int) (x1 y1 : Bool) (r2 c2 : Int) (x2 y2 : Bool) (w : World) (ht : t.size ≤ 140737488355328) (hu : u.size ≤ 140737488355328) :
    Calls Tryd.prog 42 #[.agg #[.slice ao l cap, .int .i64 K, .string sh, .int .i64 At, .int .i64 N, .string nm, .bool false, .bool home], (.agg #[.string t, .string u, .bool fx, .bool ar, .int .i64 r1, .int .i64 c1, .bool x1, .bool y1, .int .i64 r2, .int .i64 c2, .bool x2, .bool y2])] w fun e w' => e = .returned (.tuple #[(.agg #[.string t, .string u, .bool fx, .bool ar, .int .i64 r1, .int .i64 c1, .bool x1, .bool y1, .int .i64 r2, .int .i64 c2, .bool x2, .bool y2]), .bool true]) ∧ Fr noB w w' := by
  have HK1 : Hid _ := fun w => clone_any t w (by omega)
  have HK2 : Hid _ := fun w => clone_any u w (by omega)
  obtain ⟨W0, hW0⟩ : ∃ W0, (((w.alloc (.cells #[.slice ao l cap, .int .i64 K, .string sh, .int .i64 At, .int .i64 N, .string nm, .bool false, .bool home] 70 (0, 0))).alloc (.cells #[.string t, .string u, .bool fx, .bool ar, .int .i64 r1, .int .i64 c1, .bool x1, .bool y1, .int .i64 r2, .int .i64 c2, .bool x2, .bool y2] 46 (0, 0))).alloc (.cells #[.string ⟨#[]⟩, .string ⟨#[]⟩, .bool false, .bool false, .int .i64 0, .int .i64 0, .bool false, .bool false, .int .i64 0, .int .i64 0, .bool false, .bool false] 46 (0, 0))).alloc (.cells #[.string t, .string u, .bool fx, .bool ar, .int .i64 r1, .int .i64 c1, .bool x1, .bool y1, .int .i64 r2, .int .i64 c2, .bool x2, .bool y2] 46 (0, 0)) = W0 := ⟨_, rfl⟩
  have hC : HAt W0 w.heap.size ao l cap K sh At N nm false home := by rw [← hW0]; exact ⟨old1 (old1 (old1 (heap_alloc_new w _)))⟩
  have hR : RAt W0 (w.heap.size + 1) t u fx ar r1 c1 x1 y1 r2 c2 x2 y2 := by rw [← hW0]; exact ⟨old1 (old1 (new1 _ _ _ (by simp)))⟩
  have hO : RAt W0 (w.heap.size + 1 + 1) ⟨#[]⟩ ⟨#[]⟩ false false 0 0 false false 0 0 false false := by rw [← hW0]; exact ⟨old1 (new1 _ _ _ (by simp))⟩
  have hU : RAt W0 (w.heap.size + 1 + 1 + 1) t u fx ar r1 c1 x1 y1 r2 c2 x2 y2 := by rw [← hW0]; exact ⟨new1 _ _ _ (by simp)⟩
  have hF0 : Fr noB w W0 := by rw [← hW0]; exact ((((Fr.refl noB w).alloc _).alloc _).alloc _).alloc _
  have HH : Hid _ := And.intro hC (And.intro hR (And.intro hO (And.intro hU hF0)))
  have HQ : Hid (RAt (((w.alloc (.cells #[.slice ao l cap, .int .i64 K, .string sh, .int .i64 At, .int .i64 N, .string nm, .bool false, .bool home] 70 (0, 0))).alloc (.cells #[.string t, .string u, .bool fx, .bool ar, .int .i64 r1, .int .i64 c1, .bool x1, .bool y1, .int .i64 r2, .int .i64 c2, .bool x2, .bool y2] 46 (0, 0))).alloc (.cells #[.string ⟨#[]⟩, .string ⟨#[]⟩, .bool false, .bool false, .int .i64 0, .int .i64 0, .bool false, .bool false, .int .i64 0, .int .i64 0, .bool false, .bool false] 46 (0, 0))) (w.heap.size + 1) t u fx ar r1 c1 x1 y1 r2 c2 x2 y2) := ⟨old1 (new1 _ _ _ (by simp))⟩
  have k6 := hC.c6
  have g0 := hR.g0; have g1 := hR.g1; have g2 := hR.g2; have g3 := hR.g3; have g4 := hR.g4; have g5 := hR.g5; have g6 := hR.g6; have g7 := hR.g7; have g8 := hR.g8; have g9 := hR.g9; have g10 := hR.g10; have g11 := hR.g11
  have u0 := hU.g0; have u1 := hU.g1; have uf0 := hU.f 0; have uf1 := hU.f 1
  clear hC hR hO hU hF0 ht hu
  go_enter Tryd.func42, Tryd.ntmps42
  go_wp2_with (refine wpList_load_row rfl 46 (.tmp 3) rfl (w.heap.size + 1) rfl 46 #[.string t, .string u, .bool fx, .bool ar, .int .i64 r1, .int .i64 c1, .bool x1, .bool y1, .int .i64 r2, .int .i64 c2, .bool x2, .bool y2] (0, 0) _ HQ.out.o Tryd.underlying46 rfl info_ref ?_)
  go_region_held3 (fun w' => w'.cell? ⟨w.heap.size + 1 + 1 + 1, 0, none⟩ = some (.string t) ∧ w'.cell? ⟨w.heap.size + 1 + 1 + 1, 1, none⟩ = some (.string u)) (first | exact ⟨u0, u1⟩ | exact ⟨p0, p1⟩ | exact ⟨q0, q1⟩ | exact ⟨(HU.out.2.1.s0 t).g0, (HU.out.2.1.s0 t).g1⟩ | exact ⟨((HU.out.2.1.s0 t).s1 u).g0, ((HU.out.2.1.s0 t).s1 u).g1⟩)
    (first
      | (go_at_call 24; (with_reducible refine (HK1.out _).mono ?_); rintro e w3 ⟨rfl, hF3⟩; have hG3 := (HH.out.2.2.2.2).drew.trans hF3; have hu3 := ((HH.out.2.2.2.1).fr ((Fr.refl noB _).drew) id).fr hF3 id; have p0 := hu3.g0; have p1 := hu3.g1; have HU3 : Hid _ := And.intro hG3 (And.intro hu3 (((HH.out.2.2.1).fr ((Fr.refl noB _).drew) id).fr hF3 id)); clear hG3 hu3 hF3)
      | (go_at_call 24; (with_reducible refine (HK2.out _).mono ?_); rintro e w4 ⟨rfl, hF4⟩; have hG4 := HU3.out.1.trans hF4; have hu4 := HU3.out.2.1.fr hF4 id; have q0 := hu4.g0; have q1 := hu4.g1; have qf0 := hu4.f 0; have qf1 := hu4.f 1; have HU : Hid _ := And.intro hG4 (And.intro hu4 (HU3.out.2.2.fr hF4 id)); clear hG4 hu4 hF4))
  have HU5 : Hid (RAt ((w4.setCell ⟨w.heap.size + 1 + 1 + 1, 0, none⟩ (.string t)).setCell ⟨w.heap.size + 1 + 1 + 1, 1, none⟩ (.string u)) (w.heap.size + 1 + 1 + 1) t u fx ar r1 c1 x1 y1 r2 c2 x2 y2) := (HU.out.2.1.s0 t).s1 u
  have HO5 : Hid (RAt ((w4.setCell ⟨w.heap.size + 1 + 1 + 1, 0, none⟩ (.string t)).setCell ⟨w.heap.size + 1 + 1 + 1, 1, none⟩ (.string u)) (w.heap.size + 1 + 1) ⟨#[]⟩ ⟨#[]⟩ false false 0 0 false false 0 0 false false) := (HU.out.2.2.setO _ _ _ (by omega)).setO _ _ _ (by omega)
  have HF5 : Hid (Fr noB w ((w4.setCell ⟨w.heap.size + 1 + 1 + 1, 0, none⟩ (.string t)).setCell ⟨w.heap.size + 1 + 1 + 1, 1, none⟩ (.string u))) := (HU.out.1.setCell ⟨w.heap.size + 1 + 1 + 1, 0, none⟩ (Or.inr (by show w.heap.size ≤ w.heap.size + 1 + 1 + 1; omega)) _).setCell ⟨w.heap.size + 1 + 1 + 1, 1, none⟩ (Or.inr (by show w.heap.size ≤ w.heap.size + 1 + 1 + 1; omega)) _
  go_wp2_with (first
    | (refine wpList_load_row rfl 46 (.tmp 6) rfl (w.heap.size + 1 + 1 + 1) rfl 46 #[.string t, .string u, .bool fx, .bool ar, .int .i64 r1, .int .i64 c1, .bool x1, .bool y1, .int .i64 r2, .int .i64 c2, .bool x2, .bool y2] (0, 0) _ HU5.out.o Tryd.underlying46 rfl info_ref ?_)
    | (refine wpList_store_row rfl 46 (.tmp 4) (.tmp 33) rfl (w.heap.size + 1 + 1) #[.string t, .string u, .bool fx, .bool ar, .int .i64 r1, .int .i64 c1, .bool x1, .bool y1, .int .i64 r2, .int .i64 c2, .bool x2, .bool y2] rfl rfl 46 _ HO5.out.o info_ref rfl (ref_one _ _ _ _ _ _ _ _ _ _ _ _) ?_))
  refine bodyPost_ret (rret2 rfl _ _ (w.heap.size + 1 + 1) rfl rfl (HO5.out.row t u fx ar r1 c1 x1 y1 r2 c2 x2 y2)) rfl ⟨rfl, HF5.out.setRowR _ (Or.inr (by omega)) _⟩
set_option maxRecDepth 100000 in
set_option maxHeartbeats 2000000 in
theorem cref_b (ao : Option Addr) (l cap : Nat) (K : Int) (sh : ByteArray) (At N : Int) (nm : ByteArray) (home : Bool) (t u : ByteArray) (fx ar : Bool) (r1 c1 : Int) (x1 y1 : Bool) (r2 c2 : Int) (x2 y2 : Bool) (w : World) (ht : t.size ≤ 140737488355328) (hu : u.size ≤ 140737488355328) (hc : ¬ chkF t u fx ar r1 c1 r2 c2 x2 y2 = 0) :
    Calls Tryd.prog 42 #[.agg #[.slice ao l cap, .int .i64 K, .string sh, .int .i64 At, .int .i64 N, .string nm, .bool true, .bool home], (.agg #[.string t, .string u, .bool fx, .bool ar, .int .i64 r1, .int .i64 c1, .bool x1, .bool y1, .int .i64 r2, .int .i64 c2, .bool x2, .bool y2])] w fun e w' => e = .returned (.tuple #[(.agg #[.string t, .string u, .bool fx, .bool ar, .int .i64 r1, .int .i64 c1, .bool x1, .bool y1, .int .i64 r2, .int .i64 c2, .bool x2, .bool y2]), .bool true]) ∧ Fr noB w w' := by
  have HK1 : Hid _ := fun w => clone_any t w (by omega)
  have HK2 : Hid _ := fun w => clone_any u w (by omega)
  have HCK := check_any t u fx ar r1 c1 x1 y1 r2 c2 x2 y2
  obtain ⟨W0, hW0⟩ : ∃ W0, (((w.alloc (.cells #[.slice ao l cap, .int .i64 K, .string sh, .int .i64 At, .int .i64 N, .string nm, .bool true, .bool home] 70 (0, 0))).alloc (.cells #[.string t, .string u, .bool fx, .bool ar, .int .i64 r1, .int .i64 c1, .bool x1, .bool y1, .int .i64 r2, .int .i64 c2, .bool x2, .bool y2] 46 (0, 0))).alloc (.cells #[.string ⟨#[]⟩, .string ⟨#[]⟩, .bool false, .bool false, .int .i64 0, .int .i64 0, .bool false, .bool false, .int .i64 0, .int .i64 0, .bool false, .bool false] 46 (0, 0))).alloc (.cells #[.string t, .string u, .bool fx, .bool ar, .int .i64 r1, .int .i64 c1, .bool x1, .bool y1, .int .i64 r2, .int .i64 c2, .bool x2, .bool y2] 46 (0, 0)) = W0 := ⟨_, rfl⟩
  have hC : HAt W0 w.heap.size ao l cap K sh At N nm true home := by rw [← hW0]; exact ⟨old1 (old1 (old1 (heap_alloc_new w _)))⟩
  have hR : RAt W0 (w.heap.size + 1) t u fx ar r1 c1 x1 y1 r2 c2 x2 y2 := by rw [← hW0]; exact ⟨old1 (old1 (new1 _ _ _ (by simp)))⟩
  have hO : RAt W0 (w.heap.size + 1 + 1) ⟨#[]⟩ ⟨#[]⟩ false false 0 0 false false 0 0 false false := by rw [← hW0]; exact ⟨old1 (new1 _ _ _ (by simp))⟩
  have hU : RAt W0 (w.heap.size + 1 + 1 + 1) t u fx ar r1 c1 x1 y1 r2 c2 x2 y2 := by rw [← hW0]; exact ⟨new1 _ _ _ (by simp)⟩
  have hF0 : Fr noB w W0 := by rw [← hW0]; exact ((((Fr.refl noB w).alloc _).alloc _).alloc _).alloc _
  have HH : Hid _ := And.intro hC (And.intro hR (And.intro hO (And.intro hU hF0)))
  have HQ : Hid (RAt (((w.alloc (.cells #[.slice ao l cap, .int .i64 K, .string sh, .int .i64 At, .int .i64 N, .string nm, .bool true, .bool home] 70 (0, 0))).alloc (.cells #[.string t, .string u, .bool fx, .bool ar, .int .i64 r1, .int .i64 c1, .bool x1, .bool y1, .int .i64 r2, .int .i64 c2, .bool x2, .bool y2] 46 (0, 0))).alloc (.cells #[.string ⟨#[]⟩, .string ⟨#[]⟩, .bool false, .bool false, .int .i64 0, .int .i64 0, .bool false, .bool false, .int .i64 0, .int .i64 0, .bool false, .bool false] 46 (0, 0))) (w.heap.size + 1) t u fx ar r1 c1 x1 y1 r2 c2 x2 y2) := ⟨old1 (new1 _ _ _ (by simp))⟩
  have k6 := hC.c6
  have g0 := hR.g0; have g1 := hR.g1; have g2 := hR.g2; have g3 := hR.g3; have g4 := hR.g4; have g5 := hR.g5; have g6 := hR.g6; have g7 := hR.g7; have g8 := hR.g8; have g9 := hR.g9; have g10 := hR.g10; have g11 := hR.g11
  have u0 := hU.g0; have u1 := hU.g1; have uf0 := hU.f 0; have uf1 := hU.f 1
  clear hC hR hO hU hF0 ht hu
  generalize chkF t u fx ar r1 c1 r2 c2 x2 y2 = v at *
  have hv : (v == 0) = false := by simpa using hc
  clear hc
  go_enter Tryd.func42, Tryd.ntmps42
  go_wp2_with (first
    | (refine wpList_load_row rfl 46 (.tmp 3) rfl (w.heap.size + 1) rfl 46 #[.string t, .string u, .bool fx, .bool ar, .int .i64 r1, .int .i64 c1, .bool x1, .bool y1, .int .i64 r2, .int .i64 c2, .bool x2, .bool y2] (0, 0) _ HQ.out.o Tryd.underlying46 rfl info_ref ?_)
    | (go_at_call 52; refine (HCK _).mono ?_; rintro e w1 ⟨rfl, hF1⟩; have hu1 := HH.out.2.2.2.1.fr hF1 id; have v0 := hu1.g0; have v1 := hu1.g1; have HW1 : Hid _ := And.intro (HH.out.2.2.2.2.trans hF1) (And.intro hu1 (And.intro (HH.out.2.2.1.fr hF1 id) (And.intro (HH.out.2.1.fr hF1 id) (HH.out.1.fr hF1)))); clear hF1 hu1))
  go_region_held3 (fun w' => w'.cell? ⟨w.heap.size + 1 + 1 + 1, 0, none⟩ = some (.string t) ∧ w'.cell? ⟨w.heap.size + 1 + 1 + 1, 1, none⟩ = some (.string u)) (first | exact ⟨v0, v1⟩ | exact ⟨p0, p1⟩ | exact ⟨q0, q1⟩ | exact ⟨(HU.out.2.1.s0 t).g0, (HU.out.2.1.s0 t).g1⟩ | exact ⟨((HU.out.2.1.s0 t).s1 u).g0, ((HU.out.2.1.s0 t).s1 u).g1⟩)
    (first
      | (go_at_call 24; (with_reducible refine (HK1.out _).mono ?_); rintro e w3 ⟨rfl, hF3⟩; have hG3 := (HW1.out.1).drew.trans hF3; have hu3 := ((HW1.out.2.1).fr ((Fr.refl noB _).drew) id).fr hF3 id; have p0 := hu3.g0; have p1 := hu3.g1; have HU3 : Hid _ := And.intro hG3 (And.intro hu3 (((HW1.out.2.2.1).fr ((Fr.refl noB _).drew) id).fr hF3 id)); clear hG3 hu3 hF3)
      | (go_at_call 24; (with_reducible refine (HK2.out _).mono ?_); rintro e w4 ⟨rfl, hF4⟩; have hG4 := HU3.out.1.trans hF4; have hu4 := HU3.out.2.1.fr hF4 id; have q0 := hu4.g0; have q1 := hu4.g1; have qf0 := hu4.f 0; have qf1 := hu4.f 1; have HU : Hid _ := And.intro hG4 (And.intro hu4 (HU3.out.2.2.fr hF4 id)); clear hG4 hu4 hF4))
  have HU5 : Hid (RAt ((w4.setCell ⟨w.heap.size + 1 + 1 + 1, 0, none⟩ (.string t)).setCell ⟨w.heap.size + 1 + 1 + 1, 1, none⟩ (.string u)) (w.heap.size + 1 + 1 + 1) t u fx ar r1 c1 x1 y1 r2 c2 x2 y2) := (HU.out.2.1.s0 t).s1 u
  have HO5 : Hid (RAt ((w4.setCell ⟨w.heap.size + 1 + 1 + 1, 0, none⟩ (.string t)).setCell ⟨w.heap.size + 1 + 1 + 1, 1, none⟩ (.string u)) (w.heap.size + 1 + 1) ⟨#[]⟩ ⟨#[]⟩ false false 0 0 false false 0 0 false false) := (HU.out.2.2.setO _ _ _ (by omega)).setO _ _ _ (by omega)
  have HF5 : Hid (Fr noB w ((w4.setCell ⟨w.heap.size + 1 + 1 + 1, 0, none⟩ (.string t)).setCell ⟨w.heap.size + 1 + 1 + 1, 1, none⟩ (.string u))) := (HU.out.1.setCell ⟨w.heap.size + 1 + 1 + 1, 0, none⟩ (Or.inr (by show w.heap.size ≤ w.heap.size + 1 + 1 + 1; omega)) _).setCell ⟨w.heap.size + 1 + 1 + 1, 1, none⟩ (Or.inr (by show w.heap.size ≤ w.heap.size + 1 + 1 + 1; omega)) _
  go_wp2_with (first
    | (refine wpList_load_row rfl 46 (.tmp 6) rfl (w.heap.size + 1 + 1 + 1) rfl 46 #[.string t, .string u, .bool fx, .bool ar, .int .i64 r1, .int .i64 c1, .bool x1, .bool y1, .int .i64 r2, .int .i64 c2, .bool x2, .bool y2] (0, 0) _ HU5.out.o Tryd.underlying46 rfl info_ref ?_)
    | (refine wpList_store_row rfl 46 (.tmp 4) (.tmp 33) rfl (w.heap.size + 1 + 1) #[.string t, .string u, .bool fx, .bool ar, .int .i64 r1, .int .i64 c1, .bool x1, .bool y1, .int .i64 r2, .int .i64 c2, .bool x2, .bool y2] rfl rfl 46 _ HO5.out.o info_ref rfl (ref_one _ _ _ _ _ _ _ _ _ _ _ _) ?_))
  refine bodyPost_ret (rret2 rfl _ _ (w.heap.size + 1 + 1) rfl rfl (HO5.out.row t u fx ar r1 c1 x1 y1 r2 c2 x2 y2)) rfl ⟨rfl, HF5.out.setRowR _ (Or.inr (by omega)) _⟩
set_option maxRecDepth 100000 in
set_option maxHeartbeats 2000000 in
theorem cref_c (ao : Option Addr) (l cap : Nat) (K : Int) (sh : ByteArray) (At N : Int) (nm : ByteArray) (home : Bool) (t u : ByteArray) (fx ar : Bool) (r1 c1 : Int) (x1 y1 : Bool) (r2 c2 : Int) (x2 y2 : Bool) (t' u' : ByteArray) (fx' ar' : Bool) (r1' c1' : Int) (x1' y1' : Bool) (r2' c2' : Int) (x2' y2' : Bool) (w : World) (ht : t'.size ≤ 140737488355328) (hu : u'.size ≤ 140737488355328) (hc : chkF t u fx ar r1 c1 r2 c2 x2 y2 = 0)
    (HV : ∀ W, Calls Tryd.prog 53 #[.agg #[.slice ao l cap, .int .i64 K, .string sh, .int .i64 At, .int .i64 N, .string nm, .bool true, .bool home], (.agg #[.string t, .string u, .bool fx, .bool ar, .int .i64 r1, .int .i64 c1, .bool x1, .bool y1, .int .i64 r2, .int .i64 c2, .bool x2, .bool y2])] W fun e w' => e = .returned (.tuple #[(.agg #[.string t', .string u', .bool fx', .bool ar', .int .i64 r1', .int .i64 c1', .bool x1', .bool y1', .int .i64 r2', .int .i64 c2', .bool x2', .bool y2']), .bool true]) ∧ Fr noB W w') :
    Calls Tryd.prog 42 #[.agg #[.slice ao l cap, .int .i64 K, .string sh, .int .i64 At, .int .i64 N, .string nm, .bool true, .bool home], (.agg #[.string t, .string u, .bool fx, .bool ar, .int .i64 r1, .int .i64 c1, .bool x1, .bool y1, .int .i64 r2, .int .i64 c2, .bool x2, .bool y2])] w fun e w' => e = .returned (.tuple #[(.agg #[.string t', .string u', .bool fx', .bool ar', .int .i64 r1', .int .i64 c1', .bool x1', .bool y1', .int .i64 r2', .int .i64 c2', .bool x2', .bool y2']), .bool true]) ∧ Fr noB w w' := by
  have HK1 : Hid _ := fun w => clone_any t' w (by omega)
  have HK2 : Hid _ := fun w => clone_any u' w (by omega)
  have HCK := check_any t u fx ar r1 c1 x1 y1 r2 c2 x2 y2
  rw [hc] at HCK
  have HV : Hid _ := HV
  obtain ⟨W0, hW0⟩ : ∃ W0, (((w.alloc (.cells #[.slice ao l cap, .int .i64 K, .string sh, .int .i64 At, .int .i64 N, .string nm, .bool true, .bool home] 70 (0, 0))).alloc (.cells #[.string t, .string u, .bool fx, .bool ar, .int .i64 r1, .int .i64 c1, .bool x1, .bool y1, .int .i64 r2, .int .i64 c2, .bool x2, .bool y2] 46 (0, 0))).alloc (.cells #[.string ⟨#[]⟩, .string ⟨#[]⟩, .bool false, .bool false, .int .i64 0, .int .i64 0, .bool false, .bool false, .int .i64 0, .int .i64 0, .bool false, .bool false] 46 (0, 0))).alloc (.cells #[.string t, .string u, .bool fx, .bool ar, .int .i64 r1, .int .i64 c1, .bool x1, .bool y1, .int .i64 r2, .int .i64 c2, .bool x2, .bool y2] 46 (0, 0)) = W0 := ⟨_, rfl⟩
  have hC : HAt W0 w.heap.size ao l cap K sh At N nm true home := by rw [← hW0]; exact ⟨old1 (old1 (old1 (heap_alloc_new w _)))⟩
  have hR : RAt W0 (w.heap.size + 1) t u fx ar r1 c1 x1 y1 r2 c2 x2 y2 := by rw [← hW0]; exact ⟨old1 (old1 (new1 _ _ _ (by simp)))⟩
  have hO : RAt W0 (w.heap.size + 1 + 1) ⟨#[]⟩ ⟨#[]⟩ false false 0 0 false false 0 0 false false := by rw [← hW0]; exact ⟨old1 (new1 _ _ _ (by simp))⟩
  have hU : RAt W0 (w.heap.size + 1 + 1 + 1) t u fx ar r1 c1 x1 y1 r2 c2 x2 y2 := by rw [← hW0]; exact ⟨new1 _ _ _ (by simp)⟩
  have hF0 : Fr noB w W0 := by rw [← hW0]; exact ((((Fr.refl noB w).alloc _).alloc _).alloc _).alloc _
  have HH : Hid _ := And.intro hC (And.intro hR (And.intro hO (And.intro hU hF0)))
  have HQ : Hid (RAt (((w.alloc (.cells #[.slice ao l cap, .int .i64 K, .string sh, .int .i64 At, .int .i64 N, .string nm, .bool true, .bool home] 70 (0, 0))).alloc (.cells #[.string t, .string u, .bool fx, .bool ar, .int .i64 r1, .int .i64 c1, .bool x1, .bool y1, .int .i64 r2, .int .i64 c2, .bool x2, .bool y2] 46 (0, 0))).alloc (.cells #[.string ⟨#[]⟩, .string ⟨#[]⟩, .bool false, .bool false, .int .i64 0, .int .i64 0, .bool false, .bool false, .int .i64 0, .int .i64 0, .bool false, .bool false] 46 (0, 0))) (w.heap.size + 1) t u fx ar r1 c1 x1 y1 r2 c2 x2 y2) := ⟨old1 (new1 _ _ _ (by simp))⟩
  have k6 := hC.c6
  have g0 := hR.g0; have g1 := hR.g1; have g2 := hR.g2; have g3 := hR.g3; have g4 := hR.g4; have g5 := hR.g5; have g6 := hR.g6; have g7 := hR.g7; have g8 := hR.g8; have g9 := hR.g9; have g10 := hR.g10; have g11 := hR.g11
  have u0 := hU.g0; have u1 := hU.g1; have uf0 := hU.f 0; have uf1 := hU.f 1
  clear hC hR hO hU hF0 ht hu hc
  go_enter Tryd.func42, Tryd.ntmps42
  go_wp2_with (first
    | (refine wpList_load_row rfl 46 (.tmp 3) rfl (w.heap.size + 1) rfl 46 #[.string t, .string u, .bool fx, .bool ar, .int .i64 r1, .int .i64 c1, .bool x1, .bool y1, .int .i64 r2, .int .i64 c2, .bool x2, .bool y2] (0, 0) _ HQ.out.o Tryd.underlying46 rfl info_ref ?_)
    | (go_at_call 52; refine (HCK _).mono ?_; rintro e w1 ⟨rfl, hF1⟩; have hu1 := HH.out.2.2.2.1.fr hF1 id; have v0 := hu1.g0; have v1 := hu1.g1; have HW1 : Hid _ := And.intro (HH.out.2.2.2.2.trans hF1) (And.intro hu1 (And.intro (HH.out.2.2.1.fr hF1 id) (And.intro (HH.out.2.1.fr hF1 id) (HH.out.1.fr hF1)))); clear hF1 hu1)
    | (refine wpList_load_row rfl 70 (.tmp 2) rfl w.heap.size rfl 70 #[.slice ao l cap, .int .i64 K, .string sh, .int .i64 At, .int .i64 N, .string nm, .bool true, .bool home] (0, 0) _ HW1.out.2.2.2.2.o Tryd.underlying70 rfl info_change ?_)
    | (refine wpList_load_row rfl 46 (.tmp 3) rfl (w.heap.size + 1) rfl 46 #[.string t, .string u, .bool fx, .bool ar, .int .i64 r1, .int .i64 c1, .bool x1, .bool y1, .int .i64 r2, .int .i64 c2, .bool x2, .bool y2] (0, 0) _ HW1.out.2.2.2.1.o Tryd.underlying46 rfl info_ref ?_)
    | (go_at_call 53; refine (HV.out _).mono ?_; rintro e w2 ⟨rfl, hF2⟩; have HW2 : Hid _ := And.intro (HW1.out.1.trans hF2) (And.intro (HW1.out.2.1.fr hF2 id) (HW1.out.2.2.1.fr hF2 id)); clear hF2)
    | (refine wpList_store_row rfl 46 (.tmp 6) (.tmp 20) rfl (w.heap.size + 1 + 1 + 1) #[.string t', .string u', .bool fx', .bool ar', .int .i64 r1', .int .i64 c1', .bool x1', .bool y1', .int .i64 r2', .int .i64 c2', .bool x2', .bool y2'] rfl rfl 46 _ HW2.out.2.1.o info_ref rfl (ref_one _ _ _ _ _ _ _ _ _ _ _ _) ?_
       obtain ⟨W3, hW3⟩ : ∃ W3, (w2.setRow (w.heap.size + 1 + 1 + 1) #[.string t', .string u', .bool fx', .bool ar', .int .i64 r1', .int .i64 c1', .bool x1', .bool y1', .int .i64 r2', .int .i64 c2', .bool x2', .bool y2']) = W3 := ⟨_, rfl⟩
       have hu5 : RAt W3 (w.heap.size + 1 + 1 + 1) t' u' fx' ar' r1' c1' x1' y1' r2' c2' x2' y2' := (by rw [← hW3]; exact HW2.out.2.1.row t' u' fx' ar' r1' c1' x1' y1' r2' c2' x2' y2')
       have ho5 : RAt W3 (w.heap.size + 1 + 1) ⟨#[]⟩ ⟨#[]⟩ false false 0 0 false false 0 0 false false := (by rw [← hW3]; exact ⟨(setRow_other w2 (w.heap.size + 1 + 1 + 1) (w.heap.size + 1 + 1) _ (by omega)).trans HW2.out.2.2.o⟩)
       have hf5 : Fr noB w W3 := (by rw [← hW3]; exact HW2.out.1.setRowR _ (Or.inr (by omega)) _)
       rw [hW3]
       clear hW3
       have y0 := hu5.g0; have y1 := hu5.g1
       have HW3 : Hid _ := And.intro hf5 (And.intro hu5 ho5)
       clear hu5 ho5 hf5))
  go_region_held3 (fun w' => w'.cell? ⟨w.heap.size + 1 + 1 + 1, 0, none⟩ = some (.string t') ∧ w'.cell? ⟨w.heap.size + 1 + 1 + 1, 1, none⟩ = some (.string u')) (first | exact ⟨y0, y1⟩ | exact ⟨p0, p1⟩ | exact ⟨q0, q1⟩ | exact ⟨(HU.out.2.1.s0 t').g0, (HU.out.2.1.s0 t').g1⟩ | exact ⟨((HU.out.2.1.s0 t').s1 u').g0, ((HU.out.2.1.s0 t').s1 u').g1⟩)
    (first
      | (go_at_call 24; (with_reducible refine (HK1.out _).mono ?_); rintro e w3 ⟨rfl, hF3⟩; have hG3 := (HW3.out.1).drew.trans hF3; have hu3 := ((HW3.out.2.1).fr ((Fr.refl noB _).drew) id).fr hF3 id; have p0 := hu3.g0; have p1 := hu3.g1; have HU3 : Hid _ := And.intro hG3 (And.intro hu3 (((HW3.out.2.2).fr ((Fr.refl noB _).drew) id).fr hF3 id)); clear hG3 hu3 hF3)
      | (go_at_call 24; (with_reducible refine (HK2.out _).mono ?_); rintro e w4 ⟨rfl, hF4⟩; have hG4 := HU3.out.1.trans hF4; have hu4 := HU3.out.2.1.fr hF4 id; have q0 := hu4.g0; have q1 := hu4.g1; have qf0 := hu4.f 0; have qf1 := hu4.f 1; have HU : Hid _ := And.intro hG4 (And.intro hu4 (HU3.out.2.2.fr hF4 id)); clear hG4 hu4 hF4))
  have HU5 : Hid (RAt ((w4.setCell ⟨w.heap.size + 1 + 1 + 1, 0, none⟩ (.string t')).setCell ⟨w.heap.size + 1 + 1 + 1, 1, none⟩ (.string u')) (w.heap.size + 1 + 1 + 1) t' u' fx' ar' r1' c1' x1' y1' r2' c2' x2' y2') := (HU.out.2.1.s0 t').s1 u'
  have HO5 : Hid (RAt ((w4.setCell ⟨w.heap.size + 1 + 1 + 1, 0, none⟩ (.string t')).setCell ⟨w.heap.size + 1 + 1 + 1, 1, none⟩ (.string u')) (w.heap.size + 1 + 1) ⟨#[]⟩ ⟨#[]⟩ false false 0 0 false false 0 0 false false) := (HU.out.2.2.setO _ _ _ (by omega)).setO _ _ _ (by omega)
  have HF5 : Hid (Fr noB w ((w4.setCell ⟨w.heap.size + 1 + 1 + 1, 0, none⟩ (.string t')).setCell ⟨w.heap.size + 1 + 1 + 1, 1, none⟩ (.string u'))) := (HU.out.1.setCell ⟨w.heap.size + 1 + 1 + 1, 0, none⟩ (Or.inr (by show w.heap.size ≤ w.heap.size + 1 + 1 + 1; omega)) _).setCell ⟨w.heap.size + 1 + 1 + 1, 1, none⟩ (Or.inr (by show w.heap.size ≤ w.heap.size + 1 + 1 + 1; omega)) _
  go_wp2_with (first
    | (refine wpList_load_row rfl 46 (.tmp 6) rfl (w.heap.size + 1 + 1 + 1) rfl 46 #[.string t', .string u', .bool fx', .bool ar', .int .i64 r1', .int .i64 c1', .bool x1', .bool y1', .int .i64 r2', .int .i64 c2', .bool x2', .bool y2'] (0, 0) _ HU5.out.o Tryd.underlying46 rfl info_ref ?_)
    | (refine wpList_store_row rfl 46 (.tmp 4) (.tmp 33) rfl (w.heap.size + 1 + 1) #[.string t', .string u', .bool fx', .bool ar', .int .i64 r1', .int .i64 c1', .bool x1', .bool y1', .int .i64 r2', .int .i64 c2', .bool x2', .bool y2'] rfl rfl 46 _ HO5.out.o info_ref rfl (ref_one _ _ _ _ _ _ _ _ _ _ _ _) ?_))
  refine bodyPost_ret (rret2 rfl _ _ (w.heap.size + 1 + 1) rfl rfl (HO5.out.row t' u' fx' ar' r1' c1' x1' y1' r2' c2' x2' y2')) rfl ⟨rfl, HF5.out.setRowR _ (Or.inr (by omega)) _⟩
set_option maxRecDepth 100000 in
set_option maxHeartbeats 2000000 in
theorem cref_d (ao : Option Addr) (l cap : Nat) (K : Int) (sh : ByteArray) (At N : Int) (nm : ByteArray) (home : Bool) (t u : ByteArray) (fx ar : Bool) (r1 c1 : Int) (x1 y1 : Bool) (r2 c2 : Int) (x2 y2 : Bool) (t' u' : ByteArray) (fx' ar' : Bool) (r1' c1' : Int) (x1' y1' : Bool) (r2' c2' : Int) (x2' y2' : Bool) (w : World) (hc : chkF t u fx ar r1 c1 r2 c2 x2 y2 = 0)
    (HV : ∀ W, Calls Tryd.prog 53 #[.agg #[.slice ao l cap, .int .i64 K, .string sh, .int .i64 At, .int .i64 N, .string nm, .bool true, .bool home], (.agg #[.string t, .string u, .bool fx, .bool ar, .int .i64 r1, .int .i64 c1, .bool x1, .bool y1, .int .i64 r2, .int .i64 c2, .bool x2, .bool y2])] W fun e w' => e = .returned (.tuple #[(.agg #[.string t', .string u', .bool fx', .bool ar', .int .i64 r1', .int .i64 c1', .bool x1', .bool y1', .int .i64 r2', .int .i64 c2', .bool x2', .bool y2']), .bool false]) ∧ Fr noB W w') :
    Calls Tryd.prog 42 #[.agg #[.slice ao l cap, .int .i64 K, .string sh, .int .i64 At, .int .i64 N, .string nm, .bool true, .bool home], (.agg #[.string t, .string u, .bool fx, .bool ar, .int .i64 r1, .int .i64 c1, .bool x1, .bool y1, .int .i64 r2, .int .i64 c2, .bool x2, .bool y2])] w fun e w' => e = .returned (.tuple #[(.agg #[.string ⟨#[]⟩, .string ⟨#[]⟩, .bool false, .bool false, .int .i64 0, .int .i64 0, .bool false, .bool false, .int .i64 0, .int .i64 0, .bool false, .bool false]), .bool false]) ∧ Fr noB w w' := by
  have HCK := check_any t u fx ar r1 c1 x1 y1 r2 c2 x2 y2
  rw [hc] at HCK
  have HV : Hid _ := HV
  obtain ⟨W0, hW0⟩ : ∃ W0, (((w.alloc (.cells #[.slice ao l cap, .int .i64 K, .string sh, .int .i64 At, .int .i64 N, .string nm, .bool true, .bool home] 70 (0, 0))).alloc (.cells #[.string t, .string u, .bool fx, .bool ar, .int .i64 r1, .int .i64 c1, .bool x1, .bool y1, .int .i64 r2, .int .i64 c2, .bool x2, .bool y2] 46 (0, 0))).alloc (.cells #[.string ⟨#[]⟩, .string ⟨#[]⟩, .bool false, .bool false, .int .i64 0, .int .i64 0, .bool false, .bool false, .int .i64 0, .int .i64 0, .bool false, .bool false] 46 (0, 0))).alloc (.cells #[.string t, .string u, .bool fx, .bool ar, .int .i64 r1, .int .i64 c1, .bool x1, .bool y1, .int .i64 r2, .int .i64 c2, .bool x2, .bool y2] 46 (0, 0)) = W0 := ⟨_, rfl⟩
  have hC : HAt W0 w.heap.size ao l cap K sh At N nm true home := by rw [← hW0]; exact ⟨old1 (old1 (old1 (heap_alloc_new w _)))⟩
  have hR : RAt W0 (w.heap.size + 1) t u fx ar r1 c1 x1 y1 r2 c2 x2 y2 := by rw [← hW0]; exact ⟨old1 (old1 (new1 _ _ _ (by simp)))⟩
  have hO : RAt W0 (w.heap.size + 1 + 1) ⟨#[]⟩ ⟨#[]⟩ false false 0 0 false false 0 0 false false := by rw [← hW0]; exact ⟨old1 (new1 _ _ _ (by simp))⟩
  have hU : RAt W0 (w.heap.size + 1 + 1 + 1) t u fx ar r1 c1 x1 y1 r2 c2 x2 y2 := by rw [← hW0]; exact ⟨new1 _ _ _ (by simp)⟩
  have hF0 : Fr noB w W0 := by rw [← hW0]; exact ((((Fr.refl noB w).alloc _).alloc _).alloc _).alloc _
  have HH : Hid _ := And.intro hC (And.intro hR (And.intro hO (And.intro hU hF0)))
  have HQ : Hid (RAt (((w.alloc (.cells #[.slice ao l cap, .int .i64 K, .string sh, .int .i64 At, .int .i64 N, .string nm, .bool true, .bool home] 70 (0, 0))).alloc (.cells #[.string t, .string u, .bool fx, .bool ar, .int .i64 r1, .int .i64 c1, .bool x1, .bool y1, .int .i64 r2, .int .i64 c2, .bool x2, .bool y2] 46 (0, 0))).alloc (.cells #[.string ⟨#[]⟩, .string ⟨#[]⟩, .bool false, .bool false, .int .i64 0, .int .i64 0, .bool false, .bool false, .int .i64 0, .int .i64 0, .bool false, .bool false] 46 (0, 0))) (w.heap.size + 1) t u fx ar r1 c1 x1 y1 r2 c2 x2 y2) := ⟨old1 (new1 _ _ _ (by simp))⟩
  have k6 := hC.c6
  have g0 := hR.g0; have g1 := hR.g1; have g2 := hR.g2; have g3 := hR.g3; have g4 := hR.g4; have g5 := hR.g5; have g6 := hR.g6; have g7 := hR.g7; have g8 := hR.g8; have g9 := hR.g9; have g10 := hR.g10; have g11 := hR.g11
  have u0 := hU.g0; have u1 := hU.g1; have uf0 := hU.f 0; have uf1 := hU.f 1
  clear hC hR hO hU hF0 hc
  go_enter Tryd.func42, Tryd.ntmps42
  go_wp2_with (first
    | (refine wpList_load_row rfl 46 (.tmp 3) rfl (w.heap.size + 1) rfl 46 #[.string t, .string u, .bool fx, .bool ar, .int .i64 r1, .int .i64 c1, .bool x1, .bool y1, .int .i64 r2, .int .i64 c2, .bool x2, .bool y2] (0, 0) _ HQ.out.o Tryd.underlying46 rfl info_ref ?_)
    | (go_at_call 52; refine (HCK _).mono ?_; rintro e w1 ⟨rfl, hF1⟩; have hu1 := HH.out.2.2.2.1.fr hF1 id; have v0 := hu1.g0; have v1 := hu1.g1; have HW1 : Hid _ := And.intro (HH.out.2.2.2.2.trans hF1) (And.intro hu1 (And.intro (HH.out.2.2.1.fr hF1 id) (And.intro (HH.out.2.1.fr hF1 id) (HH.out.1.fr hF1)))); clear hF1 hu1)
    | (refine wpList_load_row rfl 70 (.tmp 2) rfl w.heap.size rfl 70 #[.slice ao l cap, .int .i64 K, .string sh, .int .i64 At, .int .i64 N, .string nm, .bool true, .bool home] (0, 0) _ HW1.out.2.2.2.2.o Tryd.underlying70 rfl info_change ?_)
    | (refine wpList_load_row rfl 46 (.tmp 3) rfl (w.heap.size + 1) rfl 46 #[.string t, .string u, .bool fx, .bool ar, .int .i64 r1, .int .i64 c1, .bool x1, .bool y1, .int .i64 r2, .int .i64 c2, .bool x2, .bool y2] (0, 0) _ HW1.out.2.2.2.1.o Tryd.underlying46 rfl info_ref ?_)
    | (go_at_call 53; refine (HV.out _).mono ?_; rintro e w2 ⟨rfl, hF2⟩; have HW2 : Hid _ := And.intro (HW1.out.1.trans hF2) (And.intro (HW1.out.2.1.fr hF2 id) (HW1.out.2.2.1.fr hF2 id)); clear hF2)
    | (refine wpList_store_row rfl 46 (.tmp 6) (.tmp 20) rfl (w.heap.size + 1 + 1 + 1) #[.string t', .string u', .bool fx', .bool ar', .int .i64 r1', .int .i64 c1', .bool x1', .bool y1', .int .i64 r2', .int .i64 c2', .bool x2', .bool y2'] rfl rfl 46 _ HW2.out.2.1.o info_ref rfl (ref_one _ _ _ _ _ _ _ _ _ _ _ _) ?_
       obtain ⟨W3, hW3⟩ : ∃ W3, (w2.setRow (w.heap.size + 1 + 1 + 1) #[.string t', .string u', .bool fx', .bool ar', .int .i64 r1', .int .i64 c1', .bool x1', .bool y1', .int .i64 r2', .int .i64 c2', .bool x2', .bool y2']) = W3 := ⟨_, rfl⟩
       have hu5 : RAt W3 (w.heap.size + 1 + 1 + 1) t' u' fx' ar' r1' c1' x1' y1' r2' c2' x2' y2' := (by rw [← hW3]; exact HW2.out.2.1.row t' u' fx' ar' r1' c1' x1' y1' r2' c2' x2' y2')
       have ho5 : RAt W3 (w.heap.size + 1 + 1) ⟨#[]⟩ ⟨#[]⟩ false false 0 0 false false 0 0 false false := (by rw [← hW3]; exact ⟨(setRow_other w2 (w.heap.size + 1 + 1 + 1) (w.heap.size + 1 + 1) _ (by omega)).trans HW2.out.2.2.o⟩)
       have hf5 : Fr noB w W3 := (by rw [← hW3]; exact HW2.out.1.setRowR _ (Or.inr (by omega)) _)
       rw [hW3]
       clear hW3
       have y0 := hu5.g0; have y1 := hu5.g1
       have HW3 : Hid _ := And.intro hf5 (And.intro hu5 ho5)
       clear hu5 ho5 hf5)
    | (refine wpList_store_row rfl 46 (.tmp 4) (.tmp 24) rfl (w.heap.size + 1 + 1) #[.string ⟨#[]⟩, .string ⟨#[]⟩, .bool false, .bool false, .int .i64 0, .int .i64 0, .bool false, .bool false, .int .i64 0, .int .i64 0, .bool false, .bool false] rfl rfl 46 _ HW3.out.2.2.o info_ref rfl (ref_one _ _ _ _ _ _ _ _ _ _ _ _) ?_))
  refine bodyPost_ret (rret2 rfl _ _ (w.heap.size + 1 + 1) rfl rfl (HW3.out.2.2.row ⟨#[]⟩ ⟨#[]⟩ false false 0 0 false false 0 0 false false)) rfl ⟨rfl, HW3.out.1.setRowR _ (Or.inr (by omega)) _⟩
#print axioms cref_c
#print axioms cref_d
end Go.Proofs.YthokhnbecgkpbaaDoor
