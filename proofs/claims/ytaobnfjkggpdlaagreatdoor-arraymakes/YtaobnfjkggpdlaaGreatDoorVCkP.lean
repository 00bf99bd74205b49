/- Check: the program's. -/
import Derived.Test.YtaobnfjkggpdlaaGreatDoorVCkR
namespace Go.Proofs.YtaobnfjkggpdlaaGreatDoor
open Go.RowKit Ieee Go.Shelf
attribute [local go_sem] run_store_float

set_option maxRecDepth 100000 in
theorem isCode_any (c : Int) (w : World) : Calls Tryz.prog 74 #[.int .i64 c] w fun e w' => e = .returned (.bool (decide (1 ≤ c ∧ c ≤ 9))) ∧ w' = w := by
  go_enter Tryz.func74, Tryz.ntmps74
  go_wp2
  all_goals
    go_ret
    refine ⟨ret_bool ?_, rfl⟩
    rw [Bool.eq_iff_iff]
    simp
    try omega
set_option maxRecDepth 100000 in
set_option maxHeartbeats 4000000 in
theorem formed0 (n : Nat) (s : ByteArray) (y : Bool) (c : Int) (w : World) :
    Calls Tryz.prog 62 #[(.agg #[.int .i64 0, .float .f64 n, .string s, .bool y, .int .i64 c])] w fun e w' => e = .returned (.bool (smB 0 n s y c 0 0 ⟨#[]⟩ false 0)) ∧ Fr noB w w' := by
  have H2 := psame_any 0 n s y c 0 0 ⟨#[]⟩ false 0
  generalize smB 0 n s y c 0 0 ⟨#[]⟩ false 0 = A at *
  go_enter Tryz.func62, Tryz.ntmps62
  go_wp2_with fail
  obtain ⟨W0, hW0⟩ : ∃ W0, w.alloc (.cells #[.int .i64 0, .float .f64 n, .string s, .bool y, .int .i64 c] 43 (0, 0)) = W0 := ⟨_, rfl⟩
  have hA : VAt W0 w.heap.size 0 n s y c := ⟨by rw [← hW0]; exact heap_alloc_new w _⟩
  have hF0 : Fr noB w W0 := by rw [← hW0]; exact (Fr.refl noB w).alloc _
  have HA : Hid _ := And.intro hA hF0
  rw [hW0]
  clear hW0
  have HK : Hid (∀ W, Fr noB W0 W → W.cell? ⟨w.heap.size, 0, none⟩ = some (.int .i64 0) ∧ W.cell? ⟨w.heap.size, 1, none⟩ = some (.float .f64 n) ∧ W.cell? ⟨w.heap.size, 2, none⟩ = some (.string s) ∧ W.cell? ⟨w.heap.size, 3, none⟩ = some (.bool y) ∧ W.cell? ⟨w.heap.size, 4, none⟩ = some (.int .i64 c)) := fun W h => ⟨(HA.out.1.fr h id).c0, (HA.out.1.fr h id).c1, (HA.out.1.fr h id).c2, (HA.out.1.fr h id).c3, (HA.out.1.fr h id).c4⟩
  have a0 := hA.c0
  have a1 := hA.c1
  have a2 := hA.c2
  have a3 := hA.c3
  have a4 := hA.c4
  clear hA hF0
  go_wp2_with fail
  refine (H2 _).mono ?_
  rintro e w2 ⟨rfl, hF2⟩
  clear HK a0 a1 a2 a3 a4
  all_goals
    go_wp2_with fail
    go_ret
    refine ⟨rfl, ?_⟩
    have hb := HA.out.2
    repeat first | assumption | exact Fr.drew (by assumption) | exact (Fr.refl _ _).drew | refine Fr.trans ?_ (by assumption)
set_option maxRecDepth 100000 in
set_option maxHeartbeats 4000000 in
theorem formed1 (n : Nat) (hn : n < 18446744073709551616) (s : ByteArray) (y : Bool) (c : Int) (w : World) :
    Calls Tryz.prog 62 #[(.agg #[.int .i64 1, .float .f64 n, .string s, .bool y, .int .i64 c])] w fun e w' => e = .returned (.bool (smB 1 n s y c (rkK n) (rkN n) ⟨#[]⟩ false (rkE n))) ∧ Fr noB w w' := by
  have H1 := preckon_any n hn
  have H2 := psame_any 1 n s y c (rkK n) (rkN n) ⟨#[]⟩ false (rkE n)
  generalize smB 1 n s y c (rkK n) (rkN n) ⟨#[]⟩ false (rkE n) = A at *
  generalize rkK n = rk at *
  generalize rkN n = rn at *
  generalize rkE n = re at *
  go_enter Tryz.func62, Tryz.ntmps62
  go_wp2_with fail
  obtain ⟨W0, hW0⟩ : ∃ W0, w.alloc (.cells #[.int .i64 1, .float .f64 n, .string s, .bool y, .int .i64 c] 43 (0, 0)) = W0 := ⟨_, rfl⟩
  have hA : VAt W0 w.heap.size 1 n s y c := ⟨by rw [← hW0]; exact heap_alloc_new w _⟩
  have hF0 : Fr noB w W0 := by rw [← hW0]; exact (Fr.refl noB w).alloc _
  have HA : Hid _ := And.intro hA hF0
  rw [hW0]
  clear hW0
  have HK : Hid (∀ W, Fr noB W0 W → W.cell? ⟨w.heap.size, 0, none⟩ = some (.int .i64 1) ∧ W.cell? ⟨w.heap.size, 1, none⟩ = some (.float .f64 n) ∧ W.cell? ⟨w.heap.size, 2, none⟩ = some (.string s) ∧ W.cell? ⟨w.heap.size, 3, none⟩ = some (.bool y) ∧ W.cell? ⟨w.heap.size, 4, none⟩ = some (.int .i64 c)) := fun W h => ⟨(HA.out.1.fr h id).c0, (HA.out.1.fr h id).c1, (HA.out.1.fr h id).c2, (HA.out.1.fr h id).c3, (HA.out.1.fr h id).c4⟩
  have a0 := hA.c0
  have a1 := hA.c1
  have a2 := hA.c2
  have a3 := hA.c3
  have a4 := hA.c4
  clear hA hF0
  go_wp2_with fail
  go_region_held3 (fun W => W.cell? ⟨w.heap.size, 0, none⟩ = some (.int .i64 1) ∧ W.cell? ⟨w.heap.size, 1, none⟩ = some (.float .f64 n) ∧ W.cell? ⟨w.heap.size, 2, none⟩ = some (.string s) ∧ W.cell? ⟨w.heap.size, 3, none⟩ = some (.bool y) ∧ W.cell? ⟨w.heap.size, 4, none⟩ = some (.int .i64 c))
    (exact HK.out _ (by repeat first | assumption | exact Fr.refl _ _ | exact Fr.drew (by assumption) | exact (Fr.refl _ _).drew | refine Fr.trans ?_ (by assumption)))
    (first
      | (go_at_call 71; refine (H1 _).mono ?_; rintro e w1 ⟨rfl, hF1⟩)
      | (go_at_call 70; refine (H2 _).mono ?_; rintro e w2 ⟨rfl, hF2⟩))
  all_goals
    go_wp2_with fail
    go_ret
    refine ⟨rfl, ?_⟩
    have hb := HA.out.2
    repeat first | assumption | exact Fr.drew (by assumption) | exact (Fr.refl _ _).drew | refine Fr.trans ?_ (by assumption)
set_option maxRecDepth 100000 in
set_option maxHeartbeats 4000000 in
theorem formed3 (n : Nat) (s : ByteArray) (y : Bool) (c : Int) (w : World) :
    Calls Tryz.prog 62 #[(.agg #[.int .i64 3, .float .f64 n, .string s, .bool y, .int .i64 c])] w fun e w' => e = .returned (.bool (smB 3 n s y c 3 0 ⟨#[]⟩ y 0)) ∧ Fr noB w w' := by
  have H1 := pbool_any y
  have H2 := psame_any 3 n s y c 3 0 ⟨#[]⟩ y 0
  generalize smB 3 n s y c 3 0 ⟨#[]⟩ y 0 = A at *
  go_enter Tryz.func62, Tryz.ntmps62
  go_wp2_with fail
  obtain ⟨W0, hW0⟩ : ∃ W0, w.alloc (.cells #[.int .i64 3, .float .f64 n, .string s, .bool y, .int .i64 c] 43 (0, 0)) = W0 := ⟨_, rfl⟩
  have hA : VAt W0 w.heap.size 3 n s y c := ⟨by rw [← hW0]; exact heap_alloc_new w _⟩
  have hF0 : Fr noB w W0 := by rw [← hW0]; exact (Fr.refl noB w).alloc _
  have HA : Hid _ := And.intro hA hF0
  rw [hW0]
  clear hW0
  have HK : Hid (∀ W, Fr noB W0 W → W.cell? ⟨w.heap.size, 0, none⟩ = some (.int .i64 3) ∧ W.cell? ⟨w.heap.size, 1, none⟩ = some (.float .f64 n) ∧ W.cell? ⟨w.heap.size, 2, none⟩ = some (.string s) ∧ W.cell? ⟨w.heap.size, 3, none⟩ = some (.bool y) ∧ W.cell? ⟨w.heap.size, 4, none⟩ = some (.int .i64 c)) := fun W h => ⟨(HA.out.1.fr h id).c0, (HA.out.1.fr h id).c1, (HA.out.1.fr h id).c2, (HA.out.1.fr h id).c3, (HA.out.1.fr h id).c4⟩
  have a0 := hA.c0
  have a1 := hA.c1
  have a2 := hA.c2
  have a3 := hA.c3
  have a4 := hA.c4
  clear hA hF0
  go_wp2_with fail
  go_region_held3 (fun W => W.cell? ⟨w.heap.size, 0, none⟩ = some (.int .i64 3) ∧ W.cell? ⟨w.heap.size, 1, none⟩ = some (.float .f64 n) ∧ W.cell? ⟨w.heap.size, 2, none⟩ = some (.string s) ∧ W.cell? ⟨w.heap.size, 3, none⟩ = some (.bool y) ∧ W.cell? ⟨w.heap.size, 4, none⟩ = some (.int .i64 c))
    (exact HK.out _ (by repeat first | assumption | exact Fr.refl _ _ | exact Fr.drew (by assumption) | exact (Fr.refl _ _).drew | refine Fr.trans ?_ (by assumption)))
    (first
      | (go_at_call 73; refine (H1 _).mono ?_; rintro e w1 ⟨rfl, hF1⟩)
      | (go_at_call 70; refine (H2 _).mono ?_; rintro e w2 ⟨rfl, hF2⟩))
  all_goals
    go_wp2_with fail
    go_ret
    refine ⟨rfl, ?_⟩
    have hb := HA.out.2
    repeat first | assumption | exact Fr.drew (by assumption) | exact (Fr.refl _ _).drew | refine Fr.trans ?_ (by assumption)
set_option maxRecDepth 100000 in
set_option maxHeartbeats 4000000 in
theorem formed2 (n : Nat) (s : ByteArray) (y : Bool) (c : Int) (w : World) (hs : s.size ≤ 140737488355328) (hU : U8 w) :
    Calls Tryz.prog 62 #[(.agg #[.int .i64 2, .float .f64 n, .string s, .bool y, .int .i64 c])] w fun e w' => e = .returned (.bool (smB 2 n s y c 2 0 s false 0 && Lib.validD s.data.toList)) ∧ Fr noB w w' := by
  have H1 := ptext_any s
  have H2 := psame_any 2 n s y c 2 0 s false 0
  have H3 : Hid (∀ W, Fr noB w W → Calls Tryz.prog 61 #[.string s] W fun e w' => e = .returned (.bool (Lib.validD s.data.toList)) ∧ Fr noB W w') := fun W hW => valid_any s W (by omega) (hU.fr hW)
  clear hU
  generalize Lib.validD s.data.toList = B at *
  generalize smB 2 n s y c 2 0 s false 0 = A at *
  cases A with
  | true =>
    rw [Bool.true_and]
    go_enter Tryz.func62, Tryz.ntmps62
    go_wp2_with fail
    obtain ⟨W0, hW0⟩ : ∃ W0, w.alloc (.cells #[.int .i64 2, .float .f64 n, .string s, .bool y, .int .i64 c] 43 (0, 0)) = W0 := ⟨_, rfl⟩
    have hA : VAt W0 w.heap.size 2 n s y c := ⟨by rw [← hW0]; exact heap_alloc_new w _⟩
    have hF0 : Fr noB w W0 := by rw [← hW0]; exact (Fr.refl noB w).alloc _
    have HA : Hid _ := And.intro hA hF0
    rw [hW0]
    clear hW0
    have HK : Hid (∀ W, Fr noB W0 W → W.cell? ⟨w.heap.size, 0, none⟩ = some (.int .i64 2) ∧ W.cell? ⟨w.heap.size, 1, none⟩ = some (.float .f64 n) ∧ W.cell? ⟨w.heap.size, 2, none⟩ = some (.string s) ∧ W.cell? ⟨w.heap.size, 3, none⟩ = some (.bool y) ∧ W.cell? ⟨w.heap.size, 4, none⟩ = some (.int .i64 c)) := fun W h => ⟨(HA.out.1.fr h id).c0, (HA.out.1.fr h id).c1, (HA.out.1.fr h id).c2, (HA.out.1.fr h id).c3, (HA.out.1.fr h id).c4⟩
    have a0 := hA.c0
    have a1 := hA.c1
    have a2 := hA.c2
    have a3 := hA.c3
    have a4 := hA.c4
    clear hA hF0
    go_wp2_with fail
    go_region_held3 (fun W => W.cell? ⟨w.heap.size, 0, none⟩ = some (.int .i64 2) ∧ W.cell? ⟨w.heap.size, 1, none⟩ = some (.float .f64 n) ∧ W.cell? ⟨w.heap.size, 2, none⟩ = some (.string s) ∧ W.cell? ⟨w.heap.size, 3, none⟩ = some (.bool y) ∧ W.cell? ⟨w.heap.size, 4, none⟩ = some (.int .i64 c))
      (exact HK.out _ (by repeat first | assumption | exact Fr.refl _ _ | exact Fr.drew (by assumption) | exact (Fr.refl _ _).drew | refine Fr.trans ?_ (by assumption)))
      (first
        | (go_at_call 72; refine (H1 _).mono ?_; rintro e w1 ⟨rfl, hF1⟩)
        | (go_at_call 70; refine (H2 _).mono ?_; rintro e w2 ⟨rfl, hF2⟩)
        | (go_at_call 61; refine (H3.out _ (by have hb := HA.out.2; repeat first | assumption | exact Fr.drew (by assumption) | exact (Fr.refl _ _).drew | refine Fr.trans ?_ (by assumption))).mono ?_; rintro e w3 ⟨rfl, hF3⟩))
    all_goals
      go_wp2_with fail
      go_ret
      refine ⟨rfl, ?_⟩
      have hb := HA.out.2
      repeat first | assumption | exact Fr.drew (by assumption) | exact (Fr.refl _ _).drew | refine Fr.trans ?_ (by assumption)
  | false =>
    rw [Bool.false_and]
    clear H3
    go_enter Tryz.func62, Tryz.ntmps62
    go_wp2_with fail
    obtain ⟨W0, hW0⟩ : ∃ W0, w.alloc (.cells #[.int .i64 2, .float .f64 n, .string s, .bool y, .int .i64 c] 43 (0, 0)) = W0 := ⟨_, rfl⟩
    have hA : VAt W0 w.heap.size 2 n s y c := ⟨by rw [← hW0]; exact heap_alloc_new w _⟩
    have hF0 : Fr noB w W0 := by rw [← hW0]; exact (Fr.refl noB w).alloc _
    have HA : Hid _ := And.intro hA hF0
    rw [hW0]
    clear hW0
    have HK : Hid (∀ W, Fr noB W0 W → W.cell? ⟨w.heap.size, 0, none⟩ = some (.int .i64 2) ∧ W.cell? ⟨w.heap.size, 1, none⟩ = some (.float .f64 n) ∧ W.cell? ⟨w.heap.size, 2, none⟩ = some (.string s) ∧ W.cell? ⟨w.heap.size, 3, none⟩ = some (.bool y) ∧ W.cell? ⟨w.heap.size, 4, none⟩ = some (.int .i64 c)) := fun W h => ⟨(HA.out.1.fr h id).c0, (HA.out.1.fr h id).c1, (HA.out.1.fr h id).c2, (HA.out.1.fr h id).c3, (HA.out.1.fr h id).c4⟩
    have a0 := hA.c0
    have a1 := hA.c1
    have a2 := hA.c2
    have a3 := hA.c3
    have a4 := hA.c4
    clear hA hF0
    go_wp2_with fail
    first
      | go_region_with (first
          | (go_at_call 72; refine (H1 _).mono ?_; rintro e w1 ⟨rfl, hF1⟩; obtain ⟨g0, g1, g2, g3, g4⟩ := HK.out w1 (by repeat first | assumption | exact Fr.refl _ _ | exact Fr.drew (by assumption) | exact (Fr.refl _ _).drew | refine Fr.trans ?_ (by assumption)))
          | (go_at_call 70; refine (H2 _).mono ?_; rintro e w2 ⟨rfl, hF2⟩; obtain ⟨g0, g1, g2, g3, g4⟩ := HK.out w2 (by repeat first | assumption | exact Fr.refl _ _ | exact Fr.drew (by assumption) | exact (Fr.refl _ _).drew | refine Fr.trans ?_ (by assumption))))
      | fail
    all_goals
      go_wp2_with fail
      go_ret
      refine ⟨rfl, ?_⟩
      have hb := HA.out.2
      repeat first | assumption | exact Fr.drew (by assumption) | exact (Fr.refl _ _).drew | refine Fr.trans ?_ (by assumption)
set_option maxRecDepth 100000 in
set_option maxHeartbeats 4000000 in
theorem formed4 (n : Nat) (s : ByteArray) (y : Bool) (c : Int) (w : World) :
    Calls Tryz.prog 62 #[(.agg #[.int .i64 4, .float .f64 n, .string s, .bool y, .int .i64 c])] w fun e w' => e = .returned (.bool (smB 4 n s y c 4 0 ⟨#[]⟩ false c && decide (1 ≤ c ∧ c ≤ 9))) ∧ Fr noB w w' := by
  have H1 := perr_any c
  have H2 := psame_any 4 n s y c 4 0 ⟨#[]⟩ false c
  have H3 := isCode_any c
  generalize decide (1 ≤ c ∧ c ≤ 9) = B at *
  generalize smB 4 n s y c 4 0 ⟨#[]⟩ false c = A at *
  cases A with
  | true =>
    rw [Bool.true_and]
    go_enter Tryz.func62, Tryz.ntmps62
    go_wp2_with fail
    obtain ⟨W0, hW0⟩ : ∃ W0, w.alloc (.cells #[.int .i64 4, .float .f64 n, .string s, .bool y, .int .i64 c] 43 (0, 0)) = W0 := ⟨_, rfl⟩
    have hA : VAt W0 w.heap.size 4 n s y c := ⟨by rw [← hW0]; exact heap_alloc_new w _⟩
    have hF0 : Fr noB w W0 := by rw [← hW0]; exact (Fr.refl noB w).alloc _
    have HA : Hid _ := And.intro hA hF0
    rw [hW0]
    clear hW0
    have HK : Hid (∀ W, Fr noB W0 W → W.cell? ⟨w.heap.size, 0, none⟩ = some (.int .i64 4) ∧ W.cell? ⟨w.heap.size, 1, none⟩ = some (.float .f64 n) ∧ W.cell? ⟨w.heap.size, 2, none⟩ = some (.string s) ∧ W.cell? ⟨w.heap.size, 3, none⟩ = some (.bool y) ∧ W.cell? ⟨w.heap.size, 4, none⟩ = some (.int .i64 c)) := fun W h => ⟨(HA.out.1.fr h id).c0, (HA.out.1.fr h id).c1, (HA.out.1.fr h id).c2, (HA.out.1.fr h id).c3, (HA.out.1.fr h id).c4⟩
    have a0 := hA.c0
    have a1 := hA.c1
    have a2 := hA.c2
    have a3 := hA.c3
    have a4 := hA.c4
    clear hA hF0
    go_wp2_with fail
    go_region_held3 (fun W => W.cell? ⟨w.heap.size, 0, none⟩ = some (.int .i64 4) ∧ W.cell? ⟨w.heap.size, 1, none⟩ = some (.float .f64 n) ∧ W.cell? ⟨w.heap.size, 2, none⟩ = some (.string s) ∧ W.cell? ⟨w.heap.size, 3, none⟩ = some (.bool y) ∧ W.cell? ⟨w.heap.size, 4, none⟩ = some (.int .i64 c))
      (exact HK.out _ (by repeat first | assumption | exact Fr.refl _ _ | exact Fr.drew (by assumption) | exact (Fr.refl _ _).drew | refine Fr.trans ?_ (by assumption)))
      (first
        | (go_at_call 46; refine (H1 _).mono ?_; rintro e w1 ⟨rfl, hF1⟩)
        | (go_at_call 70; refine (H2 _).mono ?_; rintro e w2 ⟨rfl, hF2⟩)
        | (go_at_call 74; refine (H3 _).mono ?_; rintro e w3 ⟨rfl, hF3⟩; subst hF3))
    all_goals
      go_wp2_with fail
      go_ret
      refine ⟨rfl, ?_⟩
      have hb := HA.out.2
      repeat first | assumption | exact Fr.drew (by assumption) | exact (Fr.refl _ _).drew | refine Fr.trans ?_ (by assumption)
  | false =>
    rw [Bool.false_and]
    clear H3
    go_enter Tryz.func62, Tryz.ntmps62
    go_wp2_with fail
    obtain ⟨W0, hW0⟩ : ∃ W0, w.alloc (.cells #[.int .i64 4, .float .f64 n, .string s, .bool y, .int .i64 c] 43 (0, 0)) = W0 := ⟨_, rfl⟩
    have hA : VAt W0 w.heap.size 4 n s y c := ⟨by rw [← hW0]; exact heap_alloc_new w _⟩
    have hF0 : Fr noB w W0 := by rw [← hW0]; exact (Fr.refl noB w).alloc _
    have HA : Hid _ := And.intro hA hF0
    rw [hW0]
    clear hW0
    have HK : Hid (∀ W, Fr noB W0 W → W.cell? ⟨w.heap.size, 0, none⟩ = some (.int .i64 4) ∧ W.cell? ⟨w.heap.size, 1, none⟩ = some (.float .f64 n) ∧ W.cell? ⟨w.heap.size, 2, none⟩ = some (.string s) ∧ W.cell? ⟨w.heap.size, 3, none⟩ = some (.bool y) ∧ W.cell? ⟨w.heap.size, 4, none⟩ = some (.int .i64 c)) := fun W h => ⟨(HA.out.1.fr h id).c0, (HA.out.1.fr h id).c1, (HA.out.1.fr h id).c2, (HA.out.1.fr h id).c3, (HA.out.1.fr h id).c4⟩
    have a0 := hA.c0
    have a1 := hA.c1
    have a2 := hA.c2
    have a3 := hA.c3
    have a4 := hA.c4
    clear hA hF0
    go_wp2_with fail
    first
      | go_region_with (first
          | (go_at_call 46; refine (H1 _).mono ?_; rintro e w1 ⟨rfl, hF1⟩; obtain ⟨g0, g1, g2, g3, g4⟩ := HK.out w1 (by repeat first | assumption | exact Fr.refl _ _ | exact Fr.drew (by assumption) | exact (Fr.refl _ _).drew | refine Fr.trans ?_ (by assumption)))
          | (go_at_call 70; refine (H2 _).mono ?_; rintro e w2 ⟨rfl, hF2⟩; obtain ⟨g0, g1, g2, g3, g4⟩ := HK.out w2 (by repeat first | assumption | exact Fr.refl _ _ | exact Fr.drew (by assumption) | exact (Fr.refl _ _).drew | refine Fr.trans ?_ (by assumption))))
      | fail
    all_goals
      go_wp2_with fail
      go_ret
      refine ⟨rfl, ?_⟩
      have hb := HA.out.2
      repeat first | assumption | exact Fr.drew (by assumption) | exact (Fr.refl _ _).drew | refine Fr.trans ?_ (by assumption)
set_option maxRecDepth 100000 in
set_option maxHeartbeats 4000000 in
theorem formedO (k : Int) (hk : k < 0 ∨ 4 < k) (n : Nat) (s : ByteArray) (y : Bool) (c : Int) (w : World) :
    Calls Tryz.prog 62 #[(.agg #[.int .i64 k, .float .f64 n, .string s, .bool y, .int .i64 c])] w fun e w' => e = .returned (.bool false) ∧ Fr noB w w' := by
  have q0 : (k == 0) = false := by rw [beq_eq_false_iff_ne]; omega
  have q1 : (k == 1) = false := by rw [beq_eq_false_iff_ne]; omega
  have q2 : (k == 2) = false := by rw [beq_eq_false_iff_ne]; omega
  have q3 : (k == 3) = false := by rw [beq_eq_false_iff_ne]; omega
  have q4 : (k == 4) = false := by rw [beq_eq_false_iff_ne]; omega
  clear hk
  go_enter Tryz.func62, Tryz.ntmps62
  go_wp2_with fail
  go_ret
  exact ⟨rfl, (Fr.refl noB w).alloc _⟩
theorem formed_any (k : Int) (n : Nat) (hn : n < 18446744073709551616) (s : ByteArray) (y : Bool) (c : Int) (w : World) (hs : s.size ≤ 140737488355328) (hU : U8 w) :
    Calls Tryz.prog 62 #[(.agg #[.int .i64 k, .float .f64 n, .string s, .bool y, .int .i64 c])] w fun e w' => e = .returned (.bool (fm k n s y c)) ∧ Fr noB w w' := by
  have h : k < 0 ∨ 4 < k ∨ k = 0 ∨ k = 1 ∨ k = 2 ∨ k = 3 ∨ k = 4 := by omega
  rcases h with h | h | rfl | rfl | rfl | rfl | rfl
  · rw [show fm k n s y c = false by unfold fm; rw [if_neg (by omega), if_neg (by omega), if_neg (by omega), if_neg (by omega), if_neg (by omega)]]
    exact formedO k (Or.inl h) n s y c w
  · rw [show fm k n s y c = false by unfold fm; rw [if_neg (by omega), if_neg (by omega), if_neg (by omega), if_neg (by omega), if_neg (by omega)]]
    exact formedO k (Or.inr h) n s y c w
  · rw [show fm 0 n s y c = smB 0 n s y c 0 0 ⟨#[]⟩ false 0 by simp [fm, smB]]
    exact formed0 n s y c w
  · rw [show fm 1 n s y c = smB 1 n s y c (rkK n) (rkN n) ⟨#[]⟩ false (rkE n) by
      unfold fm smB rkK rkN rkE
      rw [if_neg (by omega), if_pos rfl]
      by_cases hf : finB n = false
      · rw [if_pos hf, if_pos hf, if_pos hf]
        simp [hf]
      · rw [if_neg hf, if_neg hf, if_neg hf]
        have hf2 : finB n = true := by simpa using hf
        by_cases h0 : n % 9223372036854775808 = 0
        · rw [if_pos h0]
          rw [Bool.eq_iff_iff]
          simp only [decide_eq_true_eq]
          constructor
          · rintro ⟨_, h2, h3, h4, h5⟩
            exact ⟨by first | rfl | trivial, by omega, h3, h4, h5⟩
          · rintro ⟨_, h2, h3, h4, h5⟩
            exact ⟨hf2, by omega, h3, h4, h5⟩
        · rw [if_neg h0]
          rw [Bool.eq_iff_iff]
          simp only [decide_eq_true_eq]
          constructor
          · rintro ⟨_, h2, h3, h4, h5⟩
            exact ⟨by first | rfl | trivial, by first | rfl | trivial, h3, h4, h5⟩
          · rintro ⟨_, h2, h3, h4, h5⟩
            exact ⟨hf2, by omega, h3, h4, h5⟩]
    exact formed1 n hn s y c w
  · rw [show fm 2 n s y c = (smB 2 n s y c 2 0 s false 0 && Lib.validD s.data.toList) by simp [fm, smB]]
    exact formed2 n s y c w hs hU
  · rw [show fm 3 n s y c = smB 3 n s y c 3 0 ⟨#[]⟩ y 0 by simp [fm, smB]]
    exact formed3 n s y c w
  · rw [show fm 4 n s y c = (smB 4 n s y c 4 0 ⟨#[]⟩ false c && decide (1 ≤ c ∧ c ≤ 9)) by
      rw [Bool.eq_iff_iff]
      simp [fm, smB]
      constructor
      · rintro ⟨a, b, d, e, f⟩
        exact ⟨⟨a, b, d⟩, e, f⟩
      · rintro ⟨⟨a, b, d⟩, e, f⟩
        exact ⟨a, b, d, e, f⟩]
    exact formed4 n s y c w
set_option maxRecDepth 100000 in
set_option maxHeartbeats 4000000 in
theorem pcheck_any (k : Int) (n : Nat) (hn : n < 18446744073709551616) (s : ByteArray) (y : Bool) (c : Int) (w : World) (hs : s.size ≤ 140737488355328) (hU : U8 w) :
    Calls Tryz.prog 40 #[(.agg #[.int .i64 k, .float .f64 n, .string s, .bool y, .int .i64 c])] w fun e w' => e = .returned (.int .i64 (ckF k n s y c)) ∧ Fr noB w w' := by
  have H1 : Hid (∀ W, Fr noB w W → Calls Tryz.prog 62 #[(.agg #[.int .i64 k, .float .f64 n, .string s, .bool y, .int .i64 c])] W fun e w' => e = .returned (.bool (fm k n s y c)) ∧ Fr noB W w') := fun W hW => formed_any k n hn s y c W hs (hU.fr hW)
  have HBX : Hid (VAt (w.alloc (.cells #[.int .i64 k, .float .f64 n, .string s, .bool y, .int .i64 c] 43 (0, 0))) w.heap.size k n s y c) := show VAt _ _ _ _ _ _ _ from ⟨heap_alloc_new w _⟩
  have HF0 : Hid (Fr noB w (w.alloc (.cells #[.int .i64 k, .float .f64 n, .string s, .bool y, .int .i64 c] 43 (0, 0)))) := (Fr.refl noB w).alloc _
  clear hU hn
  unfold ckF
  cases hf : fm k n s y c with
  | false =>
    rw [hf] at H1
    rw [if_pos rfl]
    clear hf
    go_enter Tryz.func40, Tryz.ntmps40
    go_wp2_with (go_at_call 62; refine (H1.out _ HF0.out).mono ?_; rintro e w1 ⟨rfl, hF1⟩)
    go_ret
    exact ⟨rfl, HF0.out.trans hF1⟩
  | true =>
    rw [hf] at H1
    rw [if_neg (by simp)]
    clear hf
    by_cases hl : 32768 < s.size
    · rw [if_pos hl]
      go_enter Tryz.func40, Tryz.ntmps40
      go_wp2_with (go_at_call 62; refine (H1.out _ HF0.out).mono ?_; rintro e w1 ⟨rfl, hF1⟩; have a2 := (HBX.out.fr hF1 id).c2)
      go_ret
      exact ⟨rfl, HF0.out.trans hF1⟩
    · rw [if_neg hl]
      go_enter Tryz.func40, Tryz.ntmps40
      go_wp2_with (go_at_call 62; refine (H1.out _ HF0.out).mono ?_; rintro e w1 ⟨rfl, hF1⟩; have a2 := (HBX.out.fr hF1 id).c2)
      go_ret
      exact ⟨rfl, HF0.out.trans hF1⟩
#print axioms pcheck_any
end Go.Proofs.YtaobnfjkggpdlaaGreatDoor
