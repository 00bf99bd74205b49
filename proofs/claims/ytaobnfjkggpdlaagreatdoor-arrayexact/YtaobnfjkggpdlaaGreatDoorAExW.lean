/- ArrayExact: the law's walk. -/
import Derived.Test.YtaobnfjkggpdlaaGreatDoorABeg
import Derived.Test.YtaobnfjkggpdlaaGreatDoorAFin
import Derived.LoopN
namespace Go.Proofs.YtaobnfjkggpdlaaGreatDoor
open Go.RowKit Ieee Go.Shelf
attribute [local go_sem] run_store_float

set_option maxRecDepth 100000 in
set_option maxHeartbeats 2000000 in
theorem exact_nan1 (x y : Nat) (hf : finB x = false) (n : Int) (w : World) (hU : U8 w) :
    Calls Tryz.prog 7 #[.int .u64 (x : Int), .int .u64 (y : Int), .int .i64 n] w fun e w' => e = .returned (.bool true) ∧ Fr noB w w' := by
  have r1 : ∀ W, _ := run_from x
  have r2 : ∀ W, _ := run_from y
  have HB : Hid (∀ W, Fr noB w W → Calls Tryz.prog 9 #[] W fun e w' => e = .returned (.bool true) ∧ Fr noB W w') := fun W h => begun_true W (hU.fr h)
  have hzz : (FloatKind.f64.format.order 0 0 != some .eq) = false := by decide
  have HN := fun W => run_sub_nan (x := x) hf W
  clear hf
  clear hU
  go_enter Tryz.func7, Tryz.ntmps7
  go_wp2_with (go_at_call 9; refine (HB.out _ (Fr.refl noB w)).mono ?_; rintro e w1 ⟨rfl, hF1⟩; obtain ⟨b, hb, hb2⟩ := HN w1; have hq : (FloatKind.f64.format.order b 0 != some .eq) = true := (by rw [show FloatKind.f64.format.order b 0 = none from hb2]; rfl))
  refine (HB.out _ hF1.drew).mono ?_
  rintro e w2 ⟨rfl, hF2⟩
  go_wp2_with fail
  go_ret
  exact ⟨rfl, (hF1.drew).trans hF2⟩
set_option maxRecDepth 100000 in
set_option maxHeartbeats 2000000 in
theorem exact_nan2 (x y : Nat) (hf : finB x = true) (hg : finB y = false) (n : Int) (w : World) (hU : U8 w) :
    Calls Tryz.prog 7 #[.int .u64 (x : Int), .int .u64 (y : Int), .int .i64 n] w fun e w' => e = .returned (.bool true) ∧ Fr noB w w' := by
  have r1 : ∀ W, _ := run_from x
  have r2 : ∀ W, _ := run_from y
  have HB : Hid (∀ W, Fr noB w W → Calls Tryz.prog 9 #[] W fun e w' => e = .returned (.bool true) ∧ Fr noB W w') := fun W h => begun_true W (hU.fr h)
  have hzz : (FloatKind.f64.format.order 0 0 != some .eq) = false := by decide
  have HX : ∀ W, _ := run_sub_fin (x := x) (fin_of hf)
  have HN := fun W => run_sub_nan (x := y) hg W
  clear hf hg
  clear hU
  go_enter Tryz.func7, Tryz.ntmps7
  go_wp2_with (go_at_call 9; refine (HB.out _ (Fr.refl noB w)).mono ?_; rintro e w1 ⟨rfl, hF1⟩; obtain ⟨b, hb, hb2⟩ := HN w1; have hq : (FloatKind.f64.format.order b 0 != some .eq) = true := (by rw [show FloatKind.f64.format.order b 0 = none from hb2]; rfl))
  refine (HB.out _ hF1.drew).mono ?_
  rintro e w2 ⟨rfl, hF2⟩
  go_wp2_with fail
  go_ret
  exact ⟨rfl, (hF1.drew).trans hF2⟩
set_option maxRecDepth 100000 in
set_option maxHeartbeats 2000000 in
theorem exact_nought1 (x y : Nat) (hf : finB x = true) (hg : finB y = true) (hz : x % 9223372036854775808 = 0) (n : Int) (w : World) (hU : U8 w) :
    Calls Tryz.prog 7 #[.int .u64 (x : Int), .int .u64 (y : Int), .int .i64 n] w fun e w' => e = .returned (.bool true) ∧ Fr noB w w' := by
  have r1 : ∀ W, _ := run_from x
  have r2 : ∀ W, _ := run_from y
  have HB : Hid (∀ W, Fr noB w W → Calls Tryz.prog 9 #[] W fun e w' => e = .returned (.bool true) ∧ Fr noB W w') := fun W h => begun_true W (hU.fr h)
  have hzz : (FloatKind.f64.format.order 0 0 != some .eq) = false := by decide
  have HX : ∀ W, _ := run_sub_fin (x := x) (fin_of hf)
  have HY : ∀ W, _ := run_sub_fin (x := y) (fin_of hg)
  have hq : (FloatKind.f64.format.order x 0 == some .eq) = true := by rw [order_zero x (fin_of hf), decide_eq_true hz]
  clear hf hg hz
  clear hU
  go_enter Tryz.func7, Tryz.ntmps7
  go_wp2_with (go_at_call 9; refine (HB.out _ (Fr.refl noB w)).mono ?_; rintro e w1 ⟨rfl, hF1⟩)
  refine (HB.out _ hF1).mono ?_
  rintro e w2 ⟨rfl, hF2⟩
  go_wp2_with fail
  go_ret
  exact ⟨rfl, (hF1).trans hF2⟩
set_option maxRecDepth 100000 in
set_option maxHeartbeats 2000000 in
theorem exact_nought2 (x y : Nat) (hf : finB x = true) (hg : finB y = true) (hx : ¬ x % 9223372036854775808 = 0) (hz : y % 9223372036854775808 = 0) (n : Int) (w : World) (hU : U8 w) :
    Calls Tryz.prog 7 #[.int .u64 (x : Int), .int .u64 (y : Int), .int .i64 n] w fun e w' => e = .returned (.bool true) ∧ Fr noB w w' := by
  have r1 : ∀ W, _ := run_from x
  have r2 : ∀ W, _ := run_from y
  have HB : Hid (∀ W, Fr noB w W → Calls Tryz.prog 9 #[] W fun e w' => e = .returned (.bool true) ∧ Fr noB W w') := fun W h => begun_true W (hU.fr h)
  have hzz : (FloatKind.f64.format.order 0 0 != some .eq) = false := by decide
  have HX : ∀ W, _ := run_sub_fin (x := x) (fin_of hf)
  have HY : ∀ W, _ := run_sub_fin (x := y) (fin_of hg)
  have hp : (FloatKind.f64.format.order x 0 == some .eq) = false := by rw [order_zero x (fin_of hf), decide_eq_false hx]
  have hq : (FloatKind.f64.format.order y 0 == some .eq) = true := by rw [order_zero y (fin_of hg), decide_eq_true hz]
  clear hf hg hz hx
  clear hU
  go_enter Tryz.func7, Tryz.ntmps7
  go_wp2_with (go_at_call 9; refine (HB.out _ (Fr.refl noB w)).mono ?_; rintro e w1 ⟨rfl, hF1⟩)
  refine (HB.out _ hF1).mono ?_
  rintro e w2 ⟨rfl, hF2⟩
  go_wp2_with fail
  go_ret
  exact ⟨rfl, (hF1).trans hF2⟩
/-- What the loop reads: the two numbers, the sums, the operators. -/
structure XQ (W : World) (a b c d : Nat) (x y r1 r2 r3 r4 : Nat) : Prop where
  va : VAt W a 1 x ⟨#[]⟩ false 0
  vb : VAt W b 1 y ⟨#[]⟩ false 0
  sr : W.heap[c]? = some (.cells #[.float .f64 r1, .float .f64 r2, .float .f64 r3, .float .f64 r4] 41 (0, 0))
  so : W.heap[d]? = some (.cells #[.int .i64 15, .int .i64 16, .int .i64 13, .int .i64 14] 3 (0, 0))
theorem XQ.fr {W W' : World} {a b c d x y r1 r2 r3 r4 : Nat} (h : XQ W a b c d x y r1 r2 r3 r4) (hF : Fr noB W W') : XQ W' a b c d x y r1 r2 r3 r4 := ⟨h.va.fr hF id, h.vb.fr hF id, hF.obj h.sr id, hF.obj h.so id⟩
set_option maxRecDepth 100000 in
set_option maxHeartbeats 4000000 in
theorem exact_main (x y : Nat) (hx : x < 18446744073709551616) (hy : y < 18446744073709551616) (hf : finB x = true) (hg : finB y = true) (hp : ¬ x % 9223372036854775808 = 0) (hq : ¬ y % 9223372036854775808 = 0) (n : Int) (hn1 : -9223372036854775808 ≤ n) (hn2 : n ≤ 9223372036854775807) (w : World) (hU : U8 w) :
    Calls Tryz.prog 7 #[.int .u64 (x : Int), .int .u64 (y : Int), .int .i64 n] w fun e w' => e = .returned (.bool true) ∧ Fr noB w w' := by
  have r1 : ∀ W, _ := run_from x
  have r2 : ∀ W, _ := run_from y
  have HB : Hid (∀ W, Fr noB w W → Calls Tryz.prog 9 #[] W fun e w' => e = .returned (.bool true) ∧ Fr noB W w') := fun W h => begun_true W (hU.fr h)
  have hzz : (FloatKind.f64.format.order 0 0 != some .eq) = false := by decide
  have HX : ∀ W, _ := run_sub_fin (x := x) (fin_of hf)
  have HY : ∀ W, _ := run_sub_fin (x := y) (fin_of hg)
  have hp1 : (FloatKind.f64.format.order x 0 == some .eq) = false := by rw [order_zero x (fin_of hf), decide_eq_false hp]
  have hq1 : (FloatKind.f64.format.order y 0 == some .eq) = false := by rw [order_zero y (fin_of hg), decide_eq_false hq]
  obtain ⟨s1, a1, b1⟩ := add_some (fin_of hf) (fin_of hg)
  obtain ⟨s2, a2, b2⟩ := sub_some (fin_of hf) (fin_of hg)
  obtain ⟨s3, a3, b3⟩ := mul_some (fin_of hf) (fin_of hg)
  obtain ⟨s4, a4, b4⟩ := quo_some (fin_of hf) (fin_of hg) hq
  have o1 : ∀ W, (binOp .add 41 (.float .f64 x) (.float .f64 y)).run Tryz.prog W = .ok (.float .f64 s1) W := fun W => run_float_arith W .add 41 .f64 x y s1 a1
  have o2 : ∀ W, (binOp .sub 41 (.float .f64 x) (.float .f64 y)).run Tryz.prog W = .ok (.float .f64 s2) W := fun W => run_float_arith W .sub 41 .f64 x y s2 a2
  have o3 : ∀ W, (binOp .mul 41 (.float .f64 x) (.float .f64 y)).run Tryz.prog W = .ok (.float .f64 s3) W := fun W => run_float_arith W .mul 41 .f64 x y s3 a3
  have o4 : ∀ W, (binOp .quo 41 (.float .f64 x) (.float .f64 y)).run Tryz.prog W = .ok (.float .f64 s4) W := fun W => run_float_arith W .quo 41 .f64 x y s4 a4
  have zx : x ≠ 9223372036854775808 := by rintro rfl; exact hp (by decide)
  have zy : y ≠ 9223372036854775808 := by rintro rfl; exact hq (by decide)
  have N1 : ∀ W, _ := rnum_any x
  have N2 : ∀ W, _ := rnum_any y
  have N3 : ∀ W, _ := rnum_any 4611686018427387904
  have B1 : Hid (∀ W, Fr noB w W → Calls Tryz.prog 33 #[.int .i64 15, (.agg #[.int .i64 1, .float .f64 x, .string ⟨#[]⟩, .bool false, .int .i64 0]), (.agg #[.int .i64 1, .float .f64 y, .string ⟨#[]⟩, .bool false, .int .i64 0])] W fun e w' => e = .returned (.agg #[.int .i64 (rkK s1), .float .f64 (rkN s1), .string ⟨#[]⟩, .bool false, .int .i64 (rkE s1)]) ∧ Fr noB W w') := fun W h => binary_of 15 83 x y (by simp) hx hy hf hg zx zy _ _ _ (sum_any x y s1 a1 b1) W (hU.fr h)
  have B2 : Hid (∀ W, Fr noB w W → Calls Tryz.prog 33 #[.int .i64 16, (.agg #[.int .i64 1, .float .f64 x, .string ⟨#[]⟩, .bool false, .int .i64 0]), (.agg #[.int .i64 1, .float .f64 y, .string ⟨#[]⟩, .bool false, .int .i64 0])] W fun e w' => e = .returned (.agg #[.int .i64 (rkK s2), .float .f64 (rkN s2), .string ⟨#[]⟩, .bool false, .int .i64 (rkE s2)]) ∧ Fr noB W w') := fun W h => binary_of 16 84 x y (by simp) hx hy hf hg zx zy _ _ _ (diff_any x y s2 a2 b2) W (hU.fr h)
  have B3 : Hid (∀ W, Fr noB w W → Calls Tryz.prog 33 #[.int .i64 13, (.agg #[.int .i64 1, .float .f64 x, .string ⟨#[]⟩, .bool false, .int .i64 0]), (.agg #[.int .i64 1, .float .f64 y, .string ⟨#[]⟩, .bool false, .int .i64 0])] W fun e w' => e = .returned (.agg #[.int .i64 (rkK s3), .float .f64 (rkN s3), .string ⟨#[]⟩, .bool false, .int .i64 (rkE s3)]) ∧ Fr noB W w') := fun W h => binary_of 13 81 x y (by simp) hx hy hf hg zx zy _ _ _ (prod_any x y s3 a3 b3) W (hU.fr h)
  have B4 : Hid (∀ W, Fr noB w W → Calls Tryz.prog 33 #[.int .i64 14, (.agg #[.int .i64 1, .float .f64 x, .string ⟨#[]⟩, .bool false, .int .i64 0]), (.agg #[.int .i64 1, .float .f64 y, .string ⟨#[]⟩, .bool false, .int .i64 0])] W fun e w' => e = .returned (.agg #[.int .i64 (rkK s4), .float .f64 (rkN s4), .string ⟨#[]⟩, .bool false, .int .i64 (rkE s4)]) ∧ Fr noB W w') := fun W h => binary_of 14 82 x y (by simp) hx hy hf hg zx zy _ _ _ (quot_any x y s4 a4 b4 hq1) W (hU.fr h)
  have R1 : ∀ W, _ := rreckon_any s1
  have R2 : ∀ W, _ := rreckon_any s2
  have R3 : ∀ W, _ := rreckon_any s3
  have R4 : ∀ W, _ := rreckon_any s4
  have S : ∀ K M E W, _ := fun (K : Int) (M : Nat) (E : Int) W => rsame_self K M ⟨#[]⟩ false E W
  have HP : Hid (∀ i : Nat, i < 2046 → ∀ W, Fr noB w W → Calls Tryz.prog 33 #[.int .i64 12, (.agg #[.int .i64 1, .float .f64 4611686018427387904, .string ⟨#[]⟩, .bool false, .int .i64 0]), (.agg #[.int .i64 1, .float .f64 (yb i), .string ⟨#[]⟩, .bool false, .int .i64 0])] W fun e w' => e = .returned (.agg #[.int .i64 1, .float .f64 (p2 (i + 1)), .string ⟨#[]⟩, .bool false, .int .i64 0]) ∧ Fr noB W w') := by
    intro i hi W h
    have hh := pow_bin (yb_of hi) (by omega) (by omega) W (hU.fr h)
    rw [show ((i : Int) - 1022 + 1023).toNat = i + 1 by omega] at hh
    exact hh
  clear hU hf hg hp hq hx hy a1 a2 a3 a4 b1 b2 b3 b4 zx zy
  go_enter Tryz.func7, Tryz.ntmps7
  go_wp2_with (first
    | (go_at_call 9; refine (HB.out _ (Fr.refl noB w)).mono ?_; rintro e w1 ⟨rfl, hF1⟩)
    | (go_at_call 32; with_reducible refine (N1 _).mono ?_; rintro e w2 ⟨rfl, hF2⟩)
    | (go_at_call 32; with_reducible refine (N2 _).mono ?_; rintro e w3 ⟨rfl, hF3⟩))
  have hQ : XQ ((((w3.alloc (.cells #[.int .i64 1, .float .f64 x, .string ⟨#[]⟩, .bool false, .int .i64 0] 43 (0, 0))).alloc (.cells #[.int .i64 1, .float .f64 y, .string ⟨#[]⟩, .bool false, .int .i64 0] 43 (0, 0))).alloc (.cells #[.float .f64 s1, .float .f64 s2, .float .f64 s3, .float .f64 s4] 41 (0, 0))).alloc (.cells #[.int .i64 15, .int .i64 16, .int .i64 13, .int .i64 14] 3 (0, 0))) w3.heap.size (w3.heap.size + 1) (w3.heap.size + 1 + 1) (w3.heap.size + 1 + 1 + 1) x y s1 s2 s3 s4 := ⟨⟨old1 (old1 (old1 (new1 _ _ _ rfl)))⟩, ⟨old1 (old1 (new1 _ _ _ (by simp)))⟩, old1 (new1 _ _ _ (by simp)), new1 _ _ _ (by simp)⟩
  have hF0 : Fr noB w ((((w3.alloc (.cells #[.int .i64 1, .float .f64 x, .string ⟨#[]⟩, .bool false, .int .i64 0] 43 (0, 0))).alloc (.cells #[.int .i64 1, .float .f64 y, .string ⟨#[]⟩, .bool false, .int .i64 0] 43 (0, 0))).alloc (.cells #[.float .f64 s1, .float .f64 s2, .float .f64 s3, .float .f64 s4] 41 (0, 0))).alloc (.cells #[.int .i64 15, .int .i64 16, .int .i64 13, .int .i64 14] 3 (0, 0))) := (((((hF1.trans hF2).trans hF3).alloc _).alloc _).alloc _).alloc _
  generalize (((w3.alloc (.cells #[.int .i64 1, .float .f64 x, .string ⟨#[]⟩, .bool false, .int .i64 0] 43 (0, 0))).alloc (.cells #[.int .i64 1, .float .f64 y, .string ⟨#[]⟩, .bool false, .int .i64 0] 43 (0, 0))).alloc (.cells #[.float .f64 s1, .float .f64 s2, .float .f64 s3, .float .f64 s4] 41 (0, 0))).alloc (.cells #[.int .i64 15, .int .i64 16, .int .i64 13, .int .i64 14] 3 (0, 0)) = W0 at hQ hF0 ⊢
  clear hF1 hF2 hF3
  generalize w3.heap.size = g at *
  clear o1 o2 o3 o4 r2 HX HY hzz hp1 hq1 N1 N2
  have HQ : Hid (∀ W, Fr noB W0 W → XQ W g (g + 1) (g + 1 + 1) (g + 1 + 1 + 1) x y s1 s2 s3 s4) := fun W h => hQ.fr h
  have HF0 : Hid (Fr noB w W0) := hF0
  clear hQ hF0
  go_loopw [61] (fun i wr => ∃ k : Nat, k ≤ 4 ∧ i = .int .i64 (k : Int) ∧ Fr noB W0 wr) (fun i _ => 4 - (intOf i).toNat)
  case atStart => exact ⟨0, Nat.zero_le _, rfl, Fr.refl _ _⟩
  case round =>
    obtain ⟨k, hk, rfl, hF⟩ := hrel
    have HF : Hid (Fr noB W0 wr) := hF
    have HZ : Hid (XQ wr g (g + 1) (g + 1 + 1) (g + 1 + 1 + 1) x y s1 s2 s3 s4) := HQ.out _ hF
    by_cases hlt : k < 4
    · have hkk : k = 0 ∨ k = 1 ∨ k = 2 ∨ k = 3 := by omega
      clear hF
      rcases hkk with rfl | rfl | rfl | rfl
      · have HC : Hid (∀ W, Fr noB wr W → W.cell? ⟨g, 0, none⟩ = some (.int .i64 1) ∧ W.cell? ⟨g, 1, none⟩ = some (.float .f64 x) ∧ W.cell? ⟨g, 2, none⟩ = some (.string ⟨#[]⟩) ∧ W.cell? ⟨g, 3, none⟩ = some (.bool false) ∧ W.cell? ⟨g, 4, none⟩ = some (.int .i64 0) ∧ W.cell? ⟨g + 1, 0, none⟩ = some (.int .i64 1) ∧ W.cell? ⟨g + 1, 1, none⟩ = some (.float .f64 y) ∧ W.cell? ⟨g + 1, 2, none⟩ = some (.string ⟨#[]⟩) ∧ W.cell? ⟨g + 1, 3, none⟩ = some (.bool false) ∧ W.cell? ⟨g + 1, 4, none⟩ = some (.int .i64 0) ∧ W.cell? ⟨g + 1 + 1, 0, none⟩ = some (.float .f64 s1)) := fun W h => ⟨(HZ.out.fr h).va.c0, (HZ.out.fr h).va.c1, (HZ.out.fr h).va.c2, (HZ.out.fr h).va.c3, (HZ.out.fr h).va.c4, (HZ.out.fr h).vb.c0, (HZ.out.fr h).vb.c1, (HZ.out.fr h).vb.c2, (HZ.out.fr h).vb.c3, (HZ.out.fr h).vb.c4, cellOf (o := 0) (HZ.out.fr h).sr rfl⟩
        have l0 : wr.cell? ⟨g + 1 + 1 + 1, 0, none⟩ = some (.int .i64 15) := cellOf (o := 0) HZ.out.so rfl
        generalize rkK s1 = K at *
        generalize rkN s1 = M at *
        generalize rkE s1 = E at *
        go_wp2_with fail
        go_region_held3 (fun W => W.cell? ⟨g, 0, none⟩ = some (.int .i64 1) ∧ W.cell? ⟨g, 1, none⟩ = some (.float .f64 x) ∧ W.cell? ⟨g, 2, none⟩ = some (.string ⟨#[]⟩) ∧ W.cell? ⟨g, 3, none⟩ = some (.bool false) ∧ W.cell? ⟨g, 4, none⟩ = some (.int .i64 0) ∧ W.cell? ⟨g + 1, 0, none⟩ = some (.int .i64 1) ∧ W.cell? ⟨g + 1, 1, none⟩ = some (.float .f64 y) ∧ W.cell? ⟨g + 1, 2, none⟩ = some (.string ⟨#[]⟩) ∧ W.cell? ⟨g + 1, 3, none⟩ = some (.bool false) ∧ W.cell? ⟨g + 1, 4, none⟩ = some (.int .i64 0) ∧ W.cell? ⟨g + 1 + 1, 0, none⟩ = some (.float .f64 s1))
          (exact HC.out _ (by repeat first | assumption | exact Fr.refl _ _ | exact Fr.drew (by assumption) | exact (Fr.refl _ _).drew | refine Fr.trans ?_ (by assumption)))
          (first
            | (go_at_call 33; with_reducible refine (B1.out _ (HF0.out.trans (HF.out.trans (by repeat first | assumption | exact Fr.refl _ _ | exact Fr.drew (by assumption) | exact (Fr.refl _ _).drew | refine Fr.trans ?_ (by assumption))))).mono ?_; rintro e w4 ⟨rfl, hF4⟩)
            | (go_at_call 34; with_reducible refine (R1 _).mono ?_; rintro e w5 ⟨rfl, hF5⟩)
            | (go_at_call 21; with_reducible refine (S _ _ _ _).mono ?_; rintro e w6 ⟨rfl, hF6⟩))
        go_wp2_with fail
        exact ⟨⟨1, by omega, by go_num, HF.out.trans (by repeat first | assumption | exact Fr.refl _ _ | exact Fr.drew (by assumption) | exact (Fr.refl _ _).drew | refine Fr.trans ?_ (by assumption))⟩, by decide⟩
      · have HC : Hid (∀ W, Fr noB wr W → W.cell? ⟨g, 0, none⟩ = some (.int .i64 1) ∧ W.cell? ⟨g, 1, none⟩ = some (.float .f64 x) ∧ W.cell? ⟨g, 2, none⟩ = some (.string ⟨#[]⟩) ∧ W.cell? ⟨g, 3, none⟩ = some (.bool false) ∧ W.cell? ⟨g, 4, none⟩ = some (.int .i64 0) ∧ W.cell? ⟨g + 1, 0, none⟩ = some (.int .i64 1) ∧ W.cell? ⟨g + 1, 1, none⟩ = some (.float .f64 y) ∧ W.cell? ⟨g + 1, 2, none⟩ = some (.string ⟨#[]⟩) ∧ W.cell? ⟨g + 1, 3, none⟩ = some (.bool false) ∧ W.cell? ⟨g + 1, 4, none⟩ = some (.int .i64 0) ∧ W.cell? ⟨g + 1 + 1, 1, none⟩ = some (.float .f64 s2)) := fun W h => ⟨(HZ.out.fr h).va.c0, (HZ.out.fr h).va.c1, (HZ.out.fr h).va.c2, (HZ.out.fr h).va.c3, (HZ.out.fr h).va.c4, (HZ.out.fr h).vb.c0, (HZ.out.fr h).vb.c1, (HZ.out.fr h).vb.c2, (HZ.out.fr h).vb.c3, (HZ.out.fr h).vb.c4, cellOf (o := 1) (HZ.out.fr h).sr rfl⟩
        have l0 : wr.cell? ⟨g + 1 + 1 + 1, 1, none⟩ = some (.int .i64 16) := cellOf (o := 1) HZ.out.so rfl
        generalize rkK s2 = K at *
        generalize rkN s2 = M at *
        generalize rkE s2 = E at *
        go_wp2_with fail
        go_region_held3 (fun W => W.cell? ⟨g, 0, none⟩ = some (.int .i64 1) ∧ W.cell? ⟨g, 1, none⟩ = some (.float .f64 x) ∧ W.cell? ⟨g, 2, none⟩ = some (.string ⟨#[]⟩) ∧ W.cell? ⟨g, 3, none⟩ = some (.bool false) ∧ W.cell? ⟨g, 4, none⟩ = some (.int .i64 0) ∧ W.cell? ⟨g + 1, 0, none⟩ = some (.int .i64 1) ∧ W.cell? ⟨g + 1, 1, none⟩ = some (.float .f64 y) ∧ W.cell? ⟨g + 1, 2, none⟩ = some (.string ⟨#[]⟩) ∧ W.cell? ⟨g + 1, 3, none⟩ = some (.bool false) ∧ W.cell? ⟨g + 1, 4, none⟩ = some (.int .i64 0) ∧ W.cell? ⟨g + 1 + 1, 1, none⟩ = some (.float .f64 s2))
          (exact HC.out _ (by repeat first | assumption | exact Fr.refl _ _ | exact Fr.drew (by assumption) | exact (Fr.refl _ _).drew | refine Fr.trans ?_ (by assumption)))
          (first
            | (go_at_call 33; with_reducible refine (B2.out _ (HF0.out.trans (HF.out.trans (by repeat first | assumption | exact Fr.refl _ _ | exact Fr.drew (by assumption) | exact (Fr.refl _ _).drew | refine Fr.trans ?_ (by assumption))))).mono ?_; rintro e w4 ⟨rfl, hF4⟩)
            | (go_at_call 34; with_reducible refine (R2 _).mono ?_; rintro e w5 ⟨rfl, hF5⟩)
            | (go_at_call 21; with_reducible refine (S _ _ _ _).mono ?_; rintro e w6 ⟨rfl, hF6⟩))
        go_wp2_with fail
        exact ⟨⟨2, by omega, by go_num, HF.out.trans (by repeat first | assumption | exact Fr.refl _ _ | exact Fr.drew (by assumption) | exact (Fr.refl _ _).drew | refine Fr.trans ?_ (by assumption))⟩, by decide⟩
      · have HC : Hid (∀ W, Fr noB wr W → W.cell? ⟨g, 0, none⟩ = some (.int .i64 1) ∧ W.cell? ⟨g, 1, none⟩ = some (.float .f64 x) ∧ W.cell? ⟨g, 2, none⟩ = some (.string ⟨#[]⟩) ∧ W.cell? ⟨g, 3, none⟩ = some (.bool false) ∧ W.cell? ⟨g, 4, none⟩ = some (.int .i64 0) ∧ W.cell? ⟨g + 1, 0, none⟩ = some (.int .i64 1) ∧ W.cell? ⟨g + 1, 1, none⟩ = some (.float .f64 y) ∧ W.cell? ⟨g + 1, 2, none⟩ = some (.string ⟨#[]⟩) ∧ W.cell? ⟨g + 1, 3, none⟩ = some (.bool false) ∧ W.cell? ⟨g + 1, 4, none⟩ = some (.int .i64 0) ∧ W.cell? ⟨g + 1 + 1, 2, none⟩ = some (.float .f64 s3)) := fun W h => ⟨(HZ.out.fr h).va.c0, (HZ.out.fr h).va.c1, (HZ.out.fr h).va.c2, (HZ.out.fr h).va.c3, (HZ.out.fr h).va.c4, (HZ.out.fr h).vb.c0, (HZ.out.fr h).vb.c1, (HZ.out.fr h).vb.c2, (HZ.out.fr h).vb.c3, (HZ.out.fr h).vb.c4, cellOf (o := 2) (HZ.out.fr h).sr rfl⟩
        have l0 : wr.cell? ⟨g + 1 + 1 + 1, 2, none⟩ = some (.int .i64 13) := cellOf (o := 2) HZ.out.so rfl
        generalize rkK s3 = K at *
        generalize rkN s3 = M at *
        generalize rkE s3 = E at *
        go_wp2_with fail
        go_region_held3 (fun W => W.cell? ⟨g, 0, none⟩ = some (.int .i64 1) ∧ W.cell? ⟨g, 1, none⟩ = some (.float .f64 x) ∧ W.cell? ⟨g, 2, none⟩ = some (.string ⟨#[]⟩) ∧ W.cell? ⟨g, 3, none⟩ = some (.bool false) ∧ W.cell? ⟨g, 4, none⟩ = some (.int .i64 0) ∧ W.cell? ⟨g + 1, 0, none⟩ = some (.int .i64 1) ∧ W.cell? ⟨g + 1, 1, none⟩ = some (.float .f64 y) ∧ W.cell? ⟨g + 1, 2, none⟩ = some (.string ⟨#[]⟩) ∧ W.cell? ⟨g + 1, 3, none⟩ = some (.bool false) ∧ W.cell? ⟨g + 1, 4, none⟩ = some (.int .i64 0) ∧ W.cell? ⟨g + 1 + 1, 2, none⟩ = some (.float .f64 s3))
          (exact HC.out _ (by repeat first | assumption | exact Fr.refl _ _ | exact Fr.drew (by assumption) | exact (Fr.refl _ _).drew | refine Fr.trans ?_ (by assumption)))
          (first
            | (go_at_call 33; with_reducible refine (B3.out _ (HF0.out.trans (HF.out.trans (by repeat first | assumption | exact Fr.refl _ _ | exact Fr.drew (by assumption) | exact (Fr.refl _ _).drew | refine Fr.trans ?_ (by assumption))))).mono ?_; rintro e w4 ⟨rfl, hF4⟩)
            | (go_at_call 34; with_reducible refine (R3 _).mono ?_; rintro e w5 ⟨rfl, hF5⟩)
            | (go_at_call 21; with_reducible refine (S _ _ _ _).mono ?_; rintro e w6 ⟨rfl, hF6⟩))
        go_wp2_with fail
        exact ⟨⟨3, by omega, by go_num, HF.out.trans (by repeat first | assumption | exact Fr.refl _ _ | exact Fr.drew (by assumption) | exact (Fr.refl _ _).drew | refine Fr.trans ?_ (by assumption))⟩, by decide⟩
      · have HC : Hid (∀ W, Fr noB wr W → W.cell? ⟨g, 0, none⟩ = some (.int .i64 1) ∧ W.cell? ⟨g, 1, none⟩ = some (.float .f64 x) ∧ W.cell? ⟨g, 2, none⟩ = some (.string ⟨#[]⟩) ∧ W.cell? ⟨g, 3, none⟩ = some (.bool false) ∧ W.cell? ⟨g, 4, none⟩ = some (.int .i64 0) ∧ W.cell? ⟨g + 1, 0, none⟩ = some (.int .i64 1) ∧ W.cell? ⟨g + 1, 1, none⟩ = some (.float .f64 y) ∧ W.cell? ⟨g + 1, 2, none⟩ = some (.string ⟨#[]⟩) ∧ W.cell? ⟨g + 1, 3, none⟩ = some (.bool false) ∧ W.cell? ⟨g + 1, 4, none⟩ = some (.int .i64 0) ∧ W.cell? ⟨g + 1 + 1, 3, none⟩ = some (.float .f64 s4)) := fun W h => ⟨(HZ.out.fr h).va.c0, (HZ.out.fr h).va.c1, (HZ.out.fr h).va.c2, (HZ.out.fr h).va.c3, (HZ.out.fr h).va.c4, (HZ.out.fr h).vb.c0, (HZ.out.fr h).vb.c1, (HZ.out.fr h).vb.c2, (HZ.out.fr h).vb.c3, (HZ.out.fr h).vb.c4, cellOf (o := 3) (HZ.out.fr h).sr rfl⟩
        have l0 : wr.cell? ⟨g + 1 + 1 + 1, 3, none⟩ = some (.int .i64 14) := cellOf (o := 3) HZ.out.so rfl
        generalize rkK s4 = K at *
        generalize rkN s4 = M at *
        generalize rkE s4 = E at *
        go_wp2_with fail
        go_region_held3 (fun W => W.cell? ⟨g, 0, none⟩ = some (.int .i64 1) ∧ W.cell? ⟨g, 1, none⟩ = some (.float .f64 x) ∧ W.cell? ⟨g, 2, none⟩ = some (.string ⟨#[]⟩) ∧ W.cell? ⟨g, 3, none⟩ = some (.bool false) ∧ W.cell? ⟨g, 4, none⟩ = some (.int .i64 0) ∧ W.cell? ⟨g + 1, 0, none⟩ = some (.int .i64 1) ∧ W.cell? ⟨g + 1, 1, none⟩ = some (.float .f64 y) ∧ W.cell? ⟨g + 1, 2, none⟩ = some (.string ⟨#[]⟩) ∧ W.cell? ⟨g + 1, 3, none⟩ = some (.bool false) ∧ W.cell? ⟨g + 1, 4, none⟩ = some (.int .i64 0) ∧ W.cell? ⟨g + 1 + 1, 3, none⟩ = some (.float .f64 s4))
          (exact HC.out _ (by repeat first | assumption | exact Fr.refl _ _ | exact Fr.drew (by assumption) | exact (Fr.refl _ _).drew | refine Fr.trans ?_ (by assumption)))
          (first
            | (go_at_call 33; with_reducible refine (B4.out _ (HF0.out.trans (HF.out.trans (by repeat first | assumption | exact Fr.refl _ _ | exact Fr.drew (by assumption) | exact (Fr.refl _ _).drew | refine Fr.trans ?_ (by assumption))))).mono ?_; rintro e w4 ⟨rfl, hF4⟩)
            | (go_at_call 34; with_reducible refine (R4 _).mono ?_; rintro e w5 ⟨rfl, hF5⟩)
            | (go_at_call 21; with_reducible refine (S _ _ _ _).mono ?_; rintro e w6 ⟨rfl, hF6⟩))
        go_wp2_with fail
        exact ⟨⟨4, by omega, by go_num, HF.out.trans (by repeat first | assumption | exact Fr.refl _ _ | exact Fr.drew (by assumption) | exact (Fr.refl _ _).drew | refine Fr.trans ?_ (by assumption))⟩, by decide⟩
    · obtain rfl : k = 4 := by omega
      clear B1 B2 B3 B4 R1 R2 R3 R4 r1 HB
      by_cases h1 : n < -1022
      · go_wp2_with fail
        go_ret
        exact ⟨rfl, HF0.out.trans hF⟩
      by_cases h2 : 1023 < n
      · have h3 : ¬ n < -1022 := h1
        go_wp2_with fail
        go_ret
        exact ⟨rfl, HF0.out.trans hF⟩
      obtain ⟨i, hi⟩ : ∃ i : Nat, n = (i : Int) - 1022 := ⟨(n + 1022).toNat, by omega⟩
      have hi2 : i < 2046 := by omega
      have HN : Hid (n = (i : Int) - 1022 ∧ i < 2046) := ⟨hi, hi2⟩
      have hY : floatOfInt FloatKind.f64 n = yb i := by rw [hi]; rfl
      have N4 : ∀ W, _ := rnum_any (yb i)
      have HFr : Hid (Fr noB W0 wr) := hF
      clear hi hi2 hF
      go_wp2_with (first
        | (go_at_call 32; with_reducible refine (N3 _).mono ?_; rintro e w2 ⟨rfl, hF2⟩)
        | (go_at_call 32; with_reducible refine (N4 _).mono ?_; rintro e w3 ⟨rfl, hF3⟩)
        | (go_at_call 33; with_reducible refine (HP.out i HN.out.2 _ (HF0.out.trans (HFr.out.trans (hF2.trans hF3)))).mono ?_; rintro e w4 ⟨rfl, hF4⟩))
      have hT : VAt (w4.alloc (.cells #[.int .i64 1, .float .f64 (p2 (i + 1)), .string ⟨#[]⟩, .bool false, .int .i64 0] 43 (0, 0))) w4.heap.size 1 (p2 (i + 1)) ⟨#[]⟩ false 0 := ⟨new1 _ _ _ rfl⟩
      have hF5 : Fr noB w (w4.alloc (.cells #[.int .i64 1, .float .f64 (p2 (i + 1)), .string ⟨#[]⟩, .bool false, .int .i64 0] 43 (0, 0))) := (HF0.out.trans (HFr.out.trans (hF2.trans (hF3.trans hF4)))).alloc _
      generalize w4.alloc (.cells #[.int .i64 1, .float .f64 (p2 (i + 1)), .string ⟨#[]⟩, .bool false, .int .i64 0] 43 (0, 0)) = W5 at hT hF5 ⊢
      generalize w4.heap.size = b5 at hT ⊢
      have HT : Hid (∀ W, Fr noB W5 W → W.cell? ⟨b5, 0, none⟩ = some (.int .i64 1) ∧ W.cell? ⟨b5, 1, none⟩ = some (.float .f64 (p2 (i + 1))) ∧ W.cell? ⟨b5, 2, none⟩ = some (.string ⟨#[]⟩) ∧ W.cell? ⟨b5, 3, none⟩ = some (.bool false) ∧ W.cell? ⟨b5, 4, none⟩ = some (.int .i64 0)) := fun W h => ⟨(hT.fr h id).c0, (hT.fr h id).c1, (hT.fr h id).c2, (hT.fr h id).c3, (hT.fr h id).c4⟩
      have HF5 : Hid (Fr noB w W5) := hF5
      have N5 : ∀ W, _ := rnum_any (p2 (i + 1))
      have r5 : ∀ W, _ := run_from (p2 (i + 1))
      have S5 : ∀ W, _ := rsame_self 1 (p2 (i + 1)) ⟨#[]⟩ false 0
      have hsh : IntKind.u64.wrap (IntKind.u64.wrap (IntKind.i64.wrap (n + 1023)) * 4503599627370496) = ((p2 (i + 1) : Nat) : Int) := by
        have h0 := HN.out.1
        have h9 := HN.out.2
        rw [IntKind.wrap_u64, IntKind.wrap_u64, IntKind.wrap_i64]
        unfold p2
        omega
      have r6 : ∀ W, (callFunc 31 #[.int .u64 (IntKind.u64.wrap (IntKind.u64.wrap (IntKind.i64.wrap (n + 1023)) * 4503599627370496))]).run Tryz.prog W = .ok (.value (.float .f64 (p2 (i + 1)))) W := fun W => by rw [hsh]; exact r5 W
      clear r5 hsh
      clear hT hF5 hF2 hF3 hF4 N3 N4 hY
      go_region_held3 (fun W => W.cell? ⟨b5, 0, none⟩ = some (.int .i64 1) ∧ W.cell? ⟨b5, 1, none⟩ = some (.float .f64 (p2 (i + 1))) ∧ W.cell? ⟨b5, 2, none⟩ = some (.string ⟨#[]⟩) ∧ W.cell? ⟨b5, 3, none⟩ = some (.bool false) ∧ W.cell? ⟨b5, 4, none⟩ = some (.int .i64 0))
        (exact HT.out _ (by repeat first | assumption | exact Fr.refl _ _ | exact Fr.drew (by assumption) | exact (Fr.refl _ _).drew | refine Fr.trans ?_ (by assumption)))
        (first
          | (go_at_call 32; with_reducible refine (N5 _).mono ?_; rintro e w6 ⟨rfl, hF6⟩)
          | (go_at_call 21; with_reducible refine (S5 _).mono ?_; rintro e w7 ⟨rfl, hF7⟩))
      go_wp2_with fail
      go_ret
      exact ⟨rfl, HF5.out.trans (by repeat first | assumption | exact Fr.refl _ _ | exact Fr.drew (by assumption) | exact (Fr.refl _ _).drew | refine Fr.trans ?_ (by assumption))⟩
theorem exact_walk (x y : Nat) (hx : x < 18446744073709551616) (hy : y < 18446744073709551616) (n : Int) (hn1 : -9223372036854775808 ≤ n) (hn2 : n ≤ 9223372036854775807) (w : World) (hU : U8 w) :
    Calls Tryz.prog 7 #[.int .u64 (x : Int), .int .u64 (y : Int), .int .i64 n] w fun e w' => e = .returned (.bool true) ∧ Below w.heap.size w w' := by
  have key : Calls Tryz.prog 7 #[.int .u64 (x : Int), .int .u64 (y : Int), .int .i64 n] w fun e w' => e = .returned (.bool true) ∧ Fr noB w w' := by
    cases hf : finB x with
    | false => exact exact_nan1 x y hf n w hU
    | true =>
      cases hg : finB y with
      | false => exact exact_nan2 x y hf hg n w hU
      | true =>
        by_cases hp : x % 9223372036854775808 = 0
        · exact exact_nought1 x y hf hg hp n w hU
        by_cases hq : y % 9223372036854775808 = 0
        · exact exact_nought2 x y hf hg hp hq n w hU
        exact exact_main x y hx hy hf hg hp hq n hn1 hn2 w hU
  exact key.mono fun e w' ⟨h1, h2⟩ => ⟨h1, h2.below (Nat.le_refl _) (fun _ h => h.elim)⟩
#print axioms exact_walk
end Go.Proofs.YtaobnfjkggpdlaaGreatDoor
