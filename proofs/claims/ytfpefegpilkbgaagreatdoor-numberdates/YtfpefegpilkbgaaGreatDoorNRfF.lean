/- The document's finite, Floor, day, ToDate, Weekday: contracts. -/
import Derived.Test.YtfpefegpilkbgaaGreatDoorNToD
import Derived.Test.YtfpefegpilkbgaaGreatDoorNRfD
import Derived.Test.YtfpefegpilkbgaaGreatDoorNFl3
import Derived.Laws.NewFold
namespace Go.Proofs.YtfpefegpilkbgaaGreatDoor
open Go.RowKit Ieee

theorem run_sub_fin {x : Nat} (h : Fin x) (w : World) : (binOp .sub 25 (.float .f64 x) (.float .f64 x)).run Tryz.prog w = .ok (.float .f64 0) w := run_float_arith w .sub 25 .f64 x x 0 (sub_self h)
theorem nan_order (t : Nat) : double.order ((t % 2) * 2 ^ 63 + 0x7ff0000000000000 + 1 + (t / 2) % (2 ^ 52 - 1)) 0 = none := by
  have key : ∀ x : Nat, 9218868437227405312 < x % 9223372036854775808 → ∃ s u, double.read x = .nan s u := by
    intro x hx
    refine ⟨x / double.signWeight % 2 == 1, x % double.signWeight - double.infRung, ?_⟩
    unfold Format.read
    dsimp only
    rw [if_neg (show ¬ x % double.signWeight < double.binade by rw [binade_d, signWeight_d]; omega), if_neg (show ¬ x % double.signWeight < double.infRung by rw [infRung_d, signWeight_d]; omega), if_neg (show ¬ x % double.signWeight = double.infRung by rw [infRung_d, signWeight_d]; omega)]
  have h1 : t % 2 < 2 := Nat.mod_lt _ (by omega)
  have h2 : (t / 2) % (2 ^ 52 - 1) < 4503599627370495 := Nat.mod_lt _ (by omega)
  generalize t % 2 = a at *
  generalize (t / 2) % (2 ^ 52 - 1) = b at *
  obtain ⟨s, u, h⟩ := key (a * 2 ^ 63 + 0x7ff0000000000000 + 1 + b) (by omega)
  unfold Format.order
  rw [h]
  rfl
theorem run_sub_nan {x : Nat} (h : finB x = false) (w : World) : ∃ b, (binOp .sub 25 (.float .f64 x) (.float .f64 x)).run Tryz.prog w = .ok (.float .f64 b) w.drew ∧ double.order b 0 = none := by
  have hn : double.sub x x = none := sub_none h
  have hn' : FloatKind.f64.format.sub x x = none := hn
  refine ⟨_, ?_, nan_order (w.tape w.drawn (.nanBits .f64 x x))⟩
  simp [binOp, Op.floatArith, hn', Question.forced, Question.cut]
theorem order_zz : double.order 0 0 = some .eq := by decide
set_option maxRecDepth 100000 in
theorem rfinite_any (x : Nat) (w : World) : Calls Tryz.prog 24 #[.float .f64 x] w fun e w' => e = .returned (.bool (finB x)) ∧ ∃ m, w' = w.drewN m := by
  cases hf : finB x with
  | true =>
    have h1 := run_sub_fin (fin_of hf)
    have h2 : FloatKind.f64.format.order 0 0 = some .eq := order_zz
    go_enter Tryz.func24, Tryz.ntmps24
    go_wp2_with fail
    go_ret
    exact ⟨rfl, 0, rfl⟩
  | false =>
    obtain ⟨b, h1, h2⟩ := run_sub_nan hf w
    have h2' : FloatKind.f64.format.order b 0 = none := h2
    go_enter Tryz.func24, Tryz.ntmps24
    go_wp2_with fail
    go_ret
    exact ⟨rfl, 1, rfl⟩
theorem read_53 : double.read 4845873199050653696 = .number false 4503599627370496 1 := by decide
theorem lim_up : (4845873199050653696 : Nat) = FloatKind.f64.nearest 9007199254740992 := by decide
theorem lim_dn : (14069245235905429504 : Nat) = FloatKind.f64.nearest (-9007199254740992) := by decide
theorem order_lim {x c : Nat} {n : Int} (hx : Fin x) (hc : c = FloatKind.f64.nearest n) (h1 : -9007199254740992 ≤ n) (h2 : n ≤ 9007199254740992) : double.order x c = some (compare (V x) (n * (D : Int))) := by
  subst hc
  obtain ⟨k1, k2⟩ := ofInt_V n h1 h2
  rw [order_V hx k1, k2]
theorem cmp_ge (f n : Int) : (some (compare f n) == some Ordering.gt || some (compare f n) == some Ordering.eq) = decide (n ≤ f) := by
  rw [cmp_gt, cmp_eq, Bool.eq_iff_iff]
  simp
  omega
theorem cmp_le (f n : Int) : (some (compare f n) == some Ordering.lt || some (compare f n) == some Ordering.eq) = decide (f ≤ n) := by
  rw [cmp_lt, cmp_eq, Bool.eq_iff_iff]
  simp
  omega
set_option maxRecDepth 100000 in
set_option maxHeartbeats 1000000 in
theorem rfloor_any (x : Nat) (hx : NoNaN x) (w : World) : Calls Tryz.prog 40 #[.float .f64 x] w fun e w' => (∃ b, e = .returned (.float .f64 b) ∧ (Fin x → Fin b ∧ V b = fl x * (D : Int)) ∧ (∀ s, double.read x = .infinity s → double.read b = .infinity s)) ∧ w' = w := by
  rcases hx with hx | ⟨s, hx⟩
  · have o1 := order_lim hx lim_up (by omega) (by omega)
    have o2 := order_lim hx lim_dn (by omega) (by omega)
    have o1' : (FloatKind.f64.format.order x 4845873199050653696 == some .gt || FloatKind.f64.format.order x 4845873199050653696 == some .eq) = decide (9007199254740992 * (D : Int) ≤ V x) := by
      rw [show FloatKind.f64.format.order x 4845873199050653696 = _ from o1]; exact cmp_ge _ _
    have o2' : (FloatKind.f64.format.order x 14069245235905429504 == some .lt || FloatKind.f64.format.order x 14069245235905429504 == some .eq) = decide (V x ≤ -9007199254740992 * (D : Int)) := by
      rw [show FloatKind.f64.format.order x 14069245235905429504 = _ from o2]; exact cmp_le _ _
    clear o1 o2
    have hni : ∀ s, double.read x = .infinity s → False := by
      obtain ⟨s, m, e, h⟩ := hx
      intro s' h'
      rw [h] at h'
      cases h'
    have HNI : Hid _ := hni
    clear hni
    by_cases c1 : 9007199254740992 * (D : Int) ≤ V x
    · rw [decide_eq_true c1] at o1'
      have HG : Hid (Fin x ∧ V x = fl x * (D : Int)) := ⟨hx, great_whole hx (Or.inl c1)⟩
      clear c1 o2' hx
      go_enter Tryz.func40, Tryz.ntmps40
      go_wp2_with fail
      go_ret
      exact ⟨⟨x, rfl, fun _ => HG.out, fun s h => (HNI.out s h).elim⟩, rfl⟩
    · rw [decide_eq_false c1] at o1'
      by_cases c2 : V x ≤ -9007199254740992 * (D : Int)
      · rw [decide_eq_true c2] at o2'
        have HG : Hid (Fin x ∧ V x = fl x * (D : Int)) := ⟨hx, great_whole hx (Or.inr (by rw [← Int.neg_mul]; exact c2))⟩
        clear c1 c2 hx
        go_enter Tryz.func40, Tryz.ntmps40
        go_wp2_with fail
        go_ret
        exact ⟨⟨x, rfl, fun _ => HG.out, fun s h => (HNI.out s h).elim⟩, rfl⟩
      · rw [decide_eq_false c2] at o2'
        obtain ⟨b1, b2⟩ := tr_bounds (x := x) (N := 9007199254740992) (by rw [← Int.neg_mul]; omega) (by omega)
        have hti := toInt_tr hx (by omega) (by omega)
        have hcv : ∀ W : World, (convert 25 2 (.float .f64 x)).run Tryz.prog W = .ok (.int .i64 (tr x)) W := fun W => run_convert_float_int W 25 2 .f64 .i64 x (tr x) (by rw [Tryz.underlying25]; rfl) Tryz.underlying2 hti
        obtain ⟨f1, f2⟩ := tr_fl x
        obtain ⟨n, hn⟩ : ∃ n, tr x = n := ⟨_, rfl⟩
        rw [hn] at hcv f1 f2 b1 b2
        obtain ⟨y, hy⟩ : ∃ y, floatOfInt .f64 n = y := ⟨_, rfl⟩
        obtain ⟨k1, k2⟩ := ofInt_V n (by omega) (by omega)
        rw [show FloatKind.f64.nearest n = y from hy] at k1 k2
        have o3 : (FloatKind.f64.format.order y x == some .gt) = decide (V x < n * (D : Int)) := by
          rw [show FloatKind.f64.format.order y x = _ from order_V k1 hx, k2]; exact cmp_gt _ _
        obtain ⟨r, r1, r2, r3⟩ := sub_one k1 k2 (by omega) (by omega)
        have hsub : ∀ W : World, (binOp .sub 25 (.float .f64 y) (.float .f64 4607182418800017408)).run Tryz.prog W = .ok (.float .f64 r) W := fun W => run_float_arith W .sub 25 .f64 y 4607182418800017408 r r1
        by_cases c3 : V x < n * (D : Int)
        · rw [decide_eq_true c3] at o3
          have HG : Hid (Fin r ∧ V r = fl x * (D : Int)) := ⟨r2, by rw [f2 c3]; exact r3⟩
          clear c1 c2 c3 f1 f2 hti hn k2 r1 r3 b1 b2
          go_enter Tryz.func40, Tryz.ntmps40
          go_wp2_with fail
          go_ret
          exact ⟨⟨r, rfl, fun _ => HG.out, fun s h => (HNI.out s h).elim⟩, rfl⟩
        · rw [decide_eq_false c3] at o3
          have HG : Hid (Fin y ∧ V y = fl x * (D : Int)) := ⟨k1, by rw [f1 (by omega)]; exact k2⟩
          clear c1 c2 c3 f1 f2 hti hn k2 r1 r3 b1 b2
          go_enter Tryz.func40, Tryz.ntmps40
          go_wp2_with fail
          go_ret
          exact ⟨⟨y, rfl, fun _ => HG.out, fun s h => (HNI.out s h).elim⟩, rfl⟩
  · have hr2 : double.read 14069245235905429504 = .number true 4503599627370496 1 := by decide
    have HI : Hid (double.read x = .infinity s) := hx
    have HNF : Hid (Fin x → False) := fun ⟨s', m, e, h⟩ => by rw [hx] at h; cases h
    cases s with
    | false =>
      have o1 : FloatKind.f64.format.order x 4845873199050653696 = some .gt := by show (double.read x).order _ = _; rw [hx]; rfl
      clear hx
      go_enter Tryz.func40, Tryz.ntmps40
      go_wp2_with fail
      go_ret
      exact ⟨⟨x, rfl, fun h => (HNF.out h).elim, fun s h => h⟩, rfl⟩
    | true =>
      have o1 : FloatKind.f64.format.order x 4845873199050653696 = some .lt := by show (double.read x).order (double.read 4845873199050653696) = _; rw [hx, read_53]; rfl
      have o2 : FloatKind.f64.format.order x 14069245235905429504 = some .lt := by show (double.read x).order (double.read 14069245235905429504) = _; rw [hx, hr2]; rfl
      clear hx
      go_enter Tryz.func40, Tryz.ntmps40
      go_wp2_with fail
      go_ret
      exact ⟨⟨x, rfl, fun h => (HNF.out h).elim, fun s h => h⟩, rfl⟩
theorem NoNaN.of {x : Nat} (h : finB x = true) : NoNaN x := Or.inl (fin_of h)
/-- The document's day. -/
def rdA (f : Int) : Value := if f < -693593 ∨ 2958465 < f then .tuple #[.int .i64 0, .bool false] else .tuple #[.int .i64 f, .bool true]
theorem rdA_in {f : Int} (h : ¬ (f < -693593 ∨ 2958465 < f)) : rdA f = .tuple #[.int .i64 f, .bool true] := if_neg h
theorem rdA_out {f : Int} (h : f < -693593 ∨ 2958465 < f) : rdA f = .tuple #[.int .i64 0, .bool false] := if_pos h
set_option maxRecDepth 100000 in
set_option maxHeartbeats 1000000 in
theorem rday0_any (x : Nat) (hx : Fin x) (w : World) : Calls Tryz.prog 25 #[.float .f64 x] w fun e w' => e = .returned (rdA (fl x)) ∧ w' = w := by
  have HF := rfloor_any x (Or.inl hx) w
  go_enter Tryz.func25, Tryz.ntmps25
  go_wp2_with fail
  refine HF.mono ?_
  rintro e w1 ⟨⟨b, rfl, hb, -⟩, rfl⟩
  obtain ⟨hb1, hb2⟩ := hb hx
  have o1 : (FloatKind.f64.format.order b 13917577167450931200 == some .gt || FloatKind.f64.format.order b 13917577167450931200 == some .eq) = decide (-693593 ≤ fl x) := by
    rw [show FloatKind.f64.format.order b 13917577167450931200 = _ from order_int (c := 13917577167450931200) hb1 hb2 (n := -693593) (by decide) (by omega) (by omega)]; exact cmp_ge _ _
  have o2 : (FloatKind.f64.format.order b 4703607666558107648 == some .lt || FloatKind.f64.format.order b 4703607666558107648 == some .eq) = decide (fl x ≤ 2958465) := by
    rw [show FloatKind.f64.format.order b 4703607666558107648 = _ from order_int (c := 4703607666558107648) hb1 hb2 (n := 2958465) (by decide) (by omega) (by omega)]; exact cmp_le _ _
  clear HF hb
  by_cases c1 : -693593 ≤ fl x
  · rw [decide_eq_true c1] at o1
    by_cases c2 : fl x ≤ 2958465
    · rw [decide_eq_true c2] at o2
      have hti := toInt_V hb1 hb2 (by omega) (by omega)
      have hcv : ∀ W : World, (convert 25 3 (.float .f64 b)).run Tryz.prog W = .ok (.int .i64 (fl x)) W := fun W => run_convert_float_int W 25 3 .f64 .i64 b (fl x) (by rw [Tryz.underlying25]; rfl) Tryz.underlying3 hti
      have HX : Hid (¬ (fl x < -693593 ∨ 2958465 < fl x)) := by show ¬ _; omega
      obtain ⟨f, hfx⟩ : ∃ f, fl x = f := ⟨_, rfl⟩
      rw [hfx] at hcv
      rw [hfx] at c1 c2
      have HFX : Hid (fl x = f) := hfx
      clear hfx hti hb2
      go_wp2_with fail
      go_ret2
      rw [rdA_in HX.out, HFX.out]
      exact ⟨rfl, rfl⟩
    · rw [decide_eq_false c2] at o2
      have HX : Hid (fl x < -693593 ∨ 2958465 < fl x) := by show _ ∨ _; omega
      go_wp2_with fail
      go_ret2
      rw [rdA_out HX.out]
      exact ⟨rfl, rfl⟩
  · rw [decide_eq_false c1] at o1
    have HX : Hid (fl x < -693593 ∨ 2958465 < fl x) := by show _ ∨ _; omega
    go_wp2_with fail
    go_ret2
    rw [rdA_out HX.out]
    exact ⟨rfl, rfl⟩

set_option maxRecDepth 100000 in
set_option maxHeartbeats 1000000 in
theorem rtoDate_any (x : Nat) (w : World) : Calls Tryz.prog 11 #[.float .f64 x] w fun e w' => (((dayAns x).2 ≠ 0 ∧ e = .returned (.tuple #[.int .i64 0, .int .i64 0, .int .i64 0, .int .i64 (dayAns x).2])) ∨ ((dayAns x).2 = 0 ∧ ∃ (y : Int) (m : Nat) (d : Int), e = .returned (.tuple #[.int .i64 y, .int .i64 (m : Int), .int .i64 d, .int .i64 0]) ∧ IsDay (fl x) y m d)) ∧ Fr noB w w' := by
  have HN := rfinite_any x w
  have F0 : Hid (∀ k, Fr noB w (w.drewN k)) := fun k => (Fr.refl noB w).drewN k
  cases hf : finB x with
  | false =>
    rw [hf] at HN
    have hA : dayAns x = (0, 80) := by unfold dayAns; rw [if_pos hf]
    simp only [hA]
    clear hA
    go_enter Tryz.func11, Tryz.ntmps11
    go_wp2_with (go_at_call 24; refine HN.mono ?_; rintro e w1 ⟨rfl, k, rfl⟩)
    refine bodyPost_ret (results_tmp4 rfl _ _ _) rfl ?_
    exact ⟨Or.inl ⟨by decide, rfl⟩, F0.out k⟩
  | true =>
    rw [hf] at HN
    have HD := rday0_any x (fin_of hf)
    by_cases hr : fl x < -693593 ∨ 2958465 < fl x
    · have hA : dayAns x = (0, 81) := by unfold dayAns; rw [if_neg (by simp [hf]), if_pos hr]
      simp only [hA]
      rw [rdA_out hr] at HD
      clear hA hr
      go_enter Tryz.func11, Tryz.ntmps11
      go_wp2_with (first | (go_at_call 24; refine HN.mono ?_; rintro e w1 ⟨rfl, k, rfl⟩) | (go_at_call 25; refine (HD _).mono ?_; rintro e w2 ⟨rfl, rfl⟩))
      refine bodyPost_ret (results_tmp4 rfl _ _ _) rfl ?_
      exact ⟨Or.inl ⟨by decide, rfl⟩, F0.out k⟩
    · have hA : dayAns x = (fl x, 0) := by unfold dayAns; rw [if_neg (by simp [hf]), if_neg hr]
      simp only [hA]
      rw [rdA_in hr] at HD
      clear hA
      generalize fl x = f at *
      have HT := rdate_any f (by omega) (by omega)
      clear hr
      go_enter Tryz.func11, Tryz.ntmps11
      go_wp2_with (first | (go_at_call 24; refine HN.mono ?_; rintro e w1 ⟨rfl, k, rfl⟩) | (go_at_call 25; refine (HD _).mono ?_; rintro e w2 ⟨rfl, rfl⟩) | (go_at_call 26; refine (HT _).mono ?_; rintro e w3 ⟨⟨y, m, dd, rfl, hday⟩, hF⟩))
      refine bodyPost_ret (results_tmp4 rfl _ _ _) rfl ?_
      exact ⟨Or.inr ⟨by simp, y, m, dd, rfl, hday⟩, (F0.out k).trans hF⟩

theorem tmod_cases (a b : Int) : (0 ≤ a ∧ a.tmod b = a % b) ∨ (a < 0 ∧ a.tmod b = -((-a) % b)) := by
  rcases (by omega : 0 ≤ a ∨ a < 0) with h | h
  · exact Or.inl ⟨h, Int.tmod_eq_emod_of_nonneg h⟩
  · refine Or.inr ⟨h, ?_⟩
    conv => lhs; rw [← Int.neg_neg a]
    rw [Int.neg_tmod, Int.tmod_eq_emod_of_nonneg (by omega)]
theorem tdiv_cases (a b : Int) : (0 ≤ a ∧ a.tdiv b = a / b) ∨ (a < 0 ∧ a.tdiv b = -((-a) / b)) := by
  rcases (by omega : 0 ≤ a ∨ a < 0) with h | h
  · exact Or.inl ⟨h, Int.tdiv_eq_ediv_of_nonneg h⟩
  · refine Or.inr ⟨h, ?_⟩
    conv => lhs; rw [← Int.neg_neg a]
    rw [Int.neg_tdiv, Int.tdiv_eq_ediv_of_nonneg (by omega)]
set_option maxRecDepth 100000 in
set_option maxHeartbeats 1000000 in
theorem rweekday_any (x : Nat) (w : World) : Calls Tryz.prog 15 #[.float .f64 x] w fun e w' => e = .returned (if (dayAns x).2 = 0 then .tuple #[.int .i64 (wdF (fl x)), .int .i64 0] else .tuple #[.int .i64 0, .int .i64 (dayAns x).2]) ∧ ∃ m, w' = w.drewN m := by
  have HN := rfinite_any x w
  cases hf : finB x with
  | false =>
    rw [hf] at HN
    have hA : dayAns x = (0, 80) := by unfold dayAns; rw [if_pos hf]
    simp only [hA]
    clear hA
    go_enter Tryz.func15, Tryz.ntmps15
    go_wp2_with (go_at_call 24; refine HN.mono ?_; rintro e w1 ⟨rfl, k, rfl⟩)
    go_ret2
    exact ⟨rfl, k, rfl⟩
  | true =>
    rw [hf] at HN
    have HD := rday0_any x (fin_of hf)
    by_cases hr : fl x < -693593 ∨ 2958465 < fl x
    · have hA : dayAns x = (0, 81) := by unfold dayAns; rw [if_neg (by simp [hf]), if_pos hr]
      simp only [hA]
      rw [rdA_out hr] at HD
      clear hA hr
      go_enter Tryz.func15, Tryz.ntmps15
      go_wp2_with (first | (go_at_call 24; refine HN.mono ?_; rintro e w1 ⟨rfl, k, rfl⟩) | (go_at_call 25; refine (HD _).mono ?_; rintro e w2 ⟨rfl, rfl⟩))
      go_ret2
      exact ⟨rfl, k, rfl⟩
    · have hA : dayAns x = (fl x, 0) := by unfold dayAns; rw [if_neg (by simp [hf]), if_neg hr]
      simp only [hA]
      rw [rdA_in hr] at HD
      clear hA
      generalize fl x = f at *
      have hf1 : -693593 ≤ f := by omega
      have hf2 : f ≤ 2958465 := by omega
      clear hr
      obtain ⟨t, ht⟩ : ∃ t, (f - 1).tmod 7 = t := ⟨_, rfl⟩
      have HW : Hid (0 ≤ t + 7 ∧ t + 7 ≤ 13 ∧ wdF f = (t + 7) % 7 + 1) := by
        show _ ∧ _
        have hm := tmod_cases (f - 1) 7
        rw [ht] at hm
        unfold wdF
        omega
      obtain ⟨u, hu⟩ : ∃ u : Nat, t + 7 = (u : Int) := ⟨(t + 7).toNat, by have := HW.out; omega⟩
      have hu2 : u ≤ 13 := by have := HW.out; omega
      have HU : Hid _ := hu
      obtain rfl : t = (u : Int) - 7 := by omega
      clear hu
      go_enter Tryz.func15, Tryz.ntmps15
      go_wp2_with (first | (go_at_call 24; refine HN.mono ?_; rintro e w1 ⟨rfl, k, rfl⟩) | (go_at_call 25; refine (HD _).mono ?_; rintro e w2 ⟨rfl, rfl⟩))
      go_ret2
      rw [HW.out.2.2]
      exact ⟨by simp, k, rfl⟩
#print axioms rtoDate_any
#print axioms rweekday_any
#print axioms rfloor_any
end Go.Proofs.YtfpefegpilkbgaaGreatDoor
