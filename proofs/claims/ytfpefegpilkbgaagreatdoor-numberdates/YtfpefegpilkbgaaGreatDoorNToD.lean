/- dayOf, ToDate, Weekday: the program's contracts. -/
import Derived.Test.YtfpefegpilkbgaaGreatDoorNFin
namespace Go.Proofs.YtfpefegpilkbgaaGreatDoor
open Go.RowKit Ieee

/-- A float against a whole number: how they stand. -/
theorem order_int {b c : Nat} {f n : Int} (hb : Fin b) (hf : V b = f * (D : Int)) (hc : c = FloatKind.f64.nearest n) (h1 : -9007199254740992 ≤ n) (h2 : n ≤ 9007199254740992) : double.order b c = some (compare f n) := by
  subst hc
  obtain ⟨k1, k2⟩ := ofInt_V n h1 h2
  rw [order_V hb k1, hf, k2, cmp_ints]
theorem cmp_lt (f n : Int) : (some (compare f n) == some Ordering.lt) = decide (f < n) := by
  rw [Bool.eq_iff_iff]
  simp [Int.compare_eq_lt]
theorem cmp_gt (f n : Int) : (some (compare f n) == some Ordering.gt) = decide (n < f) := by
  rw [Bool.eq_iff_iff]
  simp [Int.compare_eq_gt]
theorem cmp_eq (f n : Int) : (some (compare f n) == some Ordering.eq) = decide (f = n) := by
  rw [Bool.eq_iff_iff]
  simp

theorem results_tmp4 {fn : Func} {t u v x : Tmp} (h : fn.results = #[.tmp t, .tmp u, .tmp v, .tmp x]) (tmps : Array Value) (P : Program) (w : World) :
    (results fn tmps).run P w = .ok (.tuple #[tmps.getD t undef, tmps.getD u undef, tmps.getD v undef, tmps.getD x undef]) w := by
  simp [results, h]
theorem results_tmp5 {fn : Func} {t u v x y : Tmp} (h : fn.results = #[.tmp t, .tmp u, .tmp v, .tmp x, .tmp y]) (tmps : Array Value) (P : Program) (w : World) :
    (results fn tmps).run P w = .ok (.tuple #[tmps.getD t undef, tmps.getD u undef, tmps.getD v undef, tmps.getD x undef, tmps.getD y undef]) w := by
  simp [results, h]
set_option maxRecDepth 100000 in
set_option maxHeartbeats 1000000 in
theorem floor_any (x : Nat) (w : World) : Calls Tryz.prog 37 #[.float .f64 x] w fun e w' => ∃ b, e = .returned (.float .f64 b) ∧ (Fin x → Fin b ∧ V b = fl x * (D : Int)) ∧ (∀ s, double.read x = .infinity s → double.read b = .infinity s) ∧ ∃ m, w' = w.drewN m := by
  cases hr : double.read x with
  | number s m i =>
    have hx : Fin x := ⟨_, _, _, hr⟩
    have h1 := run_floor hx w
    have h2 := floor_V hx
    rw [hr] at h1 h2
    generalize double.write ((Datum.number s m i).integral .down) = b at *
    have H2 : Hid _ := h2
    clear h2
    go_enter Tryz.func37, Tryz.ntmps37
    go_wp2_with fail
    go_ret
    exact ⟨b, rfl, fun _ => H2.out, (fun s h => by cases h), 0, rfl⟩
  | infinity s =>
    have h1 := run_floor_inf hr w
    have h2 : double.read (double.write (.infinity s)) = .infinity s := by cases s <;> decide
    generalize double.write (.infinity s) = b at *
    have H2 : Hid _ := h2
    clear h2
    go_enter Tryz.func37, Tryz.ntmps37
    go_wp2_with fail
    go_ret
    exact ⟨b, rfl, (fun h => by obtain ⟨s, m, e, h⟩ := h; rw [hr] at h; cases h), (fun s' h => by rw [← h]; exact H2.out), 0, rfl⟩
  | nan s t =>
    obtain ⟨b, m, h1⟩ := run_floor_any x w
    go_enter Tryz.func37, Tryz.ntmps37
    go_wp2_with fail
    go_ret
    exact ⟨b, rfl, (fun h => by obtain ⟨s, m, e, h⟩ := h; rw [hr] at h; cases h), (fun s h => by cases h), m, rfl⟩

/-- The day of a number: its answers. -/
def dayAns (x : Nat) : Int × Int := if finB x = false then (0, 80) else if fl x < -693593 ∨ 2958465 < fl x then (0, 81) else (fl x, 0)
set_option maxRecDepth 100000 in
set_option maxHeartbeats 1000000 in
theorem dayOf_any (x : Nat) (hx : x < 18446744073709551616) (w : World) : Calls Tryz.prog 22 #[.float .f64 x] w fun e w' => e = .returned (.tuple #[.int .i64 (dayAns x).1, .int .i64 (dayAns x).2]) ∧ ∃ m, w' = w.drewN m := by
  have HF := floor_any x
  have HN := finite_any x hx
  cases hf : finB x with
  | false =>
    rw [hf] at HN
    have EM : Hid (dayAns x = (0, 80)) := show dayAns x = (0, 80) by unfold dayAns; rw [if_pos hf]
    go_enter Tryz.func22, Tryz.ntmps22
    go_wp2_with (first | (go_at_call 37; refine (HF _).mono ?_; rintro e w1 ⟨b, rfl, -, -, m, rfl⟩) | (go_at_call 27; refine (HN _).mono ?_; rintro e w2 ⟨rfl, rfl⟩))
    go_ret2
    rw [EM.out]
    exact ⟨rfl, m, rfl⟩
  | true =>
    rw [hf] at HN
    have HA : Hid (dayAns x = if fl x < -693593 ∨ 2958465 < fl x then (0, 81) else (fl x, 0)) := show dayAns x = _ by unfold dayAns; rw [if_neg (by simp [hf])]
    have hfin := fin_of hf
    go_enter Tryz.func22, Tryz.ntmps22
    go_wp2_with fail
    refine (HF _).mono ?_
    rintro e w1 ⟨b, rfl, hb, -, m, rfl⟩
    obtain ⟨hb1, hb2⟩ := hb hfin
    have o1 : (FloatKind.f64.format.order b 13917577167450931200 == some .lt) = decide (fl x < -693593) := (congrArg (· == some Ordering.lt) (order_int (c := 13917577167450931200) hb1 hb2 (n := -693593) (by decide) (by omega) (by omega))).trans (cmp_lt _ _)
    have o2 : (FloatKind.f64.format.order b 4703607666558107648 == some .gt) = decide (2958465 < fl x) := (congrArg (· == some Ordering.gt) (order_int (c := 4703607666558107648) hb1 hb2 (n := 2958465) (by decide) (by omega) (by omega))).trans (cmp_gt _ _)
    by_cases c1 : fl x < -693593
    · rw [decide_eq_true c1] at o1
      go_wp2_with (go_at_call 27; refine (HN _).mono ?_; rintro e w2 ⟨rfl, rfl⟩)
      go_ret2
      rw [HA.out, if_pos (Or.inl c1)]
      exact ⟨rfl, m, rfl⟩
    · rw [decide_eq_false c1] at o1
      by_cases c2 : 2958465 < fl x
      · rw [decide_eq_true c2] at o2
        go_wp2_with (go_at_call 27; refine (HN _).mono ?_; rintro e w2 ⟨rfl, rfl⟩)
        go_ret2
        rw [HA.out, if_pos (Or.inr c2)]
        exact ⟨rfl, m, rfl⟩
      · rw [decide_eq_false c2] at o2
        have hti := toInt_V hb1 hb2 (by omega) (by omega)
        have hcv : ∀ W : World, (convert 25 3 (.float .f64 b)).run Tryz.prog W = .ok (.int .i64 (fl x)) W := fun W => run_convert_float_int W 25 3 .f64 .i64 b (fl x) (by rw [Tryz.underlying25]; rfl) Tryz.underlying3 hti
        have HC : Hid (dayAns x = (fl x, 0)) := show dayAns x = (fl x, 0) by rw [HA.out, if_neg (by omega)]
        generalize fl x = f at *
        go_wp2_with (go_at_call 27; refine (HN _).mono ?_; rintro e w2 ⟨rfl, rfl⟩)
        go_ret2
        rw [HC.out]
        exact ⟨rfl, m, rfl⟩

set_option maxRecDepth 100000 in
set_option maxHeartbeats 1000000 in
theorem toDate_any (x : Nat) (hx : x < 18446744073709551616) (w : World) (hT : MTab w) : Calls Tryz.prog 10 #[.float .f64 x] w fun e w' => (((dayAns x).2 ≠ 0 ∧ e = .returned (.tuple #[.int .i64 0, .int .i64 0, .int .i64 0, .int .i64 (dayAns x).2])) ∨ ((dayAns x).2 = 0 ∧ ∃ (y : Int) (m : Nat) (d : Int), e = .returned (.tuple #[.int .i64 y, .int .i64 (m : Int), .int .i64 d, .int .i64 0]) ∧ IsDay (fl x) y m d)) ∧ Fr noB w w' := by
  have HD := dayOf_any x hx
  obtain ⟨⟨d, e⟩, hA⟩ : ∃ A, dayAns x = A := ⟨_, rfl⟩
  rw [hA] at HD
  simp only [hA]
  by_cases he : e = 0
  · subst he
    have hfl : d = fl x ∧ -693593 ≤ d ∧ d ≤ 2958465 := by
      unfold dayAns at hA
      split at hA
      · cases hA
      · split at hA
        · cases hA
        · cases hA; omega
    obtain ⟨h1, h2, h3⟩ := hfl
    rw [← h1]
    clear h1 hA
    go_enter Tryz.func10, Tryz.ntmps10
    go_wp2_with (first | (go_at_call 22; refine (HD _).mono ?_; rintro e w1 ⟨rfl, k, rfl⟩) | (go_at_call 23; refine (dateOf_any d h2 h3 _ (hT.fr ((Fr.refl noB w).drewN k))).mono ?_; rintro e w2 ⟨⟨y, m, dd, rfl, hday⟩, hF⟩))
    refine bodyPost_ret (results_tmp4 rfl _ _ _) rfl ?_
    exact ⟨Or.inr ⟨by simp, y, m, dd, rfl, hday⟩, ((Fr.refl noB w).drewN k).trans hF⟩
  · have he' : (e == 0) = false := by simp [he]
    have he2 : (e != 0) = true := by simp [he]
    go_enter Tryz.func10, Tryz.ntmps10
    go_wp2_with (first | (go_at_call 22; refine (HD _).mono ?_; rintro e w1 ⟨rfl, k, rfl⟩))
    refine bodyPost_ret (results_tmp4 rfl _ _ _) rfl ?_
    exact ⟨Or.inl ⟨he, rfl⟩, (Fr.refl noB w).drewN k⟩

/-- The day of the week. -/
def wdF (n : Int) : Int := (n + 693593 + 1) % 7 + 1
set_option maxRecDepth 100000 in
set_option maxHeartbeats 1000000 in
theorem weekday_any (x : Nat) (hx : x < 18446744073709551616) (w : World) : Calls Tryz.prog 14 #[.float .f64 x] w fun e w' => e = .returned (if (dayAns x).2 = 0 then .tuple #[.int .i64 (wdF (fl x)), .int .i64 0] else .tuple #[.int .i64 0, .int .i64 (dayAns x).2]) ∧ ∃ m, w' = w.drewN m := by
  have HD := dayOf_any x hx
  obtain ⟨⟨d, e⟩, hA⟩ : ∃ A, dayAns x = A := ⟨_, rfl⟩
  rw [hA] at HD
  simp only [hA]
  by_cases he : e = 0
  · subst he
    have hfl : d = fl x ∧ -693593 ≤ d ∧ d ≤ 2958465 := by
      unfold dayAns at hA
      split at hA
      · cases hA
      · split at hA
        · cases hA
        · cases hA; omega
    obtain ⟨h1, h2, h3⟩ := hfl
    rw [← h1]
    clear h1 hA
    obtain ⟨l, rfl⟩ : ∃ l : Nat, d = (l : Int) - 693593 := ⟨(d + 693593).toNat, by omega⟩
    unfold wdF
    rw [show (l : Int) - 693593 + 693593 + 1 = (l : Int) + 1 by omega]
    go_enter Tryz.func14, Tryz.ntmps14
    go_wp2_with (first | (go_at_call 22; refine (HD _).mono ?_; rintro e w1 ⟨rfl, k, rfl⟩))
    go_ret2
    exact ⟨by simp, k, rfl⟩
  · have he' : (e == 0) = false := by simp [he]
    have he2 : (e != 0) = true := by simp [he]
    rw [if_neg he]
    go_enter Tryz.func14, Tryz.ntmps14
    go_wp2_with (first | (go_at_call 22; refine (HD _).mono ?_; rintro e w1 ⟨rfl, k, rfl⟩))
    go_ret2
    exact ⟨rfl, k, rfl⟩
#print axioms toDate_any
#print axioms weekday_any
end Go.Proofs.YtfpefegpilkbgaaGreatDoor
