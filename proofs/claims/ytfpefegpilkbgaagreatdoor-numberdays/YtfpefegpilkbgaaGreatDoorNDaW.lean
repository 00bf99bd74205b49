/- NumberDays: the law's walk. -/
import Derived.Test.YtfpefegpilkbgaaGreatDoorNLiv
namespace Go.Proofs.YtfpefegpilkbgaaGreatDoor
open Go.RowKit Ieee Go.Shelf

theorem nearest_lt64 (n : Int) : FloatKind.f64.nearest n < 18446744073709551616 := by
  have := double.write_lt (.number (n < 0) n.natAbs 0)
  exact this
/-- A day as a float: what is said of it. -/
theorem day_facts (n : Int) (h1 : -693593 ≤ n) (h2 : n ≤ 2958465) : finB (FloatKind.f64.nearest n) = true ∧ fl (FloatKind.f64.nearest n) = n ∧ dayAns (FloatKind.f64.nearest n) = (n, 0) := by
  obtain ⟨a, b⟩ := ofInt_V n (by omega) (by omega)
  have hf := finB_of a
  have hl : fl (FloatKind.f64.nearest n) = n := by
    unfold fl
    rw [b, Int.mul_ediv_cancel _ (by have := DI_pos; omega)]
  refine ⟨hf, hl, ?_⟩
  unfold dayAns
  rw [if_neg (by simp [hf]), hl, if_neg (by omega)]
theorem toDay (n : Int) (h1 : -693593 ≤ n) (h2 : n ≤ 2958465) (w : World) (hT : MTab w) : Calls Tryz.prog 10 #[.float .f64 (FloatKind.f64.nearest n)] w fun e w' => (∃ (y : Int) (m : Nat) (d : Int), e = .returned (.tuple #[.int .i64 y, .int .i64 (m : Int), .int .i64 d, .int .i64 0]) ∧ IsDay n y m d) ∧ Fr noB w w' := by
  obtain ⟨a, b, c⟩ := day_facts n h1 h2
  refine (toDate_any _ (nearest_lt64 n) w hT).mono ?_
  rintro e w' ⟨h, hF⟩
  rw [c, b] at h
  rcases h with ⟨h, _⟩ | ⟨_, h⟩
  · exact absurd rfl h
  · exact ⟨h, hF⟩
theorem wday (n : Int) (h1 : -693593 ≤ n) (h2 : n ≤ 2958465) (w : World) : Calls Tryz.prog 14 #[.float .f64 (FloatKind.f64.nearest n)] w fun e w' => e = .returned (.tuple #[.int .i64 (wdF n), .int .i64 0]) ∧ ∃ m, w' = w.drewN m := by
  obtain ⟨a, b, c⟩ := day_facts n h1 h2
  refine (weekday_any _ (nearest_lt64 n) w).mono ?_
  rintro e w' ⟨h, hF⟩
  rw [c, b, if_pos rfl] at h
  exact ⟨h, hF⟩
theorem fromDay (n y : Int) (m : Nat) (d : Int) (h : IsDay n y m d) (w : World) (hT : MTab w) : Calls Tryz.prog 6 #[.int .i64 y, .int .i64 (m : Int), .int .i64 d] w fun e w' => e = .returned (.tuple #[.float .f64 (FloatKind.f64.nearest n), .int .i64 0]) ∧ w' = w := by
  obtain ⟨h1, h2, h3, h4, h5, h6, h7⟩ := h
  have hd : dateF y (m : Int) d = true := by unfold dateF; rw [Int.toNat_natCast]; simp; omega
  have H := fromDate_any y (m : Int) d w hT
  rw [hd, if_pos rfl, Int.toNat_natCast, h7] at H
  exact H

set_option maxRecDepth 100000 in
set_option maxHeartbeats 4000000 in
theorem days_walk (dd : Nat) (hdd : dd < 4294967296) (w : World) (hT : NTabs w) : Calls Tryz.prog 4 #[.int .u32 (dd : Int)] w fun e w' => e = .returned (.bool true) ∧ Below w.heap.size w w' := by
  obtain ⟨k, hk⟩ : ∃ k, dd % 3652059 = k := ⟨_, rfl⟩
  have hk2 : k < 3652059 := by omega
  have f1 : (dd : Int) % 3652059 = (k : Int) := by omega
  obtain ⟨n, hn⟩ : ∃ n : Int, (k : Int) - 693593 = n := ⟨_, rfl⟩
  have hn1 : -693593 ≤ n := by omega
  have hn2 : n ≤ 2958465 := by omega
  have H1 : Hid (∀ W, Fr noB w W → Calls Tryz.prog 10 #[.float .f64 (FloatKind.f64.nearest n)] W fun e w' => (∃ (y : Int) (m : Nat) (d : Int), e = .returned (.tuple #[.int .i64 y, .int .i64 (m : Int), .int .i64 d, .int .i64 0]) ∧ IsDay n y m d) ∧ Fr noB W w') := fun W hW => toDay n hn1 hn2 W (hT.m.fr hW)
  have H2 : Hid (∀ (y : Int) (m : Nat) (d : Int) W, IsDay n y m d → Fr noB w W → Calls Tryz.prog 6 #[.int .i64 y, .int .i64 (m : Int), .int .i64 d] W fun e w' => e = .returned (.tuple #[.float .f64 (FloatKind.f64.nearest n), .int .i64 0]) ∧ w' = W) := fun y m d W hd hW => fromDay n y m d hd W (hT.m.fr hW)
  have H3 : Hid (∀ W, Fr noB w W → Calls Tryz.prog 8 #[] W fun e w' => e = .returned (.bool true) ∧ Fr noB W w') := fun W hW => live_true W (hT.fr hW)
  have H4 := wday n hn1 hn2
  have hself : (FloatKind.f64.format.order (FloatKind.f64.nearest n) (FloatKind.f64.nearest n) != some .eq) = false := by
    have := order_V (ofInt_V n (by omega) (by omega)).1 (ofInt_V n (by omega) (by omega)).1
    show (double.order _ _ != some .eq) = false
    rw [this]
    simp
  have hfo : floatOfInt .f64 n = FloatKind.f64.nearest n := rfl
  obtain ⟨X, hX⟩ : ∃ X, FloatKind.f64.nearest n = X := ⟨_, rfl⟩
  rw [hX] at H1 H2 H4 hself hfo
  have HX : Hid _ := hX
  have HN : Hid _ := hn
  clear hX hk
  have hwd : 1 ≤ wdF n ∧ wdF n ≤ 7 := by unfold wdF; omega
  by_cases hlast : n = 2958465
  · generalize wdF n = WD at *
    have hnb : (n == 2958465) = true := by simp [hlast]
    have HLA : Hid (n = 2958465) := hlast
    clear hlast
    go_enter Tryz.func4, Tryz.ntmps4
    go_wp2_with (first
      | (go_at_call_of 10 (Value.float .f64 X); refine (H1.out _ (Fr.refl _ _)).mono ?_; rintro e w1 ⟨⟨y, m, d, rfl, hday⟩, hF1⟩)
      | (go_at_call 6; refine (H2.out y m d _ hday hF1).mono ?_; rintro e w2 ⟨rfl, rfl⟩)
      | (go_at_call 8; refine (H3.out _ hF1).mono ?_; rintro e w3 ⟨rfl, hF3⟩; have hG3 := hF1.trans hF3)
      | (go_at_call_of 14 (Value.float .f64 X); refine (H4 _).mono ?_; rintro e w4 ⟨rfl, k4, rfl⟩; have hG4 := hG3.drewN k4))
    go_ret
    exact ⟨ret_bool (by simp), hG4.below (Nat.le_refl _) (fun _ h => h.elim)⟩
  · have hl2 : n < 2958465 := by omega
    have H5 : Hid (∀ W, Fr noB w W → Calls Tryz.prog 10 #[.float .f64 (FloatKind.f64.nearest (n + 1))] W fun e w' => (∃ (y : Int) (m : Nat) (d : Int), e = .returned (.tuple #[.int .i64 y, .int .i64 (m : Int), .int .i64 d, .int .i64 0]) ∧ IsDay (n + 1) y m d) ∧ Fr noB W w') := fun W hW => toDay (n + 1) (by omega) (by omega) W (hT.m.fr hW)
    have H6 := wday (n + 1) (by omega) (by omega)
    have hfo2 : floatOfInt .f64 (n + 1) = FloatKind.f64.nearest (n + 1) := rfl
    obtain ⟨Y, hY⟩ : ∃ Y, FloatKind.f64.nearest (n + 1) = Y := ⟨_, rfl⟩
    rw [hY] at H5 H6 hfo2
    have hww : wdF (n + 1) = wdF n % 7 + 1 := by unfold wdF; omega
    rw [hww] at H6
    have HY : Hid _ := hY
    clear hY hww hlast
    obtain ⟨a, ha⟩ : ∃ a : Nat, wdF n = (a : Int) := ⟨(wdF n).toNat, by omega⟩
    rw [ha] at H4 H6 hwd
    clear ha
    go_enter Tryz.func4, Tryz.ntmps4
    go_wp2_with (first
      | (go_at_call_of 10 (Value.float .f64 X); refine (H1.out _ (Fr.refl _ _)).mono ?_; rintro e w1 ⟨⟨y, m, d, rfl, hday⟩, hF1⟩)
      | (go_at_call 6; refine (H2.out y m d _ hday hF1).mono ?_; rintro e w2 ⟨rfl, rfl⟩)
      | (go_at_call 8; refine (H3.out _ hF1).mono ?_; rintro e w3 ⟨rfl, hF3⟩; have hG3 := hF1.trans hF3)
      | (go_at_call_of 14 (Value.float .f64 X); refine (H4 _).mono ?_; rintro e w4 ⟨rfl, k4, rfl⟩; have hG4 := hG3.drewN k4)
      | (go_at_call_of 10 (Value.float .f64 Y); refine (H5.out _ hG4).mono ?_; rintro e w5 ⟨⟨y2, m2, d2, rfl, hday2⟩, hF5⟩; have hG5 := hG4.trans hF5))
    refine (H6 _).mono ?_
    rintro e w6 ⟨rfl, k6, rfl⟩
    have hG6 := hG5.drewN k6
    have hBel := hG6.below (Nat.le_refl _) (fun _ h => h.elim)
    have HBel : Hid _ := hBel
    have hnx := hday.next hday2
    have HDD : Hid _ := And.intro hday hday2
    clear hday hday2 hBel hG6 hG5 hG4 hG3 hF1 hF3 hF5 H4 H6
    rcases hnx with ⟨rfl, rfl, rfl⟩ | ⟨rfl, rfl, rfl⟩ | ⟨rfl, rfl, rfl, rfl⟩
    · have hmd : d ≤ 40 ∧ -40 ≤ d := by have := HDD.out.1.2.2.2.2; have := domF_bounds y2 m2; omega
      go_wp2_with fail
      go_ret
      exact ⟨rfl, HBel.out⟩
    · have hmm : m ≤ 12 := HDD.out.1.2.2.2.1
      have hmd : d ≤ 40 ∧ -40 ≤ d := by have := HDD.out.1.2.2.2.2; have := domF_bounds y2 m; omega
      have e2 : ((m : Int) + 1 == (m : Int)) = false := by rw [beq_eq_false_iff_ne]; omega
      have e3 : ¬ (m : Int) + 1 = (m : Int) := by omega
      go_wp2_with fail
      go_ret
      exact ⟨rfl, HBel.out⟩
    · have hyy : 1 ≤ y ∧ y ≤ 9999 := ⟨HDD.out.1.1, HDD.out.1.2.1⟩
      have hmd : d ≤ 40 ∧ -40 ≤ d := by have := HDD.out.1.2.2.2.2; have := domF_bounds y 12; omega
      have e2 : (y + 1 == y) = false := by rw [beq_eq_false_iff_ne]; omega
      have e3 : ¬ y + 1 = y := by omega
      go_wp2_with fail
      go_ret
      exact ⟨rfl, HBel.out⟩
#print axioms days_walk
end Go.Proofs.YtfpefegpilkbgaaGreatDoor
