/- NumberDates: the law's walk. -/
import Derived.Test.YtfpefegpilkbgaaGreatDoorNClk
import Derived.Test.YtfpefegpilkbgaaGreatDoorNLiv
namespace Go.Proofs.YtfpefegpilkbgaaGreatDoor
open Go.RowKit Ieee

set_option maxRecDepth 100000 in
theorem same_self (x : Nat) (w : World) : Calls Tryz.prog 9 #[.float .f64 x, .float .f64 x] w fun e w' => e = .returned (.bool true) ∧ w' = w := by
  have h1 := run_bits x
  go_enter Tryz.func9, Tryz.ntmps9
  go_wp2_with fail
  go_ret
  exact ⟨ret_bool (by simp), rfl⟩
theorem clkV_tuple (x : Nat) : ∃ a b c d e : Int, clkV x = .tuple #[.int .i64 a, .int .i64 b, .int .i64 c, .int .i64 d, .int .i64 e] := by
  cases h : finB x with
  | false => exact ⟨_, _, _, _, _, clkV_nan h⟩
  | true =>
    unfold clkV
    rw [if_neg (by simp [h])]
    cases secF x with
    | none => exact ⟨_, _, _, _, _, rfl⟩
    | some n => exact ⟨_, _, _, _, _, rfl⟩
theorem fromV_tuple (y m d : Int) : ∃ (X : Nat) (E : Int), (if dateF y m d then Value.tuple #[.float .f64 (FloatKind.f64.nearest (dayF y m.toNat d)), .int .i64 0] else .tuple #[.float .f64 0, .int .i64 81]) = .tuple #[.float .f64 X, .int .i64 E] := by
  split
  · exact ⟨_, _, rfl⟩
  · exact ⟨_, _, rfl⟩
theorem wdV_tuple (x : Nat) : ∃ a e : Int, (if (dayAns x).2 = 0 then Value.tuple #[.int .i64 (wdF (fl x)), .int .i64 0] else .tuple #[.int .i64 0, .int .i64 (dayAns x).2]) = .tuple #[.int .i64 a, .int .i64 e] := by
  split
  · exact ⟨_, _, rfl⟩
  · exact ⟨_, _, rfl⟩
set_option maxRecDepth 100000 in
set_option maxHeartbeats 2000000 in
theorem dates_walk (x : Nat) (y m d : Int) (hx : x < 18446744073709551616) (w : World) (hT : NTabs w) : Calls Tryz.prog 3 #[.agg #[.int .u64 (x : Int), .int .i64 y, .int .i64 m, .int .i64 d]] w fun e w' => e = .returned (.bool true) ∧ Below w.heap.size w w' := by
  have h1 := run_from x
  obtain ⟨X, E, hXE⟩ := fromV_tuple y m d
  have H2 : Hid (∀ W, Fr noB w W → Calls Tryz.prog 6 #[.int .i64 y, .int .i64 m, .int .i64 d] W fun e w' => e = .returned (.tuple #[.float .f64 X, .int .i64 E]) ∧ w' = W) := fun W hW => by rw [← hXE]; exact fromDate_any y m d W (hT.m.fr hW)
  have H3 : Hid (∀ W, Calls Tryz.prog 7 #[.int .i64 y, .int .i64 m, .int .i64 d] W fun e w' => e = .returned (.tuple #[.float .f64 X, .int .i64 E]) ∧ Fr noB W w') := fun W => by rw [← hXE]; exact rfromDate_any y m d W
  have H4 : Hid (∀ W, Fr noB w W → Calls Tryz.prog 8 #[] W fun e w' => e = .returned (.bool true) ∧ Fr noB W w') := fun W hW => live_true W (hT.fr hW)
  have H5 := same_self X
  have H6 : Hid (∀ W, Fr noB w W → _) := fun W hW => toDate_any x hx W (hT.m.fr hW)
  have H7 := rtoDate_any x
  obtain ⟨a1, a2, a3, a4, a5, hC⟩ := clkV_tuple x
  have H8 : Hid (∀ W, _) := fun W => clock_any x hx W
  have H9 : Hid (∀ W, _) := fun W => rclock_any x W
  rw [hC] at H8 H9
  obtain ⟨b1, b2, hB⟩ := wdV_tuple x
  have H10 : Hid (∀ W, _) := fun W => weekday_any x hx W
  have H11 : Hid (∀ W, _) := fun W => rweekday_any x W
  rw [hB] at H10 H11
  clear hXE hC hB
  obtain ⟨N, hN⟩ : ∃ N, w.heap.size = N := ⟨_, rfl⟩
  obtain ⟨W0, hW0⟩ : ∃ W0, w.alloc (.cells #[.int .u64 (x : Int), .int .i64 y, .int .i64 m, .int .i64 d] 24 (0, 0)) = W0 := ⟨_, rfl⟩
  have hnew := heap_alloc_new w (.cells #[.int .u64 (x : Int), .int .i64 y, .int .i64 m, .int .i64 d] 24 (0, 0))
  rw [hN, hW0] at hnew
  have hF0 : Fr noB w W0 := by rw [← hW0]; exact (Fr.refl noB w).alloc _
  have c0 : W0.cell? ⟨N, 0, none⟩ = some (.int .u64 (x : Int)) := cellOf (o := 0) hnew rfl
  have c1 : W0.cell? ⟨N, 1, none⟩ = some (.int .i64 y) := cellOf (o := 1) hnew rfl
  have c2 : W0.cell? ⟨N, 2, none⟩ = some (.int .i64 m) := cellOf (o := 2) hnew rfl
  have c3 : W0.cell? ⟨N, 3, none⟩ = some (.int .i64 d) := cellOf (o := 3) hnew rfl
  clear hnew
  have hFW : Hid (Fr noB w W0) := hF0
  clear hF0
  by_cases hok : (dayAns x).2 = 0
  · have H6' : Hid (∀ W, Fr noB w W → Calls Tryz.prog 10 #[.float .f64 x] W fun e w' => (∃ (y : Int) (m : Nat) (d : Int), e = .returned (.tuple #[.int .i64 y, .int .i64 (m : Int), .int .i64 d, .int .i64 0]) ∧ IsDay (fl x) y m d) ∧ Fr noB W w') := fun W hW => (H6.out W hW).mono fun e w' ⟨h, hF⟩ => ⟨by
      rcases h with ⟨h, _⟩ | ⟨_, h⟩
      · exact absurd hok h
      · exact h, hF⟩
    have H7' : Hid (∀ W, Calls Tryz.prog 11 #[.float .f64 x] W fun e w' => (∃ (y : Int) (m : Nat) (d : Int), e = .returned (.tuple #[.int .i64 y, .int .i64 (m : Int), .int .i64 d, .int .i64 0]) ∧ IsDay (fl x) y m d) ∧ Fr noB W w') := fun W => (H7 W).mono fun e w' ⟨h, hF⟩ => ⟨by
      rcases h with ⟨h, _⟩ | ⟨_, h⟩
      · exact absurd hok h
      · exact h, hF⟩
    clear H6 H7 hok
    go_enter Tryz.func3, Tryz.ntmps3
    go_wp2_with (first
      | (go_at_call 6; refine (H2.out _ hFW.out).mono ?_; rintro e w1 ⟨rfl, rfl⟩)
      | (go_at_call 7; refine (H3.out _).mono ?_; rintro e w2 ⟨rfl, hF2⟩; have hG2 : Hid _ := hFW.out.trans hF2; clear hF2)
      | (go_at_call 8; refine (H4.out _ hG2.out).mono ?_; rintro e w3 ⟨rfl, hF3⟩; have hG3 : Hid _ := hG2.out.trans hF3; clear hF3)
      | (go_at_call 9; refine (H5 _).mono ?_; rintro e w4 ⟨rfl, rfl⟩)
      | (go_at_call 10; refine (H6'.out _ hG3.out).mono ?_; rintro e w5 ⟨⟨y1, m1, d1, rfl, hd1⟩, hF5⟩; have hG5 : Hid _ := hG3.out.trans hF5; have HD1 : Hid _ := hd1; clear hF5 hd1))
    refine (H7'.out _).mono ?_
    rintro e w6 ⟨⟨y2, m2, d2, rfl, hd2⟩, hF6⟩
    have hG6 : Hid _ := hG5.out.trans hF6
    obtain ⟨rfl, rfl, rfl⟩ := hd2.unique HD1.out
    clear hd2 hF6 HD1
    go_wp2_with (first
      | (go_at_call 12; refine (H8.out _).mono ?_; rintro e w7 ⟨rfl, k7, rfl⟩; have hG7 : Hid _ := hG6.out.drewN k7)
      | (go_at_call 13; refine (H9.out _).mono ?_; rintro e w8 ⟨rfl, k8, rfl⟩; have hG8 : Hid _ := hG7.out.drewN k8)
      | (go_at_call 14; refine (H10.out _).mono ?_; rintro e w9 ⟨rfl, k9, rfl⟩; have hG9 : Hid _ := hG8.out.drewN k9)
      | (go_at_call 15; refine (H11.out _).mono ?_; rintro e w10 ⟨rfl, k10, rfl⟩; have hG10 : Hid _ := hG9.out.drewN k10))
    go_ret
    refine ⟨ret_bool (by simp), ?_⟩
    rw [hN]
    have := hG10.out.below (B := N) (by omega) (fun _ h => h.elim)
    simpa using this
  · have H6' : Hid (∀ W, Fr noB w W → Calls Tryz.prog 10 #[.float .f64 x] W fun e w' => e = .returned (.tuple #[.int .i64 0, .int .i64 0, .int .i64 0, .int .i64 (dayAns x).2]) ∧ Fr noB W w') := fun W hW => (H6.out W hW).mono fun e w' ⟨h, hF⟩ => ⟨by
      rcases h with ⟨_, h⟩ | ⟨h, _⟩
      · exact h
      · exact absurd h hok, hF⟩
    have H7' : Hid (∀ W, Calls Tryz.prog 11 #[.float .f64 x] W fun e w' => e = .returned (.tuple #[.int .i64 0, .int .i64 0, .int .i64 0, .int .i64 (dayAns x).2]) ∧ Fr noB W w') := fun W => (H7 W).mono fun e w' ⟨h, hF⟩ => ⟨by
      rcases h with ⟨_, h⟩ | ⟨h, _⟩
      · exact h
      · exact absurd h hok, hF⟩
    clear H6 H7 hok
    generalize (dayAns x).2 = Z at *
    go_enter Tryz.func3, Tryz.ntmps3
    go_wp2_with (first
      | (go_at_call 6; refine (H2.out _ hFW.out).mono ?_; rintro e w1 ⟨rfl, rfl⟩)
      | (go_at_call 7; refine (H3.out _).mono ?_; rintro e w2 ⟨rfl, hF2⟩; have hG2 : Hid _ := hFW.out.trans hF2; clear hF2)
      | (go_at_call 8; refine (H4.out _ hG2.out).mono ?_; rintro e w3 ⟨rfl, hF3⟩; have hG3 : Hid _ := hG2.out.trans hF3; clear hF3)
      | (go_at_call 9; refine (H5 _).mono ?_; rintro e w4 ⟨rfl, rfl⟩)
      | (go_at_call 10; refine (H6'.out _ hG3.out).mono ?_; rintro e w5 ⟨rfl, hF5⟩; have hG5 : Hid _ := hG3.out.trans hF5; clear hF5)
      | (go_at_call 11; refine (H7'.out _).mono ?_; rintro e w6 ⟨rfl, hF6⟩; have hG6 : Hid _ := hG5.out.trans hF6; clear hF6)
      | (go_at_call 12; refine (H8.out _).mono ?_; rintro e w7 ⟨rfl, k7, rfl⟩; have hG7 : Hid _ := hG6.out.drewN k7)
      | (go_at_call 13; refine (H9.out _).mono ?_; rintro e w8 ⟨rfl, k8, rfl⟩; have hG8 : Hid _ := hG7.out.drewN k8)
      | (go_at_call 14; refine (H10.out _).mono ?_; rintro e w9 ⟨rfl, k9, rfl⟩; have hG9 : Hid _ := hG8.out.drewN k9)
      | (go_at_call 15; refine (H11.out _).mono ?_; rintro e w10 ⟨rfl, k10, rfl⟩; have hG10 : Hid _ := hG9.out.drewN k10))
    go_ret
    refine ⟨ret_bool (by simp), ?_⟩
    rw [hN]
    have := hG10.out.below (B := N) (by omega) (fun _ h => h.elim)
    simpa using this
#print axioms dates_walk
end Go.Proofs.YtfpefegpilkbgaaGreatDoor
