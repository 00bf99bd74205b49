/- NumberNear: the law's walk. -/
import Derived.Test.YtfoclhpnlemmnaaGreatDoorTNec
namespace Go.Proofs.YtfoclhpnlemmnaaGreatDoor
open Go.RowKit Ieee

set_option maxRecDepth 100000 in
set_option maxHeartbeats 4000000 in
theorem near_walk (a b : Nat) (ha : a < 4294967296) (hb : b < 4294967296) (w : World) (hT : NTabs w) : Calls Tryz.prog 4 #[.int .u32 (a : Int), .int .u32 (b : Int)] w fun e w' => e = .returned (.bool true) ∧ Below w.heap.size w w' := by
  obtain ⟨d, hd⟩ : ∃ d : Nat, a % 2000000 = d := ⟨_, rfl⟩
  obtain ⟨c, hc⟩ : ∃ c : Nat, b % 86400 = c := ⟨_, rfl⟩
  have hd2 : d < 2000000 := by omega
  have hc2 : c < 86400 := by omega
  have ed : (a : Int) % 2000000 = (d : Int) := by omega
  have ec : (b : Int) % 86400 = (c : Int) := by omega
  have HL : Hid (∀ W, Fr noB w W → Calls Tryz.prog 14 #[] W fun e w' => e = .returned (.bool true) ∧ Fr noB W w') := fun W hW => live_true W (hT.fr hW)
  have hq := run_quo c (by omega)
  have hsm := run_sum (d : Int) c (by omega) (by omega) (by omega)
  have hx := sum_lt d c hd2 hc2
  obtain ⟨hfx, _⟩ := near_sec d c hd2 hc2
  have H1 : Hid (∀ W, Fr noB w W → Calls Tryz.prog 6 #[.float .f64 (sumF d c)] W fun e w' => e = .returned (.tuple #[.string (baL (dtx (d * 86400 + c + 59926435200))), .int .i64 0]) ∧ Fr noB W w') := fun W hW => by
    rw [← dt_text d c hd2 hc2]
    exact dateText_any (sumF d c) hx W (hT.fr hW).m (hT.fr hW).u
  obtain ⟨S, hS⟩ : ∃ S, baL (dtx (d * 86400 + c + 59926435200)) = S := ⟨_, rfl⟩
  have hSl : S.data.toList = dtx (d * 86400 + c + 59926435200) := by rw [← hS, baL_list]
  have hSz : S.size ≤ 140737488355328 := by
    have hb2 : ∀ n l, n < 10000000000 → l ≤ 4 → (padL n l).length ≤ 30 := by
      intro n l hn hl
      have := pad_len n l (by omega) hl
      rwa [baL_size] at this
    obtain ⟨y, m, dd, hIs⟩ := ex_day (d : Int) (by omega) (by omega)
    obtain ⟨_, _, y1, y2, y3⟩ := date_num hIs
    rw [← hS, baL_size]
    unfold dtx
    rw [show (d * 86400 + c + 59926435200) / 86400 = d + 693593 by omega, show (d * 86400 + c + 59926435200) % 86400 = c by omega, show (((d + 693593 : Nat) : Int) - 693593) = (d : Int) by omega, ymd_of hIs]
    have k1 := hb2 y 4 (by omega) (by omega)
    have k2 := hb2 m 2 (by omega) (by omega)
    have k3 := hb2 dd 2 (by omega) (by omega)
    have k4 := hb2 (c / 3600) 2 (by omega) (by omega)
    have k5 := hb2 (c / 60 % 60) 2 (by omega) (by omega)
    have k6 := hb2 (c % 60) 2 (by omega) (by omega)
    unfold dateT timeT
    split <;> simp only [List.length_append, List.length_cons, List.length_nil] <;> omega
  have H2 : Hid (∀ W, Fr noB w W → Calls Tryz.prog 10 #[.string S] W fun e w' => e = .returned (.tuple #[.float .f64 (sumF d c), .int .i64 0]) ∧ Fr noB W w') := fun W hW => by
    have h := parseDate_any S hSz W (hT.fr hW).m
    rw [hSl, pd_text d c hd2 hc2] at h
    exact h
  rw [hS] at H1
  have H3 : Hid (∀ W, Fr noB w W → Calls Tryz.prog 8 #[.float .f64 (sumF d c)] W fun e w' => e = .returned (.tuple #[.string (baL (ttx (d * 86400 + c))), .int .i64 0]) ∧ Fr noB W w') := fun W hW => by
    rw [← tt_text d c hd2 hc2]
    exact timeText_any (sumF d c) hx W (hT.fr hW).u
  obtain ⟨R, hR⟩ : ∃ R, baL (ttx (d * 86400 + c)) = R := ⟨_, rfl⟩
  have hRl : R.data.toList = ttx (d * 86400 + c) := by rw [← hR, baL_list]
  have hRz : R.size ≤ 140737488355328 := by
    have hb2 : ∀ n, n < 10000000000000 → (padL n 2).length ≤ 30 := by
      intro n hn
      have := pad_len n 2 (by omega) (by omega)
      rwa [baL_size] at this
    rw [← hR, baL_size]
    have k4 := hb2 ((d * 86400 + c) / 3600) (by omega)
    have k5 := hb2 ((d * 86400 + c) / 60 % 60) (by omega)
    have k6 := hb2 ((d * 86400 + c) % 60) (by omega)
    unfold ttx
    simp only [List.length_append, List.length_cons, List.length_nil]
    omega
  have H4 : Hid (∀ W, Calls Tryz.prog 12 #[.string R] W fun e w' => e = .returned (.tuple #[.float .f64 (dayQ (d * 86400 + c)), .int .i64 0]) ∧ Fr noB W w') := fun W => by
    have h := parseTime_any R hRz W
    rw [hRl, pt_text (d * 86400 + c) (by omega)] at h
    exact h
  rw [hR] at H3
  obtain ⟨⟨r1, g1, o1⟩, ⟨r2, g2, o2⟩⟩ := near_dif d c hd2 hc2
  have hs0 := fun W => run_sub_fin hfx W
  have hs1 := fun W => run_float_arith (P := Tryz.prog) W .sub 23 .f64 _ _ _ g1
  have hs2 := fun W => run_float_arith (P := Tryz.prog) W .sub 23 .f64 _ _ _ g2
  have o0 := near_zero
  clear g1 g2 hS hSl hSz hR hRl hRz hfx hx hd hc
  generalize sumF (d : Int) c = X at *
  generalize dayQ (d * 86400 + c) = Z at *
  generalize dayQ c = Q at *
  have HT0 : Hid _ := hT
  clear hT
  go_enter Tryz.func4, Tryz.ntmps4
  go_wp2_with fail
  refine (H1.out _ (Fr.refl _ _)).mono ?_
  rintro e w1 ⟨rfl, hF1⟩
  have G1 : Hid (Fr noB w w1) := hF1
  clear hF1
  go_wp2_with fail
  refine (H2.out _ G1.out).mono ?_
  rintro e w2 ⟨rfl, hF2⟩
  have G2 : Hid (Fr noB w w2) := G1.out.trans hF2
  clear hF2
  go_wp2_with fail
  refine (H3.out _ G2.out).mono ?_
  rintro e w3 ⟨rfl, hF3⟩
  have G3 : Hid (Fr noB w w3) := G2.out.trans hF3
  clear hF3
  go_wp2_with fail
  refine (H4.out _).mono ?_
  rintro e w4 ⟨rfl, hF4⟩
  have G4 : Hid (Fr noB w w4) := G3.out.trans hF4
  clear hF4
  go_wp2_with fail
  refine (HL.out _ G4.out).mono ?_
  rintro e w5 ⟨rfl, hF5⟩
  have G5 : Hid (Fr noB w w5) := G4.out.trans hF5
  clear hF5
  go_wp2_with fail
  go_ret
  refine ⟨ret_bool (by simp), ?_⟩
  exact G5.out.below (Nat.le_refl _) (fun _ h => h.elim)
#print axioms near_walk
end Go.Proofs.YtfoclhpnlemmnaaGreatDoor
