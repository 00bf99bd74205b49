/- The document's ParseDate: contract. -/
import Derived.Test.YtfoclhpnlemmnaaGreatDoorTPtP
namespace Go.Proofs.YtfoclhpnlemmnaaGreatDoor
open Go.RowKit Ieee

theorem extract_list (s : ByteArray) (a b : Nat) : (s.extract a b).data.toList = (s.data.toList.take b).drop a := by
  simp [ByteArray.data_extract]
  rw [List.take_drop]
  by_cases h : a ≤ b
  · rw [show a + (b - a) = b by omega]
  · rw [List.drop_of_length_le (by simp; omega), List.drop_of_length_le (by simp; omega)]
theorem two_list {L : List UInt8} (h : L.length = 2) : ∃ a b, L = [a, b] := by
  match L, h with
  | [a, b], _ => exact ⟨a, b, rfl⟩
theorem four_list {L : List UInt8} (h : L.length = 4) : ∃ a b c d, L = [a, b, c, d] := by
  match L, h with
  | [a, b, c, d], _ => exact ⟨a, b, c, d, rfl⟩
theorem date_slices {s : ByteArray} {Y M D : List UInt8} (h : s.data.toList = Y ++ 45 :: (M ++ 45 :: D)) (h1 : Y.length = 4) (h2 : M.length = 2) (h3 : D.length = 2) :
    s.size = 10 ∧ (s.extract 0 4).data.toList = Y ∧ (s.extract 5 7).data.toList = M ∧ (s.extract 8 10).data.toList = D := by
  have hz : s.size = 10 := by
    have := congrArg List.length h
    simp [h1, h2, h3] at this
    exact this
  simp only [extract_list, h]
  obtain ⟨_, _, _, _, rfl⟩ := four_list h1
  obtain ⟨_, _, rfl⟩ := two_list h2
  obtain ⟨_, _, rfl⟩ := two_list h3
  exact ⟨hz, rfl, rfl, rfl⟩
theorem whole_slices {s : ByteArray} {Y M D h m c : List UInt8} (hs : s.data.toList = Y ++ 45 :: (M ++ 45 :: D) ++ 84 :: (h ++ 58 :: (m ++ 58 :: c))) (h1 : Y.length = 4) (h2 : M.length = 2) (h3 : D.length = 2) (h4 : h.length = 2) (h5 : m.length = 2) (h6 : c.length = 2) :
    s.size = 19 ∧ (s.extract 11 13).data.toList = h ∧ (s.extract 14 16).data.toList = m ∧ (s.extract 17 19).data.toList = c ∧ (s.extract 0 10).data.toList = Y ++ 45 :: (M ++ 45 :: D) := by
  have hz : s.size = 19 := by
    have := congrArg List.length hs
    simp [h1, h2, h3, h4, h5, h6] at this
    exact this
  simp only [extract_list, hs]
  obtain ⟨_, _, _, _, rfl⟩ := four_list h1
  obtain ⟨_, _, rfl⟩ := two_list h2
  obtain ⟨_, _, rfl⟩ := two_list h3
  obtain ⟨_, _, rfl⟩ := two_list h4
  obtain ⟨_, _, rfl⟩ := two_list h5
  obtain ⟨_, _, rfl⟩ := two_list h6
  exact ⟨hz, rfl, rfl, rfl, rfl⟩
theorem num_slice {s : ByteArray} {L : List UInt8} (h : s.data.toList = L) (hd : ∀ c ∈ L, dgB c = true) (h0 : L ≠ []) (hl : L.length ≤ 18) (w : World) : Calls Tryz.prog 34 #[.string s] w fun e w' => e = .returned (.int .i64 (numOf L : Int)) ∧ Fr noB w w' :=
  rnumber_any s _ (by have : s.data.toList.length = s.size := by simp
                      rw [h] at this
                      omega) (by rw [h]; exact atoi_num L hd h0) w
theorem likeW (s : ByteArray) (w : World) : Calls Tryz.prog 33 #[.string s, .string ⟨#[48, 48, 48, 48, 45, 48, 48, 45, 48, 48, 84, 48, 48, 58, 48, 48, 58, 48, 48]⟩] w fun e w' => e = .returned (.bool (likeB s.data.toList wholeFm)) ∧ Fr noB w w' := rlike_any s ⟨#[48, 48, 48, 48, 45, 48, 48, 45, 48, 48, 84, 48, 48, 58, 48, 48, 58, 48, 48]⟩ (by decide) w
theorem likeD (s : ByteArray) (w : World) : Calls Tryz.prog 33 #[.string s, .string ⟨#[48, 48, 48, 48, 45, 48, 48, 45, 48, 48]⟩] w fun e w' => e = .returned (.bool (likeB s.data.toList dateFm)) ∧ Fr noB w w' := rlike_any s dateB (by decide) w
theorem likeM (s : ByteArray) (w : World) : Calls Tryz.prog 33 #[.string s, .string ⟨#[72, 48, 48, 77, 48, 48, 83]⟩] w fun e w' => e = .returned (.bool (likeB s.data.toList minHFm)) ∧ Fr noB w w' := rlike_any s ⟨#[72, 48, 48, 77, 48, 48, 83]⟩ (by decide) w
theorem run_sum (n : Int) (t : Nat) (h1 : -9007199254740992 ≤ n) (h2 : n ≤ 9007199254740992) (ht : t < 144115188075855872) (W : World) : (binOp .add 23 (.float .f64 (floatOfInt .f64 n)) (.float .f64 (dayQ t))).run Tryz.prog W = .ok (.float .f64 (sumF n t)) W := run_float_arith W .add 23 .f64 _ _ _ (sumF_spec n t h1 h2 ht)
theorem run_quo0 (W : World) : (binOp .quo 23 (.float .f64 (floatOfInt .f64 0)) (.float .f64 4680673776000565248)).run Tryz.prog W = .ok (.float .f64 (dayQ 0)) W := run_quo 0 (by omega) W
set_option maxRecDepth 100000 in
set_option maxHeartbeats 2000000 in
theorem rparseDate_any (s : ByteArray) (w : World) : Calls Tryz.prog 11 #[.string s] w fun e w' => e = .returned (pdV (pdF s.data.toList)) ∧ Fr noB w w' := by
  have HLW := likeW s
  have HLD := likeD s
  cases hlw : likeB s.data.toList wholeFm with
  | false =>
    rw [hlw] at HLW
    cases hld : likeB s.data.toList dateFm with
    | false =>
      rw [hld] at HLD
      rw [pdF_none hlw hld]
      clear hlw hld
      go_enter Tryz.func11, Tryz.ntmps11
      go_wp2_with fail
      refine (HLW _).mono ?_
      rintro e w1 ⟨rfl, hF1⟩
      go_wp2_with fail
      refine (HLD _).mono ?_
      rintro e w2 ⟨rfl, hF2⟩
      go_wp2_with fail
      go_ret2
      exact ⟨rfl, hF1.trans hF2⟩
    | true =>
      rw [hld] at HLD
      obtain ⟨Y, M, D, hsl, y1, y2, y3, y4, y5, y6, hpd⟩ := pdF_date hld
      rw [hpd]
      clear hlw hld hpd
      obtain ⟨hz, l1, l2, l3⟩ := date_slices hsl y1 y2 y3
      have N1 := num_slice l1 y4 (by intro h; rw [h] at y1; cases y1) (by omega)
      have N2 := num_slice l2 y5 (by intro h; rw [h] at y2; cases y2) (by omega)
      have N3 := num_slice l3 y6 (by intro h; rw [h] at y3; cases y3) (by omega)
      clear hsl l1 l2 l3 y1 y2 y3 y4 y5 y6
      generalize numOf Y = y at *
      generalize numOf M = m at *
      generalize numOf D = d at *
      have HDY := rday_any (y : Int) (m : Int) (d : Int)
      unfold rdayV at HDY
      have hz10 : (10 : Int) ≤ (s.size : Int) := by omega
      cases hdf : dateF (y : Int) (m : Int) (d : Int) with
      | false =>
        rw [hdf] at HDY
        simp only [Bool.false_eq_true, if_false] at HDY
        rw [if_neg (by simp)]
        clear hdf
        go_enter Tryz.func11, Tryz.ntmps11
        go_wp2_with fail
        refine (HLW _).mono ?_
        rintro e w1 ⟨rfl, hF1⟩
        go_wp2_with fail
        refine (HLD _).mono ?_
        rintro e w5 ⟨rfl, hF5⟩
        have G5 : Hid (Fr noB w w5) := (hF1).trans hF5
        clear hF5 HLD
        go_wp2_with fail
        go_cut [8, 9] (fun a b wc => a = .int .i64 0 ∧ b = .bool false ∧ Fr noB w5 wc)
        case first =>
          go_region_held3 (fun _ => True) (exact trivial) (first
            | (go_at_call_of 34 (s.extract 0 4); with_reducible refine (N1 _).mono ?_; rintro e wa ⟨rfl, hFa⟩)
            | (go_at_call_of 34 (s.extract 5 7); with_reducible refine (N2 _).mono ?_; rintro e wb ⟨rfl, hFb⟩)
            | (go_at_call_of 34 (s.extract 8 10); with_reducible refine (N3 _).mono ?_; rintro e wx ⟨rfl, hFx⟩)
            | (go_at_call 35; with_reducible refine (HDY _).mono ?_; rintro e wy ⟨rfl, hFy⟩))
          all_goals
            go_wp2_with fail
            go_meet
            refine ⟨rfl, rfl, ?_⟩
            repeat first | assumption | exact (Fr.refl _ _).drew | refine Fr.trans ?_ (by assumption)
        obtain ⟨rfl, rfl, hF6⟩ := hcut
        have G6 : Hid (Fr noB w wc) := G5.out.trans hF6
        clear hF6 N1 N2 N3 HDY
        go_wp2_with fail
        go_ret2
        exact ⟨rfl, G6.out⟩
      | true =>
        have hrg := dayF_range hdf
        rw [hdf] at HDY
        simp only [if_true, Int.toNat_natCast] at HDY
        rw [if_pos rfl]
        clear hdf
        generalize dayF (y : Int) m (d : Int) = n at *
        go_enter Tryz.func11, Tryz.ntmps11
        go_wp2_with fail
        refine (HLW _).mono ?_
        rintro e w1 ⟨rfl, hF1⟩
        go_wp2_with fail
        refine (HLD _).mono ?_
        rintro e w5 ⟨rfl, hF5⟩
        have G5 : Hid (Fr noB w w5) := (hF1).trans hF5
        clear hF5 HLD
        go_wp2_with fail
        go_cut [8, 9] (fun a b wc => a = .int .i64 n ∧ b = .bool true ∧ Fr noB w5 wc)
        case first =>
          go_region_held3 (fun _ => True) (exact trivial) (first
            | (go_at_call_of 34 (s.extract 0 4); with_reducible refine (N1 _).mono ?_; rintro e wa ⟨rfl, hFa⟩)
            | (go_at_call_of 34 (s.extract 5 7); with_reducible refine (N2 _).mono ?_; rintro e wb ⟨rfl, hFb⟩)
            | (go_at_call_of 34 (s.extract 8 10); with_reducible refine (N3 _).mono ?_; rintro e wx ⟨rfl, hFx⟩)
            | (go_at_call 35; with_reducible refine (HDY _).mono ?_; rintro e wy ⟨rfl, hFy⟩))
          all_goals
            go_wp2_with fail
            go_meet
            refine ⟨rfl, rfl, ?_⟩
            repeat first | assumption | exact (Fr.refl _ _).drew | refine Fr.trans ?_ (by assumption)
        obtain ⟨rfl, rfl, hF6⟩ := hcut
        have G6 : Hid (Fr noB w wc) := G5.out.trans hF6
        clear hF6 N1 N2 N3 HDY
        have hsm := run_sum n 0 (by omega) (by omega) (by omega)
        have hqq := run_quo0
        go_wp2_with fail
        go_ret2
        exact ⟨rfl, G6.out⟩
  | true =>
    rw [hlw] at HLW
    clear HLD
    obtain ⟨Y, M, D, hl, ml, cl, hsl, y1, y2, y3, y7, y8, y9, y4, y5, y6, y10, y11, y12, hpd⟩ := pdF_whole hlw
    rw [hpd]
    clear hlw hpd
    obtain ⟨hz, q1, q2, q3, q4⟩ := whole_slices hsl y1 y2 y3 y7 y8 y9
    have M1 := num_slice q1 y10 (by intro h; rw [h] at y7; cases y7) (by omega)
    have M2 := num_slice q2 y11 (by intro h; rw [h] at y8; cases y8) (by omega)
    have M3 := num_slice q3 y12 (by intro h; rw [h] at y9; cases y9) (by omega)
    have a1 := numOf_lt hl y10
    have a2 := numOf_lt ml y11
    have a3 := numOf_lt cl y12
    rw [y7] at a1
    rw [y8] at a2
    rw [y9] at a3
    obtain ⟨S, hS⟩ : ∃ S, s.extract 0 10 = S := ⟨_, rfl⟩
    rw [hS] at q4
    obtain ⟨hzS, l1, l2, l3⟩ := date_slices q4 y1 y2 y3
    have HLD := likeD S
    rw [show likeB S.data.toList dateFm = true by rw [q4]; exact (like_date _).2 ⟨Y, M, D, rfl, y1, y2, y3, y4, y5, y6⟩] at HLD
    have N1 := num_slice l1 y4 (by intro h; rw [h] at y1; cases y1) (by omega)
    have N2 := num_slice l2 y5 (by intro h; rw [h] at y2; cases y2) (by omega)
    have N3 := num_slice l3 y6 (by intro h; rw [h] at y3; cases y3) (by omega)
    clear hsl l1 l2 l3 y1 y2 y3 y4 y5 y6 y7 y8 y9 y10 y11 y12 q1 q2 q3 q4
    generalize numOf Y = y at *
    generalize numOf M = m at *
    generalize numOf D = d at *
    generalize numOf hl = h at *
    generalize numOf ml = mi at *
    generalize numOf cl = se at *
    have a1' : h < 100 := by simpa using a1
    have a2' : mi < 100 := by simpa using a2
    have a3' : se < 100 := by simpa using a3
    clear a1 a2 a3 Y M D hl ml cl
    have hz10 : (19 : Int) ≤ (s.size : Int) := by omega
    have HDY := rday_any (y : Int) (m : Int) (d : Int)
    unfold rdayV at HDY
    by_cases cc : h ≤ 23 ∧ mi ≤ 59 ∧ se ≤ 59
    · cases hdf : dateF (y : Int) (m : Int) (d : Int) with
      | false =>
        rw [hdf] at HDY
        simp only [Bool.false_eq_true, if_false] at HDY
        rw [if_neg (by simp)]
        obtain ⟨x1, x2, x3⟩ := cc
        clear hdf
        go_enter Tryz.func11, Tryz.ntmps11
        go_wp2_with fail
        refine (HLW _).mono ?_
        rintro e w1 ⟨rfl, hF1⟩
        go_wp2_with fail
        go_cut [5, 6, 7] (fun a b c wc => a = .int .i64 (h : Int) ∧ b = .int .i64 (mi : Int) ∧ c = .int .i64 (se : Int) ∧ Fr noB w1 wc)
        case first =>
          go_region_held3 (fun _ => True) (exact trivial) (first
            | (go_at_call_of 34 (s.extract 11 13); with_reducible refine (M1 _).mono ?_; rintro e wa ⟨rfl, hFa⟩)
            | (go_at_call_of 34 (s.extract 14 16); with_reducible refine (M2 _).mono ?_; rintro e wb ⟨rfl, hFb⟩)
            | (go_at_call_of 34 (s.extract 17 19); with_reducible refine (M3 _).mono ?_; rintro e wx ⟨rfl, hFx⟩))
          all_goals
            go_wp2_with fail
            go_meet
            refine ⟨rfl, rfl, rfl, ?_⟩
            repeat first | assumption | exact (Fr.refl _ _).drew | refine Fr.trans ?_ (by assumption)
        obtain ⟨rfl, rfl, rfl, hF4⟩ := hcut
        rename World => w4
        have G4 : Hid (Fr noB w w4) := hF1.trans hF4
        clear hF1 hF4 M1 M2 M3
        go_wp2_with fail
        refine (HLD _).mono ?_
        rintro e w5 ⟨rfl, hF5⟩
        have G5 : Hid (Fr noB w w5) := (G4.out).trans hF5
        clear hF5 HLD
        go_wp2_with fail
        go_cut [8, 9] (fun a b wc => a = .int .i64 0 ∧ b = .bool false ∧ Fr noB w5 wc)
        case first =>
          go_region_held3 (fun _ => True) (exact trivial) (first
            | (go_at_call_of 34 (S.extract 0 4); with_reducible refine (N1 _).mono ?_; rintro e wa ⟨rfl, hFa⟩)
            | (go_at_call_of 34 (S.extract 5 7); with_reducible refine (N2 _).mono ?_; rintro e wb ⟨rfl, hFb⟩)
            | (go_at_call_of 34 (S.extract 8 10); with_reducible refine (N3 _).mono ?_; rintro e wx ⟨rfl, hFx⟩)
            | (go_at_call 35; with_reducible refine (HDY _).mono ?_; rintro e wy ⟨rfl, hFy⟩))
          all_goals
            go_wp2_with fail
            go_meet
            refine ⟨rfl, rfl, ?_⟩
            repeat first | assumption | exact (Fr.refl _ _).drew | refine Fr.trans ?_ (by assumption)
        obtain ⟨rfl, rfl, hF6⟩ := hcut
        have G6 : Hid (Fr noB w wc) := G5.out.trans hF6
        clear hF6 N1 N2 N3 HDY
        go_wp2_with fail
        go_ret2
        exact ⟨rfl, G6.out⟩
      | true =>
        have hrg := dayF_range hdf
        rw [hdf] at HDY
        simp only [if_true, Int.toNat_natCast] at HDY
        rw [if_pos ⟨cc.1, cc.2.1, cc.2.2, rfl⟩]
        obtain ⟨x1, x2, x3⟩ := cc
        clear hdf
        generalize dayF (y : Int) m (d : Int) = n at *
        obtain ⟨TT, hTT⟩ : ∃ TT : Nat, h * 3600 + (mi * 60 + se) = TT := ⟨_, rfl⟩
        have hTI : (h : Int) * 3600 + (mi : Int) * 60 + (se : Int) = (TT : Int) := by omega
        have hTb : TT < 100000 := by omega
        rw [hTT]
        clear hTT
        go_enter Tryz.func11, Tryz.ntmps11
        go_wp2_with fail
        refine (HLW _).mono ?_
        rintro e w1 ⟨rfl, hF1⟩
        go_wp2_with fail
        go_cut [5, 6, 7] (fun a b c wc => a = .int .i64 (h : Int) ∧ b = .int .i64 (mi : Int) ∧ c = .int .i64 (se : Int) ∧ Fr noB w1 wc)
        case first =>
          go_region_held3 (fun _ => True) (exact trivial) (first
            | (go_at_call_of 34 (s.extract 11 13); with_reducible refine (M1 _).mono ?_; rintro e wa ⟨rfl, hFa⟩)
            | (go_at_call_of 34 (s.extract 14 16); with_reducible refine (M2 _).mono ?_; rintro e wb ⟨rfl, hFb⟩)
            | (go_at_call_of 34 (s.extract 17 19); with_reducible refine (M3 _).mono ?_; rintro e wx ⟨rfl, hFx⟩))
          all_goals
            go_wp2_with fail
            go_meet
            refine ⟨rfl, rfl, rfl, ?_⟩
            repeat first | assumption | exact (Fr.refl _ _).drew | refine Fr.trans ?_ (by assumption)
        obtain ⟨rfl, rfl, rfl, hF4⟩ := hcut
        rename World => w4
        have G4 : Hid (Fr noB w w4) := hF1.trans hF4
        clear hF1 hF4 M1 M2 M3
        go_wp2_with fail
        refine (HLD _).mono ?_
        rintro e w5 ⟨rfl, hF5⟩
        have G5 : Hid (Fr noB w w5) := (G4.out).trans hF5
        clear hF5 HLD
        go_wp2_with fail
        go_cut [8, 9] (fun a b wc => a = .int .i64 n ∧ b = .bool true ∧ Fr noB w5 wc)
        case first =>
          go_region_held3 (fun _ => True) (exact trivial) (first
            | (go_at_call_of 34 (S.extract 0 4); with_reducible refine (N1 _).mono ?_; rintro e wa ⟨rfl, hFa⟩)
            | (go_at_call_of 34 (S.extract 5 7); with_reducible refine (N2 _).mono ?_; rintro e wb ⟨rfl, hFb⟩)
            | (go_at_call_of 34 (S.extract 8 10); with_reducible refine (N3 _).mono ?_; rintro e wx ⟨rfl, hFx⟩)
            | (go_at_call 35; with_reducible refine (HDY _).mono ?_; rintro e wy ⟨rfl, hFy⟩))
          all_goals
            go_wp2_with fail
            go_meet
            refine ⟨rfl, rfl, ?_⟩
            repeat first | assumption | exact (Fr.refl _ _).drew | refine Fr.trans ?_ (by assumption)
        obtain ⟨rfl, rfl, hF6⟩ := hcut
        have G6 : Hid (Fr noB w wc) := G5.out.trans hF6
        clear hF6 N1 N2 N3 HDY
        have hsm := run_sum n TT (by omega) (by omega) (by omega)
        have hqq := run_quo TT (by omega)
        go_wp2_with fail
        go_ret2
        exact ⟨rfl, G6.out⟩
    · rw [if_neg (fun h => cc ⟨h.1, h.2.1, h.2.2.1⟩)]
      clear HDY N1 N2 N3 HLD hS hzS
      have c3 : 23 < h ∨ (h ≤ 23 ∧ 59 < mi) ∨ (h ≤ 23 ∧ mi ≤ 59 ∧ 59 < se) := by omega
      clear cc
      rcases c3 with x1 | ⟨x1, x2⟩ | ⟨x1, x2, x3⟩
      all_goals
        go_enter Tryz.func11, Tryz.ntmps11
        go_wp2_with fail
        refine (HLW _).mono ?_
        rintro e w1 ⟨rfl, hF1⟩
        go_wp2_with fail
        go_cut [5, 6, 7] (fun a b c wc => a = .int .i64 (h : Int) ∧ b = .int .i64 (mi : Int) ∧ c = .int .i64 (se : Int) ∧ Fr noB w1 wc)
        case first =>
          go_region_held3 (fun _ => True) (exact trivial) (first
            | (go_at_call_of 34 (s.extract 11 13); with_reducible refine (M1 _).mono ?_; rintro e wa ⟨rfl, hFa⟩)
            | (go_at_call_of 34 (s.extract 14 16); with_reducible refine (M2 _).mono ?_; rintro e wb ⟨rfl, hFb⟩)
            | (go_at_call_of 34 (s.extract 17 19); with_reducible refine (M3 _).mono ?_; rintro e wx ⟨rfl, hFx⟩))
          all_goals
            go_wp2_with fail
            go_meet
            refine ⟨rfl, rfl, rfl, ?_⟩
            repeat first | assumption | exact (Fr.refl _ _).drew | refine Fr.trans ?_ (by assumption)
        obtain ⟨rfl, rfl, rfl, hF4⟩ := hcut
        rename World => w4
        have G4 : Hid (Fr noB w w4) := hF1.trans hF4
        clear hF1 hF4 M1 M2 M3
        go_wp2_with fail
        go_ret2
        exact ⟨rfl, G4.out⟩
#print axioms rparseDate_any
end Go.Proofs.YtfoclhpnlemmnaaGreatDoor
