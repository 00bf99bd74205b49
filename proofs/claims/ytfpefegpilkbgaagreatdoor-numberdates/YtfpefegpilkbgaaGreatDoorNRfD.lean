/- The document's calendar: leap, month, ahead, Day, FromDate, date: contracts. -/
import Derived.Test.YtfpefegpilkbgaaGreatDoorNDat
import Derived.Laws.Rows
namespace Go.Proofs.YtfpefegpilkbgaaGreatDoor
open Go.RowKit

set_option maxRecDepth 100000 in
theorem rleap_any (y : Int) (h0 : 0 ≤ y) (h1 : y ≤ 100000) (w : World) : Calls Tryz.prog 43 #[.int .i64 y] w fun e w' => e = .returned (.bool (leapF y)) ∧ w' = w := by
  have HP : Hid (leapF y = (y % 4 == 0 && (y % 100 != 0 || y % 400 == 0))) := show _ = _ by
    unfold leapF
    rw [Bool.eq_iff_iff]
    simp
    omega
  go_enter Tryz.func43, Tryz.ntmps43
  go_wp2_with fail
  all_goals
    go_ret
    exact ⟨ret_bool (by rw [HP.out]; simp_all), rfl⟩

/-- The document's table. -/
theorem rdays_at (i : Nat) (h : i < 12) : [Value.int .i64 31, .int .i64 28, .int .i64 31, .int .i64 30, .int .i64 31, .int .i64 30, .int .i64 31, .int .i64 31, .int .i64 30, .int .i64 31, .int .i64 30, .int .i64 31][i]? = some (.int .i64 (mdays.getD i 0)) := by
  have hi' : i = 0 ∨ i = 1 ∨ i = 2 ∨ i = 3 ∨ i = 4 ∨ i = 5 ∨ i = 6 ∨ i = 7 ∨ i = 8 ∨ i = 9 ∨ i = 10 ∨ i = 11 := by omega
  rcases hi' with rfl | rfl | rfl | rfl | rfl | rfl | rfl | rfl | rfl | rfl | rfl | rfl <;> rfl

set_option maxRecDepth 100000 in
set_option maxHeartbeats 1000000 in
theorem rmonth_any (y : Int) (m : Nat) (h0 : 0 ≤ y) (h1 : y ≤ 100000) (hm : 1 ≤ m) (hm2 : m ≤ 12) (w : World) : Calls Tryz.prog 32 #[.int .i64 y, .int .i64 (m : Int)] w fun e w' => e = .returned (.int .i64 (domF y m)) ∧ Fr noB w w' := by
  obtain ⟨i, rfl⟩ : ∃ i, m = i + 1 := ⟨m - 1, by omega⟩
  have HL := rleap_any y h0 h1
  have hc := rdays_at i (by omega)
  have HF : Hid (∀ o, Fr noB w (w.alloc o)) := fun o => (Fr.refl noB w).alloc o
  unfold domF
  rw [show i + 1 - 1 = i by omega]
  generalize mdays.getD i 0 = v at *
  generalize leapF y = b at *
  by_cases h2 : i = 1
  · subst h2
    obtain rfl : v = 28 := by simpa using hc.symm
    clear hc
    cases b with
    | true =>
      go_enter Tryz.func32, Tryz.ntmps32
      go_wp2_with (go_at_call 43; refine (HL _).mono ?_; rintro e w1 ⟨rfl, rfl⟩)
      go_ret
      exact ⟨rfl, HF.out _⟩
    | false =>
      go_enter Tryz.func32, Tryz.ntmps32
      go_wp2_with (go_at_call 43; refine (HL _).mono ?_; rintro e w1 ⟨rfl, rfl⟩)
      go_ret
      exact ⟨rfl, HF.out _⟩
  · rw [if_neg (by omega)]
    have h3 : ¬ (i : Int) + 1 = 2 := by omega
    go_enter Tryz.func32, Tryz.ntmps32
    go_wp2_with (go_at_call 43; refine (HL _).mono ?_; rintro e w1 ⟨rfl, rfl⟩)
    go_ret
    exact ⟨rfl, HF.out _⟩

set_option maxRecDepth 100000 in
set_option maxHeartbeats 1000000 in
theorem rahead_any (y : Int) (h0 : 1 ≤ y) (h1 : y ≤ 100000) (w : World) : Calls Tryz.prog 33 #[.int .i64 y] w fun e w' => e = .returned (.int .i64 (aheadF y - 693593)) ∧ w' = w := by
  obtain ⟨n, rfl⟩ : ∃ n : Nat, y = (n : Int) + 1 := ⟨(y - 1).toNat, by omega⟩
  unfold aheadF
  rw [show (n : Int) + 1 - 1 = n by omega]
  go_enter Tryz.func33, Tryz.ntmps33
  go_wp2_with fail
  go_ret
  exact ⟨ret_int (by go_num), rfl⟩

/-- The document's Day. -/
def rdayV (y m d : Int) : Value := if dateF y m d then .tuple #[.int .i64 (dayF y m.toNat d), .bool true] else .tuple #[.int .i64 0, .bool false]
set_option maxRecDepth 100000 in
set_option maxHeartbeats 2000000 in
theorem rday_any (y m d : Int) (w : World) : Calls Tryz.prog 19 #[.int .i64 y, .int .i64 m, .int .i64 d] w fun e w' => e = .returned (rdayV y m d) ∧ Fr noB w w' := by
  have F0 : Hid (Fr noB w w) := Fr.refl noB w
  unfold rdayV
  by_cases hg : 1 ≤ y ∧ y ≤ 9999 ∧ 1 ≤ m ∧ m ≤ 12 ∧ 1 ≤ d
  · obtain ⟨y1, y2, m1, m2, d1⟩ := hg
    obtain ⟨k, rfl⟩ : ∃ k : Nat, m = (k : Int) + 1 := ⟨(m - 1).toNat, by omega⟩
    have HM : Hid (∀ (i : Nat) w1, 1 ≤ i → i ≤ 12 → Calls Tryz.prog 32 #[.int .i64 y, .int .i64 (i : Int)] w1 fun e w' => e = .returned (.int .i64 (domF y i)) ∧ Fr noB w1 w') := fun i w1 a b => rmonth_any y i (by omega) (by omega) a b w1
    have hb := domF_bounds y (k + 1)
    have HM1 := HM.out (k + 1) w (by omega) (by omega)
    rw [show ((k + 1 : Nat) : Int) = (k : Int) + 1 by omega] at HM1
    have hk1 : ((k : Int) + 1).toNat = k + 1 := by omega
    rw [hk1]
    by_cases hd : d ≤ domF y (k + 1)
    · have hf : dateF y ((k : Int) + 1) d = true := by unfold dateF; rw [hk1]; simp; omega
      rw [hf]
      have HV : Hid (dayF y (k + 1) d = -693593 + aheadF y + d - 1 + upF y k) := by
        show _ = _
        unfold dayF
        rw [show k + 1 - 1 = k by omega]
        omega
      have HA := rahead_any y y1 (by omega)
      have ha : 0 ≤ aheadF y ∧ aheadF y ≤ 4000000 := by unfold aheadF; omega
      have hd3 : d ≤ 31 := by omega
      obtain ⟨A, hA⟩ : ∃ A, aheadF y - 693593 = A := ⟨_, rfl⟩
      rw [hA] at HA
      have HAE : Hid (aheadF y - 693593 = A) := hA
      have ha2 : -693593 ≤ A ∧ A ≤ 4000000 := by omega
      generalize domF y (k + 1) = M at *
      clear hf hA ha hk1
      go_enter Tryz.func19, Tryz.ntmps19
      go_wp2_with (first | (go_at_call 32; refine HM1.mono ?_; rintro e w1 ⟨rfl, hF1⟩) | (go_at_call 33; refine (HA _).mono ?_; rintro e w2 ⟨rfl, rfl⟩))
      have HF1 : Hid _ := hF1
      clear hF1 HM1
      go_loopg [8, 9] 12 (fun gh nv iv wr => ∃ i : Nat, i ≤ k ∧ gh = 12 - i ∧ iv = .int .i64 ((i : Int) + 1) ∧ nv = .int .i64 (A + upF y i) ∧ Fr noB w wr)
      case atStart => exact ⟨0, Nat.zero_le _, rfl, rfl, by simp [upF], HF1.out⟩
      case round =>
        obtain ⟨i, hi, hgh, rfl, rfl, hFr⟩ := hrel
        have hub := upF_bounds y i
        have HFR : Hid _ := hFr
        clear hFr
        by_cases hlt : i < k
        · have H1 := HM.out (i + 1) wr (by omega) (by omega)
          have hb := domF_bounds y (i + 1)
          have HU : Hid (upF y (i + 1) = upF y i + domF y (i + 1)) := rfl
          generalize domF y (i + 1) = v at *
          generalize upF y i = u at *
          have c1 : (i : Int) + 1 < (k : Int) + 1 := by omega
          rw [show ((i + 1 : Nat) : Int) = (i : Int) + 1 by omega] at H1
          go_wp2_with (go_at_call 32; refine H1.mono ?_; rintro e w2 ⟨rfl, hF2⟩)
          go_roundg (12 - (i + 1))
          case measure => omega
          case rel => exact ⟨i + 1, by omega, rfl, by go_num, by rw [HU.out]; go_num, HFR.out.trans hF2⟩
        · obtain rfl : i = k := by omega
          have HUD : Hid (A + upF y i + d - 1 = dayF y (i + 1) d) := show _ = _ by rw [HV.out, ← HAE.out]; omega
          generalize upF y i = u at *
          go_wp2_with fail
          go_ret2
          rw [← HUD.out]
          exact ⟨rfl, HFR.out⟩
    · have hf : dateF y ((k : Int) + 1) d = false := by unfold dateF; rw [hk1]; simp; omega
      rw [hf]
      generalize domF y (k + 1) = M at *
      clear hf hk1
      go_enter Tryz.func19, Tryz.ntmps19
      go_wp2_with (first | (go_at_call 32; refine HM1.mono ?_; rintro e w1 ⟨rfl, hF1⟩))
      go_ret2
      exact ⟨rfl, hF1⟩
  · have hf : dateF y m d = false := by unfold dateF; simp; omega
    rw [hf]
    clear hf
    by_cases a1 : y < 1
    · go_enter Tryz.func19, Tryz.ntmps19
      go_wp2_with fail
      go_ret2
      exact ⟨rfl, F0.out⟩
    · by_cases a2 : 9999 < y
      · go_enter Tryz.func19, Tryz.ntmps19
        go_wp2_with fail
        go_ret2
        exact ⟨rfl, F0.out⟩
      · by_cases a3 : m < 1
        · go_enter Tryz.func19, Tryz.ntmps19
          go_wp2_with fail
          go_ret2
          exact ⟨rfl, F0.out⟩
        · by_cases a4 : 12 < m
          · go_enter Tryz.func19, Tryz.ntmps19
            go_wp2_with fail
            go_ret2
            exact ⟨rfl, F0.out⟩
          · have a5 : d < 1 := by omega
            go_enter Tryz.func19, Tryz.ntmps19
            go_wp2_with fail
            go_ret2
            exact ⟨rfl, F0.out⟩

set_option maxRecDepth 100000 in
set_option maxHeartbeats 1000000 in
theorem rfromDate_any (y m d : Int) (w : World) : Calls Tryz.prog 7 #[.int .i64 y, .int .i64 m, .int .i64 d] w fun e w' => e = .returned (if dateF y m d then .tuple #[.float .f64 (FloatKind.f64.nearest (dayF y m.toNat d)), .int .i64 0] else .tuple #[.float .f64 0, .int .i64 81]) ∧ Fr noB w w' := by
  have HD := rday_any y m d w
  unfold rdayV at HD
  generalize dayF y m.toNat d = n at *
  cases hf : dateF y m d with
  | false =>
    rw [hf] at HD
    go_enter Tryz.func7, Tryz.ntmps7
    go_wp2_with (go_at_call 19; refine HD.mono ?_; rintro e w1 ⟨rfl, hF⟩)
    go_ret2
    exact ⟨rfl, hF⟩
  | true =>
    rw [hf] at HD
    go_enter Tryz.func7, Tryz.ntmps7
    go_wp2_with (go_at_call 19; refine HD.mono ?_; rintro e w1 ⟨rfl, hF⟩)
    go_ret2
    exact ⟨rfl, hF⟩

set_option maxRecDepth 100000 in
set_option maxHeartbeats 2000000 in
theorem rdate_any (n : Int) (h1 : -693593 ≤ n) (h2 : n ≤ 2958465) (w : World) : Calls Tryz.prog 26 #[.int .i64 n] w fun e w' => (∃ (y : Int) (m : Nat) (d : Int), e = .returned (.tuple #[.int .i64 y, .int .i64 (m : Int), .int .i64 d]) ∧ IsDay n y m d) ∧ Fr noB w w' := by
  have F0 : Hid (Fr noB w w) := Fr.refl noB w
  have HA : Hid (∀ (y : Nat) w1, 1 ≤ y → y ≤ 9999 → Calls Tryz.prog 33 #[.int .i64 (y : Int)] w1 fun e w' => e = .returned (.int .i64 (aheadF (y : Int) - 693593)) ∧ w' = w1) := fun y w1 a b => rahead_any (y : Int) (by omega) (by omega) w1
  have HM : Hid (∀ (y i : Nat) w1, y ≤ 9999 → 1 ≤ i → i ≤ 12 → Calls Tryz.prog 32 #[.int .i64 (y : Int), .int .i64 (i : Int)] w1 fun e w' => e = .returned (.int .i64 (domF (y : Int) i)) ∧ Fr noB w1 w') := fun y i w1 a b c => rmonth_any (y : Int) i (by omega) (by omega) b c w1
  go_enter Tryz.func26, Tryz.ntmps26
  go_wp2_with fail
  go_loopg [5, 6] 14 (fun gh yv sv wr => ∃ y s : Nat, 1 ≤ y ∧ y ≤ 9999 ∧ yv = .int .i64 (y : Int) ∧ sv = .int .i64 (s : Int) ∧ Hid (s = 2 ^ gh / 2 ∧ gh ≤ 14) ∧ Hid ((y = 1 ∨ aheadF (y : Int) ≤ n + 693593) ∧ (9999 < y + 2 ^ gh ∨ n + 693593 < aheadF ((y + 2 ^ gh : Nat) : Int))) ∧ wr = w)
  case atStart => exact ⟨1, 8192, by omega, by omega, rfl, rfl, ⟨by decide, by omega⟩, ⟨Or.inl rfl, Or.inl (by decide)⟩, rfl⟩
  case round =>
    obtain ⟨y, s, hy1, hy2, rfl, rfl, HS, HP, rfl⟩ := hrel
    rcases Nat.eq_zero_or_pos gk with hg | hg
    · subst hg
      obtain rfl : s = 0 := HS.out.1
      obtain ⟨A, hA⟩ : ∃ A, aheadF (y : Int) = A := ⟨_, rfl⟩
      have HA1 := HA.out y wr hy1 hy2
      rw [hA] at HA1
      have hA1 : A ≤ n + 693593 := by
        rcases HP.out.1 with h | h
        · subst h; rw [← hA]; simp [aheadF]; omega
        · rw [← hA]; exact h
      have hA0 : 0 ≤ A := by rw [← hA]; unfold aheadF; omega
      have hA2 : n + 693593 < A + upF (y : Int) 12 := by
        rw [← hA, ← aheadF_next]
        rcases HP.out.2 with h | h
        · obtain rfl : y = 9999 := by omega
          rw [show ((9999 : Nat) : Int) + 1 = 10000 by omega]; simp [aheadF]; omega
        · rw [show (y : Int) + 1 = ((y + 2 ^ 0 : Nat) : Int) by omega]; exact h
      obtain ⟨r0, hr0⟩ : ∃ r0, n + 693593 - A = r0 := ⟨_, rfl⟩
      have hb0 : 0 ≤ r0 ∧ r0 < upF (y : Int) 12 := by omega
      have hb9 : r0 ≤ 400 := by have := upF_bounds (y : Int) 12; omega
      have HYA : Hid (aheadF (y : Int) = A ∧ n + 693593 - A = r0 ∧ r0 < upF (y : Int) 12) := ⟨hA, hr0, hb0.2⟩
      obtain ⟨B, hB⟩ : ∃ B, A - 693593 = B := ⟨_, rfl⟩
      rw [hB] at HA1
      have hn : n = B + r0 := by omega
      have HN : Hid _ := hn
      have hBb : -693593 ≤ B ∧ B ≤ 2958465 := by omega
      subst hn
      clear hA HP HS hA1 hA2 hr0 hB hA0
      have hb1 := hb0.1
      clear hb0
      go_wp2_with (go_at_call 33; refine HA1.mono ?_; rintro e w2 ⟨rfl, rfl⟩)
      rw [show B + r0 - B = r0 by omega]
      go_loopg [0, 7] 12 (fun gh nv mv wr => ∃ (k : Nat) (r : Int), k < 12 ∧ gh = 12 - k ∧ mv = .int .i64 ((k : Int) + 1) ∧ nv = .int .i64 r ∧ 0 ≤ r ∧ r ≤ 400 ∧ Hid (r + upF (y : Int) k = r0) ∧ Fr noB w2 wr)
      case atStart => exact ⟨0, r0, by omega, by omega, rfl, rfl, hb1, hb9, by show _ = _; simp [upF], F0.out⟩
      case round =>
        obtain ⟨k, r, hk, hg, rfl, rfl, hr, hr9, HSUM, hF⟩ := hrel
        have HFR : Hid _ := hF
        clear hF
        have HM1 : ∀ w1, Calls Tryz.prog 32 #[.int .i64 (y : Int), .int .i64 ((k : Int) + 1)] w1 fun e w' => e = .returned (.int .i64 (domF (y : Int) (k + 1))) ∧ Fr noB w1 w' := fun w1 => by
          have := HM.out y (k + 1) w1 hy2 (by omega) (by omega)
          rwa [show ((k + 1 : Nat) : Int) = (k : Int) + 1 by omega] at this
        obtain ⟨v, hv⟩ : ∃ v, domF (y : Int) (k + 1) = v := ⟨_, rfl⟩
        rw [hv] at HM1
        have HV : Hid _ := hv
        have hvb := domF_bounds (y : Int) (k + 1)
        rw [hv] at hvb
        clear hv
        by_cases hvr : v ≤ r
        · have hk11 : k + 1 < 12 := by
            rcases Nat.lt_or_ge (k + 1) 12 with h | h
            · exact h
            · obtain rfl : k = 11 := by omega
              have h3 := HYA.out.2.2
              have h4 := HSUM.out
              rw [upS, HV.out] at h3
              omega
          go_wp2_with fail
          refine (HM1 _).mono ?_
          rintro e w4 ⟨rfl, hF4⟩
          have HF4 : Hid _ := HFR.out.trans hF4
          clear hF4
          go_wp2_with (go_at_call 32; refine (HM1 _).mono ?_; rintro e w5 ⟨rfl, hF5⟩)
          go_roundg (12 - (k + 1))
          case measure => omega
          case rel =>
            refine ⟨k + 1, r - v, hk11, rfl, by go_num, rfl, by omega, by omega, ?_, ?_⟩
            · show _ = _
              rw [upS, HV.out]
              have := HSUM.out
              omega
            · exact HF4.out.trans hF5
        · go_wp2_with (go_at_call 32; refine (HM1 _).mono ?_; rintro e w4 ⟨rfl, hF4⟩)
          go_ret3
          refine ⟨⟨(y : Int), k + 1, r + 1, by simp, ⟨by omega, by omega, by omega, by omega, by omega, ?_, ?_⟩⟩, HFR.out.trans hF4⟩
          · rw [HV.out]; omega
          · unfold dayF
            rw [show k + 1 - 1 = k by omega, HYA.out.1]
            have h3 := HSUM.out
            have h4 := HYA.out.2.1
            omega
    · obtain ⟨g, rfl⟩ : ∃ g, gk = g + 1 := ⟨gk - 1, by omega⟩
      have hs : s = 2 ^ g := by have := HS.out.1; rw [Nat.pow_succ] at this; omega
      have hg14 : g ≤ 13 := by have := HS.out.2; omega
      have hs0 : 1 ≤ s := by rw [hs]; exact Nat.two_pow_pos g
      have hs1 : s ≤ 8192 := by rw [hs]; have := Nat.pow_le_pow_right (show 1 ≤ 2 by omega) hg14; simpa using this
      have HSG : Hid (s = 2 ^ g) := hs
      clear hs HS
      have HP1 : Hid ((y = 1 ∨ aheadF (y : Int) ≤ n + 693593) ∧ (9999 < y + s + s ∨ n + 693593 < aheadF ((y + s + s : Nat) : Int))) := by
        have := HP.out
        rw [Nat.pow_succ, ← HSG.out, show y + s * 2 = y + s + s by omega] at this
        exact this
      have HS2 : Hid (s / 2 = 2 ^ g / 2) := show _ = _ by rw [HSG.out]
      by_cases c1 : y + s ≤ 9999
      · have HA1 := HA.out (y + s) wr (by omega) c1
        rw [show ((y + s : Nat) : Int) = (y : Int) + (s : Int) by omega] at HA1
        obtain ⟨A, hA⟩ : ∃ A, aheadF ((y : Int) + (s : Int)) = A := ⟨_, rfl⟩
        rw [hA] at HA1
        have HAE : Hid _ := hA
        have hAb : 0 ≤ A ∧ A ≤ 4000000 := by rw [← hA]; unfold aheadF; omega
        clear hA
        obtain ⟨B, hB⟩ : ∃ B, A - 693593 = B := ⟨_, rfl⟩
        rw [hB] at HA1
        by_cases c2 : B ≤ n
        · go_wp2_with (go_at_call 33; refine HA1.mono ?_; rintro e w2 ⟨rfl, rfl⟩)
          go_roundg g
          case measure => omega
          case rel =>
            refine ⟨y + s, s / 2, by omega, by omega, by go_num, by go_num, ⟨HS2.out, by omega⟩, ⟨Or.inr ?_, ?_⟩, rfl⟩
            · rw [show ((y + s : Nat) : Int) = (y : Int) + (s : Int) by omega, HAE.out]; omega
            · rw [← HSG.out]; exact HP1.out.2
        · go_wp2_with (go_at_call 33; refine HA1.mono ?_; rintro e w2 ⟨rfl, rfl⟩)
          go_roundg g
          case measure => omega
          case rel =>
            refine ⟨y, s / 2, by omega, by omega, by go_num, by go_num, ⟨HS2.out, by omega⟩, ⟨HP1.out.1, Or.inr ?_⟩, rfl⟩
            rw [← HSG.out, show ((y + s : Nat) : Int) = (y : Int) + (s : Int) by omega, HAE.out]; omega
      · go_wp2_with fail
        go_roundg g
        case measure => omega
        case rel =>
          refine ⟨y, s / 2, by omega, by omega, by go_num, by go_num, ⟨HS2.out, by omega⟩, ⟨HP1.out.1, Or.inl ?_⟩, rfl⟩
          rw [← HSG.out]; omega
#print axioms rdate_any
#print axioms rfromDate_any
end Go.Proofs.YtfpefegpilkbgaaGreatDoor
