/- ParseDate: the program's contract. -/
import Derived.Test.YtfoclhpnlemmnaaGreatDoorTPar
namespace Go.Proofs.YtfoclhpnlemmnaaGreatDoor
open Go.RowKit Ieee

/-- A day and seconds as a number. -/
def sumF (n : Int) (t : Nat) : Nat := (floatBits .add .f64 (FloatKind.f64.nearest n) (dayQ t)).getD 0
theorem sumF_spec (n : Int) (t : Nat) (h1 : -9007199254740992 ≤ n) (h2 : n ≤ 9007199254740992) (ht : t < 144115188075855872) : floatBits .add .f64 (FloatKind.f64.nearest n) (dayQ t) = some (sumF n t) := by
  obtain ⟨r, hr, _⟩ := add_fin (Or.inl (ofInt_V n h1 h2).1) (dayQ_spec t ht).2.1
  unfold sumF
  rw [hr]
  rfl
theorem sumF_zero (n : Int) (h1 : -9007199254740992 ≤ n) (h2 : n ≤ 9007199254740992) : sumF n 0 = FloatKind.f64.nearest n := by
  unfold sumF
  rw [dayQ_0, add_nought n h1 h2]
  rfl
theorem dayF_range {y m d : Nat} (h : dateF (y : Int) (m : Int) (d : Int) = true) : -10000000 ≤ dayF (y : Int) m (d : Int) ∧ dayF (y : Int) m (d : Int) ≤ 10000000 := by
  unfold dateF at h
  have h' := of_decide_eq_true h
  obtain ⟨h1, h2, h3, h4, h5, h6⟩ := h'
  have hu := upF_bounds (y : Int) (m - 1)
  have hb := (domF_bounds (y : Int) (m : Int).toNat).2
  unfold dayF aheadF
  omega
def pdV (o : Option (Int × Nat)) : Value := match o with
  | none => .tuple #[.float .f64 0, .int .i64 81]
  | some (n, t) => .tuple #[.float .f64 (sumF n t), .int .i64 0]
theorem dayOk_none {A : List UInt8} (h : likeB A dateFm = false) : dayOk A = none := by
  unfold dayOk
  rw [nums_none h]
theorem clkOk_none {A : List UInt8} (h : likeB A clockFm = false) : clkOk A = none := by
  unfold clkOk
  rw [nums_none h]
/-- What the text says, by its parts. -/
theorem pdF_parts {s a b : List UInt8} {f : Bool} (hm : (84 : UInt8) ∉ a) (h : (f = true ∧ s = a ++ 84 :: b) ∨ (f = false ∧ s = a)) : pdF s = if f = true then (match dayOk a, clkOk b with
    | some d, some t => some (d, t)
    | _, _ => none) else (dayOk a).map fun d => (d, 0) := by
  rcases h with ⟨rfl, rfl⟩ | ⟨rfl, rfl⟩
  · rw [if_pos rfl]; exact pdF_hit hm
  · rw [if_neg (by simp)]; exact pdF_miss hm
theorem dayOk_like {A : List UInt8} (h : likeB A dateFm = true) : ∃ y m d : Nat, numsL [] 0 A dateFm = some [y, m, d] ∧ y < 10000 ∧ m < 100 ∧ d < 100 ∧ dayOk A = if dateF (y : Int) (m : Int) (d : Int) then some (dayF (y : Int) m (d : Int)) else none := by
  obtain ⟨Y, M, D, rfl, y1, y2, y3, y4, y5, y6⟩ := (like_date A).1 h
  have hn := nums_date y1 y2 y3 y4 y5 y6
  have b1 := numOf_lt Y y4
  have b2 := numOf_lt M y5
  have b3 := numOf_lt D y6
  rw [y1] at b1
  rw [y2] at b2
  rw [y3] at b3
  refine ⟨_, _, _, hn, b1, b2, b3, ?_⟩
  unfold dayOk
  rw [hn]
theorem clkOk_like {A : List UInt8} (h : likeB A clockFm = true) : ∃ y m d : Nat, numsL [] 0 A clockFm = some [y, m, d] ∧ y < 100 ∧ m < 100 ∧ d < 100 ∧ clkOk A = if y ≤ 23 ∧ m ≤ 59 ∧ d ≤ 59 then some (y * 3600 + (m * 60 + d)) else none := by
  obtain ⟨Y, M, D, rfl, y1, y2, y3, y4, y5, y6⟩ := (like_clock A).1 h
  have hn := nums_clock y1 y2 y3 y4 y5 y6
  have b1 := numOf_lt Y y4
  have b2 := numOf_lt M y5
  have b3 := numOf_lt D y6
  rw [y1] at b1
  rw [y2] at b2
  rw [y3] at b3
  refine ⟨_, _, _, hn, b1, b2, b3, ?_⟩
  unfold clkOk
  rw [hn]
def dateB : ByteArray := ⟨#[48, 48, 48, 48, 45, 48, 48, 45, 48, 48]⟩
def clockB : ByteArray := ⟨#[48, 48, 58, 48, 48, 58, 48, 48]⟩
def minB : ByteArray := ⟨#[48, 48, 77, 48, 48, 83]⟩
theorem numsD (s : ByteArray) (w : World) : Calls Tryz.prog 30 #[.string s, .string ⟨#[48, 48, 48, 48, 45, 48, 48, 45, 48, 48]⟩] w fun e w' => (match numsL [] 0 s.data.toList dateFm with
      | none => e = .returned (.tuple #[.slice none 0 0, .bool false])
      | some L => ∃ v, e = .returned (.tuple #[v, .bool true]) ∧ NumsAt w' v L) ∧ Fr noB w w' :=
  numbersOf_any s dateB w (by decide) (by decide)
theorem numsC (s : ByteArray) (w : World) : Calls Tryz.prog 30 #[.string s, .string ⟨#[48, 48, 58, 48, 48, 58, 48, 48]⟩] w fun e w' => (match numsL [] 0 s.data.toList clockFm with
      | none => e = .returned (.tuple #[.slice none 0 0, .bool false])
      | some L => ∃ v, e = .returned (.tuple #[v, .bool true]) ∧ NumsAt w' v L) ∧ Fr noB w w' :=
  numbersOf_any s clockB w (by decide) (by decide)
theorem numsM (s : ByteArray) (w : World) : Calls Tryz.prog 30 #[.string s, .string ⟨#[48, 48, 77, 48, 48, 83]⟩] w fun e w' => (match numsL [] 0 s.data.toList minFm with
      | none => e = .returned (.tuple #[.slice none 0 0, .bool false])
      | some L => ∃ v, e = .returned (.tuple #[v, .bool true]) ∧ NumsAt w' v L) ∧ Fr noB w w' :=
  numbersOf_any s minB w (by decide) (by decide)
theorem nums3 {w : World} {v : Value} {a b c : Nat} (h : NumsAt w v [a, b, c]) : ∃ g cap, v = .slice (some ⟨g, 0, none⟩) 3 cap ∧ 3 ≤ cap ∧ cap ≤ maxLen ∧ w.cell? ⟨g, 0, none⟩ = some (.int .i64 (a : Int)) ∧ w.cell? ⟨g, 1, none⟩ = some (.int .i64 (b : Int)) ∧ w.cell? ⟨g, 2, none⟩ = some (.int .i64 (c : Int)) := by
  obtain ⟨g, cap, rfl, h1, h2, h3⟩ := h
  exact ⟨g, cap, rfl, h1, h2, h3 0 (by simp), h3 1 (by simp), h3 2 (by simp)⟩
set_option maxRecDepth 100000 in
set_option maxHeartbeats 2000000 in
theorem parseDate_any (s : ByteArray) (hs : s.size ≤ 140737488355328) (w : World) (hT : MTab w) : Calls Tryz.prog 10 #[.string s] w fun e w' => e = .returned (pdV (pdF s.data.toList)) ∧ Fr noB w w' := by
  have HC := cut_any s 84 w hs
  obtain ⟨ANS, hANS⟩ : ∃ A, pdF s.data.toList = A := ⟨_, rfl⟩
  have HANS : Hid (pdF s.data.toList = ANS) := hANS
  rw [hANS]
  clear hANS
  go_enter Tryz.func10, Tryz.ntmps10
  go_wp2_with fail
  refine HC.mono ?_
  rintro e w1 ⟨⟨a, b, f, rfl, hm, hab⟩, hF1⟩
  have HP := pdF_parts hm (s := s.data.toList) (b := b.data.toList) (by
    rcases hab with ⟨h1, h2⟩ | ⟨h1, h2, _⟩
    · exact Or.inl ⟨h1, h2⟩
    · exact Or.inr ⟨h1, by rw [h2]⟩)
  have hbs : b.size ≤ s.size := by
    rcases hab with ⟨_, h2⟩ | ⟨_, _, h3⟩
    · have := congrArg List.length h2
      simp at this
      omega
    · rw [h3]; exact Nat.zero_le _
  clear hab hm
  rw [HANS.out] at HP
  clear HANS
  have HND := numsD a
  cases hl : likeB a.data.toList dateFm with
  | false =>
    rw [dayOk_none hl] at HP
    rw [nums_none hl] at HND
    have HP2 : Hid (ANS = none) := by
      rw [HP]
      cases f <;> rfl
    clear HP hl
    go_wp2_with fail
    refine (HND _).mono ?_
    rintro e w2 ⟨rfl, hF2⟩
    go_wp2_with fail
    go_ret2
    rw [HP2.out]
    exact ⟨rfl, hF1.trans hF2⟩
  | true =>
    obtain ⟨y, m, d, hn, b1, b2, b3, hd⟩ := dayOk_like hl
    rw [hn] at HND
    rw [hd] at HP
    clear hl hn hd
    have HPP : Hid _ := HP
    clear HP
    go_wp2_with fail
    refine (HND _).mono ?_
    rintro e w2 ⟨⟨v, rfl, hv⟩, hF2⟩
    obtain ⟨g, cap, rfl, k1, k2, c0, c1, c2⟩ := nums3 hv
    have G2 : Hid (Fr noB w w2) := hF1.trans hF2
    clear hv HND hF1 hF2
    have HFD : ∀ k, Calls Tryz.prog 31 #[.int .i64 (y : Int), .int .i64 (m : Int), .int .i64 (d : Int)] (w2.drewN k) fun e w' => e = .returned (if dateF (y : Int) (m : Int) (d : Int) then .tuple #[.float .f64 (FloatKind.f64.nearest (dayF (y : Int) m (d : Int))), .int .i64 0] else .tuple #[.float .f64 0, .int .i64 81]) ∧ w' = w2.drewN k := fun k => fromDate_any (y : Int) (m : Int) (d : Int) _ (hT.fr (G2.out.drewN k))
    cases hdf : dateF (y : Int) (m : Int) (d : Int) with
    | false =>
      rw [hdf] at HFD HPP
      simp only [Bool.false_eq_true, if_false] at HFD
      have HP2 : Hid (ANS = none) := by
        show _ = _
        rw [HPP.out]
        cases f <;> rfl
      clear HPP hdf
      go_wp2_with fail
      go_quiet ((go_at_call 31; exact Calls.quiet_of_same (HFD _)))
      go_wp2_with fail
      go_ret2
      rw [HP2.out]
      exact ⟨rfl, G2.out.drewN nq⟩
    | true =>
      have hrg := dayF_range hdf
      rw [hdf] at HFD HPP
      simp only [if_true] at HFD
      rw [if_pos rfl] at HPP
      clear hdf
      generalize dayF (y : Int) m (d : Int) = n at *
      cases f with
      | false =>
        have HP2 : Hid (ANS = some (n, 0)) := HPP.out
        have HZ : Hid _ := sumF_zero n (by omega) (by omega)
        clear HPP
        generalize FloatKind.f64.nearest n = N at *
        go_wp2_with fail
        go_quiet ((go_at_call 31; exact Calls.quiet_of_same (HFD _)))
        go_wp2_with fail
        go_ret2
        rw [HP2.out]
        refine ⟨?_, G2.out.drewN nq⟩
        show _ = Ending.returned (.tuple #[.float .f64 (sumF n 0), .int .i64 0])
        rw [HZ.out]
        rfl
      | true =>
        have HNC := numsC b
        have HSM := fun t ht W => run_float_arith (P := Tryz.prog) W .add 23 .f64 _ _ _ (sumF_spec n t (by omega) (by omega) ht)
        have HSS : Hid _ := HSM
        clear HSM
        cases hl : likeB b.data.toList clockFm with
        | false =>
          rw [nums_none hl] at HNC
          have HP2 : Hid (ANS = none) := by
            show _ = _
            rw [HPP.out, clkOk_none hl]
            rfl
          clear HPP hl HSS
          generalize FloatKind.f64.nearest n = N at *
          go_wp2_with fail
          go_quiet ((go_at_call 31; exact Calls.quiet_of_same (HFD _)))
          go_wp2_with fail
          refine (HNC _).mono ?_
          rintro e w4 ⟨rfl, hF4⟩
          go_wp2_with fail
          go_ret2
          rw [HP2.out]
          exact ⟨rfl, (G2.out.drewN nq).trans hF4⟩
        | true =>
          obtain ⟨h, mi, se, hn2, d1, d2, d3, hck⟩ := clkOk_like hl
          rw [hn2] at HNC
          rw [hck] at HPP
          clear hl hn2 hck
          by_cases c : h ≤ 23 ∧ mi ≤ 59 ∧ se ≤ 59
          · rw [if_pos c] at HPP
            have HP2 : Hid (ANS = some (n, h * 3600 + (mi * 60 + se))) := HPP.out
            obtain ⟨x1, x2, x3⟩ := c
            have HDI := daysIn_any h mi se (by omega) (by omega) (by omega)
            have HADD := HSS.out (h * 3600 + (mi * 60 + se)) (by omega)
            have HV : Hid (pdV (some (n, h * 3600 + (mi * 60 + se))) = .tuple #[.float .f64 (sumF n (h * 3600 + (mi * 60 + se))), .int .i64 0]) := rfl
            clear HPP HSS
            generalize sumF n (h * 3600 + (mi * 60 + se)) = SM at *
            generalize dayQ (h * 3600 + (mi * 60 + se)) = DQ at *
            generalize FloatKind.f64.nearest n = N at *
            go_wp2_with fail
            go_quiet ((go_at_call 31; exact Calls.quiet_of_same (HFD _)))
            go_wp2_with fail
            refine (HNC _).mono ?_
            rintro e w4 ⟨⟨v4, rfl, hv4⟩, hF4⟩
            obtain ⟨g4, cap4, rfl, k3, k4, e0, e1, e2⟩ := nums3 hv4
            have G4 : Hid (Fr noB w w4) := (G2.out.drewN nq).trans hF4
            clear hv4 hF4 c0 c1 c2 HFD
            go_wp2_with fail
            go_quiet ((go_at_call 32; exact Calls.quiet_of_same (HDI _)))
            rename_i nq2
            go_wp2_with fail
            go_ret2
            rw [HP2.out, HV.out]
            exact ⟨rfl, G4.out.drewN _⟩
          · rw [if_neg c] at HPP
            have HP2 : Hid (ANS = none) := HPP.out
            clear HPP HSS
            generalize FloatKind.f64.nearest n = N at *
            have c3 : 23 < h ∨ (h ≤ 23 ∧ 59 < mi) ∨ (h ≤ 23 ∧ mi ≤ 59 ∧ 59 < se) := by omega
            clear c
            rcases c3 with x1 | ⟨x1, x2⟩ | ⟨x1, x2, x3⟩
            all_goals
              go_wp2_with fail
              go_quiet ((go_at_call 31; exact Calls.quiet_of_same (HFD _)))
              go_wp2_with fail
              refine (HNC _).mono ?_
              rintro e w4 ⟨⟨v4, rfl, hv4⟩, hF4⟩
              obtain ⟨g4, cap4, rfl, k3, k4, e0, e1, e2⟩ := nums3 hv4
              have G4 : Hid (Fr noB w w4) := (G2.out.drewN nq).trans hF4
              clear hv4 hF4 c0 c1 c2 HFD
              go_wp2_with fail
              go_ret2
              rw [HP2.out]
              exact ⟨rfl, G4.out⟩
#print axioms parseDate_any
end Go.Proofs.YtfoclhpnlemmnaaGreatDoor
