/- ParseTime: the program's contract. -/
import Derived.Test.YtfoclhpnlemmnaaGreatDoorTPdP
namespace Go.Proofs.YtfoclhpnlemmnaaGreatDoor
open Go.RowKit Ieee

def ptX (b : Bool) (n : Nat) : Nat := if b = true then Op.negFloat .f64 (dayQ n) else dayQ n
def ptV (o : Option (Bool × Nat)) : Value := match o with
  | none => .tuple #[.float .f64 0, .int .i64 81]
  | some (b, n) => .tuple #[.float .f64 (ptX b n), .int .i64 0]
def ptW (b : Bool) (o : Option Nat) : Option (Bool × Nat) := match o with
  | none => none
  | some n => if b = true ∧ n = 0 then none else some (b, n)
theorem ptF_eq (s : List UInt8) : ptF s = ptW (Lib.hasPrefix s [45]) (ptG (Lib.trimPrefix s [45])) := rfl
theorem ptW_some (b : Bool) (n : Nat) : ptW b (some n) = if b = true ∧ n = 0 then none else some (b, n) := rfl
def ptH (o p : Option Nat) : Option Nat := match o, p with
  | some h, some t => some (h * 3600 + t)
  | _, _ => none
theorem ptG_parts {s1 s2 a b : List UInt8} {f : Bool} (h2 : s2 = Lib.trimPrefix s1 [80, 84]) (hm : (72 : UInt8) ∉ a) (h : (f = true ∧ s2 = a ++ 72 :: b) ∨ (f = false ∧ s2 = a ∧ b = [])) : ptG s1 = if Lib.hasPrefix s1 [80, 84] = true then ptH (hoursF a) (minOk b) else none := by
  cases hp : Lib.hasPrefix s1 [80, 84] with
  | false =>
    rw [if_neg (by simp)]
    unfold ptG
    split
    · rename_i r
      exfalso
      rw [show Lib.hasPrefix (80 :: 84 :: r) [80, 84] = true from by simp [Lib.hasPrefix]] at hp
      cases hp
    · rfl
  | true =>
    rw [if_pos rfl]
    have hs1 : s1 = 80 :: 84 :: s2 := by
      have h3 : Lib.trimPrefix s1 [80, 84] = s1.drop 2 := by
        unfold Lib.trimPrefix
        rw [if_pos hp]
        rfl
      rw [h3] at h2
      unfold Lib.hasPrefix at hp
      match s1, hp with
      | [], hp => simp at hp
      | [x], hp => simp at hp
      | x :: y :: r, hp =>
        simp at hp
        obtain ⟨rfl, rfl⟩ := hp
        rw [h2]
        rfl
    rw [hs1]
    rcases h with ⟨_, rfl⟩ | ⟨_, rfl, rfl⟩
    · exact ptG_hit hm
    · rw [ptG_miss hm]
      have : minOk [] = none := rfl
      rw [this]
      cases hoursF s2 <;> rfl
theorem minOk_none {A : List UInt8} (h : likeB A minFm = false) : minOk A = none := by
  unfold minOk
  rw [nums_none h]
theorem minOk_like {A : List UInt8} (h : likeB A minFm = true) : ∃ m d : Nat, numsL [] 0 A minFm = some [m, d, 0] ∧ m < 100 ∧ d < 100 ∧ minOk A = if m ≤ 59 ∧ d ≤ 59 then some (m * 60 + d) else none := by
  obtain ⟨M, S, rfl, y2, y3, y5, y6⟩ := (like_min A).1 h
  have hn := nums_min y2 y3 y5 y6
  have b2 := numOf_lt M y5
  have b3 := numOf_lt S y6
  rw [y2] at b2
  rw [y3] at b3
  refine ⟨_, _, hn, b2, b3, ?_⟩
  unfold minOk
  rw [hn]
theorem hoursF_lt {A : List UInt8} {h : Nat} (hh : hoursF A = some h) : h < 10000000000000 := by
  unfold hoursF at hh
  split at hh
  · cases hh
  · rename_i c
    injection hh with hh
    have hall : A.all dgB = true := by
      cases h : A.all dgB with
      | true => rfl
      | false => exact absurd (Or.inr (Or.inr (Or.inr h))) c
    have hl : A.length ≤ 13 := by
      rcases Nat.lt_or_ge 13 A.length with h | h
      · exact absurd (Or.inr (Or.inl h)) c
      · exact h
    have := numOf_lt A (List.all_eq_true.1 hall)
    rw [hh] at this
    exact pow_13 this hl
theorem cutP1 (s : ByteArray) (w : World) : Calls Tryz.prog 36 #[.string s, .string ⟨#[45]⟩] w fun e w' => e = .returned (.tuple #[.string (baL (Lib.trimPrefix s.data.toList [45])), .bool (Lib.hasPrefix s.data.toList [45])]) ∧ w' = w := cutPrefix_any s ⟨#[45]⟩ w
theorem cutP2 (s : ByteArray) (w : World) : Calls Tryz.prog 36 #[.string s, .string ⟨#[80, 84]⟩] w fun e w' => e = .returned (.tuple #[.string (baL (Lib.trimPrefix s.data.toList [80, 84])), .bool (Lib.hasPrefix s.data.toList [80, 84])]) ∧ w' = w := cutPrefix_any s ⟨#[80, 84]⟩ w
theorem trim_le (s p : List UInt8) : (Lib.trimPrefix s p).length ≤ s.length := by
  unfold Lib.trimPrefix
  split
  · simp
  · exact Nat.le_refl _
theorem dayQ_eq0 (n : Nat) (hn : n < 144115188075855872) : (FloatKind.f64.format.order (dayQ n) 0 == some .eq) = decide (n = 0) := by
  obtain ⟨_, hf, hz⟩ := dayQ_spec n hn
  show (double.order (dayQ n) 0 == some .eq) = _
  rw [order_V hf zero_fin, zero_V, cmp_eq, Bool.eq_iff_iff]
  simp [hz]
set_option maxRecDepth 100000 in
set_option maxHeartbeats 2000000 in
theorem parseTime_any (s : ByteArray) (hs : s.size ≤ 140737488355328) (w : World) : Calls Tryz.prog 12 #[.string s] w fun e w' => e = .returned (ptV (ptF s.data.toList)) ∧ Fr noB w w' := by
  have H1 := cutP1 s w
  obtain ⟨S1, hS1⟩ : ∃ S, baL (Lib.trimPrefix s.data.toList [45]) = S := ⟨_, rfl⟩
  have hl1 : S1.data.toList = Lib.trimPrefix s.data.toList [45] := by rw [← hS1, baL_list]
  have hz1 : S1.size ≤ 140737488355328 := by
    have := trim_le s.data.toList [45]
    rw [← hS1, baL_size]
    simp at this ⊢
    omega
  rw [hS1] at H1
  have H2 := cutP2 S1
  obtain ⟨S2, hS2⟩ : ∃ S, baL (Lib.trimPrefix S1.data.toList [80, 84]) = S := ⟨_, rfl⟩
  have hl2 : S2.data.toList = Lib.trimPrefix S1.data.toList [80, 84] := by rw [← hS2, baL_list]
  have hz2 : S2.size ≤ 140737488355328 := by
    have := trim_le S1.data.toList [80, 84]
    rw [← hS2, baL_size]
    simp at this ⊢
    omega
  rw [hS2] at H2
  obtain ⟨BL, hBL⟩ : ∃ B, Lib.hasPrefix s.data.toList [45] = B := ⟨_, rfl⟩
  obtain ⟨BG, hBG⟩ : ∃ B, Lib.hasPrefix S1.data.toList [80, 84] = B := ⟨_, rfl⟩
  have HE : Hid (ptF s.data.toList = ptW BL (ptG S1.data.toList)) := by show _ = _; rw [ptF_eq, hBL, hl1]
  rw [hBL] at H1
  rw [hBG] at H2
  obtain ⟨ANS, hANS⟩ : ∃ A, ptF s.data.toList = A := ⟨_, rfl⟩
  rw [hANS] at HE ⊢
  have HBG : Hid _ := hBG
  have HL2 : Hid (S2.data.toList = Lib.trimPrefix S1.data.toList [80, 84]) := hl2
  have HC := cut_any S2 72
  clear hS1 hS2 hl1 hl2 hBL hBG hANS
  go_enter Tryz.func12, Tryz.ntmps12
  go_wp2_with fail
  refine H1.mono ?_
  rintro e w1 ⟨rfl, hw1⟩
  rw [hw1]
  clear hw1
  go_wp2_with fail
  refine (H2 _).mono ?_
  rintro e w2 ⟨rfl, hw2⟩
  rw [hw2]
  clear hw2
  go_wp2_with fail
  refine (HC _ hz2).mono ?_
  rintro e w3 ⟨⟨a, b, f, rfl, hm, hab⟩, hF3⟩
  have HG := ptG_parts HL2.out hm (b := b.data.toList) (f := f) (by
    rcases hab with ⟨h1, h2⟩ | ⟨h1, h2, h3⟩
    · exact Or.inl ⟨h1, h2⟩
    · exact Or.inr ⟨h1, by rw [h2], by rw [h3]⟩)
  rw [HBG.out] at HG
  have HA : Hid (ANS = ptW BL (if BG = true then ptH (hoursF a.data.toList) (minOk b.data.toList) else none)) := by show _ = _; rw [HE.out, HG]
  clear HG HE hab hm HL2 HBG H1 H2 HC
  have HH := hoursOf_any a
  have HNM := numsM b
  obtain ⟨HO, hHO⟩ : ∃ o, hoursF a.data.toList = o := ⟨_, rfl⟩
  have HHO : Hid (hoursF a.data.toList = HO) := hHO
  rw [hHO] at HH HA
  clear hHO
  cases hl : likeB b.data.toList minFm with
  | false =>
    rw [nums_none hl] at HNM
    have HA2 : Hid (ANS = none) := by
      show _ = _
      rw [HA.out, minOk_none hl]
      cases HO <;> cases BG <;> rfl
    clear HA hl HHO
    cases HO with
    | none =>
      have HH' : ∀ W, Calls Tryz.prog 37 #[.string a] W fun e w' => e = .returned (.tuple #[.int .i64 0, .bool false]) ∧ Fr noB W w' := HH
      clear HH
      cases BG
      all_goals
        go_wp2_with fail
        refine (HH' _).mono ?_
        rintro e w4 ⟨rfl, hF4⟩
        go_wp2_with fail
        refine (HNM _).mono ?_
        rintro e w5 ⟨rfl, hF5⟩
        go_wp2_with fail
        go_ret2
        rw [HA2.out]
        exact ⟨rfl, (hF3.trans hF4).trans hF5⟩
    | some h =>
      have HH' : ∀ W, Calls Tryz.prog 37 #[.string a] W fun e w' => e = .returned (.tuple #[.int .i64 (h : Int), .bool true]) ∧ Fr noB W w' := HH
      clear HH
      cases BG
      all_goals
        go_wp2_with fail
        refine (HH' _).mono ?_
        rintro e w4 ⟨rfl, hF4⟩
        go_wp2_with fail
        refine (HNM _).mono ?_
        rintro e w5 ⟨rfl, hF5⟩
        go_wp2_with fail
        go_ret2
        rw [HA2.out]
        exact ⟨rfl, (hF3.trans hF4).trans hF5⟩
  | true =>
    obtain ⟨m, c, hn, b1, b2, hmk⟩ := minOk_like hl
    rw [hn] at HNM
    rw [hmk] at HA
    clear hl hn hmk
    cases HO with
    | none =>
      have HA2 : Hid (ANS = none) := by
        show _ = _
        rw [HA.out]
        cases BG <;> rfl
      have HH' : ∀ W, Calls Tryz.prog 37 #[.string a] W fun e w' => e = .returned (.tuple #[.int .i64 0, .bool false]) ∧ Fr noB W w' := HH
      clear HH HA HHO
      cases BG
      all_goals
        go_wp2_with fail
        refine (HH' _).mono ?_
        rintro e w4 ⟨rfl, hF4⟩
        go_wp2_with fail
        refine (HNM _).mono ?_
        rintro e w5 ⟨⟨v, rfl, hv⟩, hF5⟩
        obtain ⟨g, cap, rfl, k1, k2, c0, c1, c2⟩ := nums3 hv
        have G5 : Hid (Fr noB w w5) := (hF3.trans hF4).trans hF5
        clear hv hF3 hF4 hF5
        go_wp2_with fail
        go_ret2
        rw [HA2.out]
        exact ⟨rfl, G5.out⟩
    | some h =>
      have hh13 := hoursF_lt HHO.out
      have HH' : ∀ W, Calls Tryz.prog 37 #[.string a] W fun e w' => e = .returned (.tuple #[.int .i64 (h : Int), .bool true]) ∧ Fr noB W w' := HH
      clear HH HHO
      cases BG with
      | false =>
        have HA2 : Hid (ANS = none) := HA.out
        clear HA
        go_wp2_with fail
        refine (HH' _).mono ?_
        rintro e w4 ⟨rfl, hF4⟩
        go_wp2_with fail
        refine (HNM _).mono ?_
        rintro e w5 ⟨⟨v, rfl, hv⟩, hF5⟩
        obtain ⟨g, cap, rfl, k1, k2, c0, c1, c2⟩ := nums3 hv
        have G5 : Hid (Fr noB w w5) := (hF3.trans hF4).trans hF5
        clear hv hF3 hF4 hF5
        go_wp2_with fail
        go_ret2
        rw [HA2.out]
        exact ⟨rfl, G5.out⟩
      | true =>
        by_cases cc : m ≤ 59 ∧ c ≤ 59
        · rw [if_pos cc] at HA
          obtain ⟨x1, x2⟩ := cc
          have HDI := daysIn_any h m c hh13 (by omega) (by omega)
          have hq0 := dayQ_eq0 (h * 3600 + (m * 60 + c)) (by omega)
          have HA2 : Hid (ANS = ptW BL (some (h * 3600 + (m * 60 + c)))) := HA.out
          have hng : ∀ W, (Op.unary .neg (.float .f64 (dayQ (h * 3600 + (m * 60 + c))))).run Tryz.prog W = .ok (.float .f64 (Op.negFloat .f64 (dayQ (h * 3600 + (m * 60 + c))))) W := fun W => rfl
          have HX : Hid (∀ b, ptX b (h * 3600 + (m * 60 + c)) = if b = true then Op.negFloat .f64 (dayQ (h * 3600 + (m * 60 + c))) else dayQ (h * 3600 + (m * 60 + c))) := fun _ => rfl
          clear HA
          generalize dayQ (h * 3600 + (m * 60 + c)) = DQ at *
          cases BL with
          | true =>
            by_cases n0 : h * 3600 + (m * 60 + c) = 0
            · have HA3 : Hid (ANS = none) := by show _ = _; rw [HA2.out, ptW_some, if_pos ⟨rfl, n0⟩]
              rw [decide_eq_true n0] at hq0
              clear HA2 HX n0
              go_wp2_with fail
              refine (HH' _).mono ?_
              rintro e w4 ⟨rfl, hF4⟩
              go_wp2_with fail
              refine (HNM _).mono ?_
              rintro e w5 ⟨⟨v, rfl, hv⟩, hF5⟩
              obtain ⟨g, cap, rfl, k1, k2, c0, c1, c2⟩ := nums3 hv
              have G5 : Hid (Fr noB w w5) := (hF3.trans hF4).trans hF5
              clear hv hF3 hF4 hF5
              go_wp2_with fail
              go_quiet ((go_at_call 32; exact Calls.quiet_of_same (HDI _)))
              go_wp2_with fail
              go_ret2
              rw [HA3.out]
              exact ⟨rfl, G5.out.drewN nq⟩
            · have HA3 : Hid (ANS = some (true, h * 3600 + (m * 60 + c))) := by show _ = _; rw [HA2.out, ptW_some, if_neg (fun h => n0 h.2)]
              rw [decide_eq_false n0] at hq0
              clear HA2 n0
              go_wp2_with fail
              refine (HH' _).mono ?_
              rintro e w4 ⟨rfl, hF4⟩
              go_wp2_with fail
              refine (HNM _).mono ?_
              rintro e w5 ⟨⟨v, rfl, hv⟩, hF5⟩
              obtain ⟨g, cap, rfl, k1, k2, c0, c1, c2⟩ := nums3 hv
              have G5 : Hid (Fr noB w w5) := (hF3.trans hF4).trans hF5
              clear hv hF3 hF4 hF5
              go_wp2_with fail
              go_quiet ((go_at_call 32; exact Calls.quiet_of_same (HDI _)))
              go_wp2_with fail
              go_ret2
              rw [HA3.out]
              refine ⟨?_, G5.out.drewN nq⟩
              show _ = Ending.returned (.tuple #[.float .f64 (ptX true (h * 3600 + (m * 60 + c))), .int .i64 0])
              rw [HX.out, if_pos rfl]
              rfl
          | false =>
            have HA3 : Hid (ANS = some (false, h * 3600 + (m * 60 + c))) := by show _ = _; rw [HA2.out, ptW_some, if_neg (by simp)]
            clear HA2 hq0
            go_wp2_with fail
            refine (HH' _).mono ?_
            rintro e w4 ⟨rfl, hF4⟩
            go_wp2_with fail
            refine (HNM _).mono ?_
            rintro e w5 ⟨⟨v, rfl, hv⟩, hF5⟩
            obtain ⟨g, cap, rfl, k1, k2, c0, c1, c2⟩ := nums3 hv
            have G5 : Hid (Fr noB w w5) := (hF3.trans hF4).trans hF5
            clear hv hF3 hF4 hF5
            go_wp2_with fail
            go_quiet ((go_at_call 32; exact Calls.quiet_of_same (HDI _)))
            go_wp2_with fail
            go_ret2
            rw [HA3.out]
            refine ⟨?_, G5.out.drewN nq⟩
            show _ = Ending.returned (.tuple #[.float .f64 (ptX false (h * 3600 + (m * 60 + c))), .int .i64 0])
            rw [HX.out, if_neg (by simp)]
            rfl
        · rw [if_neg cc] at HA
          have HA2 : Hid (ANS = none) := HA.out
          clear HA
          have c3 : 59 < m ∨ (m ≤ 59 ∧ 59 < c) := by omega
          clear cc
          rcases c3 with x1 | ⟨x1, x2⟩
          all_goals
            go_wp2_with fail
            refine (HH' _).mono ?_
            rintro e w4 ⟨rfl, hF4⟩
            go_wp2_with fail
            refine (HNM _).mono ?_
            rintro e w5 ⟨⟨v, rfl, hv⟩, hF5⟩
            obtain ⟨g, cap, rfl, k1, k2, c0, c1, c2⟩ := nums3 hv
            have G5 : Hid (Fr noB w w5) := (hF3.trans hF4).trans hF5
            clear hv hF3 hF4 hF5
            go_wp2_with fail
            go_ret2
            rw [HA2.out]
            exact ⟨rfl, G5.out⟩
#print axioms parseTime_any
end Go.Proofs.YtfoclhpnlemmnaaGreatDoor
