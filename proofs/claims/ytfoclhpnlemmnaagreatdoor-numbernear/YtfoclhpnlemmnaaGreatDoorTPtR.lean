/- The document's ParseTime: contract. -/
import Derived.Test.YtfoclhpnlemmnaaGreatDoorTPdR
namespace Go.Proofs.YtfoclhpnlemmnaaGreatDoor
open Go.RowKit Ieee

theorem ptF_true {s : ByteArray} (h0 : 0 < s.size) (h : (s[0]'h0) = 45) : ptF s.data.toList = ptW true (ptG (s.extract 1 s.size).data.toList) := by
  have hd := drop_at s 0 h0
  rw [List.drop_zero, h] at hd
  rw [ptF_eq, hd]
  have e1 : Lib.hasPrefix (45 :: s.data.toList.drop (0 + 1)) [45] = true := by simp [Lib.hasPrefix]
  have e2 : Lib.trimPrefix (45 :: s.data.toList.drop (0 + 1)) [45] = s.data.toList.drop 1 := by
    unfold Lib.trimPrefix
    rw [if_pos e1]
    rfl
  have e3 : (s.extract 1 s.size).data.toList = s.data.toList.drop 1 := by rw [extract_list, List.take_of_length_le (by simp)]
  rw [e1, e2, e3]
theorem ptF_false {s : ByteArray} (h0 : 0 < s.size) (h : ¬ (s[0]'h0) = 45) : ptF s.data.toList = ptW false (ptG s.data.toList) := by
  have hd := drop_at s 0 h0
  rw [List.drop_zero] at hd
  rw [ptF_eq, hd]
  have e1 : Lib.hasPrefix ((s[0]'h0) :: s.data.toList.drop (0 + 1)) [45] = false := by
    cases hh : Lib.hasPrefix ((s[0]'h0) :: s.data.toList.drop (0 + 1)) [45] with
    | false => rfl
    | true =>
      exfalso
      simp [Lib.hasPrefix] at hh
      first | exact h hh | exact h hh.symm
  have e2 : Lib.trimPrefix ((s[0]'h0) :: s.data.toList.drop (0 + 1)) [45] = (s[0]'h0) :: s.data.toList.drop (0 + 1) := by
    unfold Lib.trimPrefix
    rw [if_neg (by rw [e1]; simp)]
  rw [e1, e2]
theorem ptF_empty {s : ByteArray} (h0 : s.size = 0) : ptF s.data.toList = none := by
  have : s.data.toList = [] := by
    apply List.eq_nil_of_length_eq_zero
    simpa using h0
  rw [this]
  rfl
theorem toList_data (s : ByteArray) : s.toList = s.data.toList := ByteArray.toList_eq ..
/-- A text of the form, in its parts. -/
theorem time_slices {T : ByteArray} {k : Nat} (hk : T.size = k + 11) (h2 : T.data.toList.take 2 = [80, 84]) {M S : List UInt8} (hE : T.data.toList.drop (k + 4) = 72 :: (M ++ 77 :: (S ++ [83]))) (hM : M.length = 2) (hS : S.length = 2) :
    T.data.toList = 80 :: 84 :: ((T.extract 2 (k + 4)).data.toList ++ T.data.toList.drop (k + 4)) ∧ (T.extract (k + 5) (k + 7)).data.toList = M ∧ (T.extract (k + 8) (k + 10)).data.toList = S ∧ (T.extract 2 (k + 4)).size = k + 2 := by
  have hlen : T.data.toList.length = k + 11 := by simpa using hk
  have hH : (T.extract 2 (k + 4)).data.toList = (T.data.toList.take (k + 4)).drop 2 := extract_list ..
  have hw : T.data.toList = 80 :: 84 :: ((T.extract 2 (k + 4)).data.toList ++ T.data.toList.drop (k + 4)) := by
    rw [hH]
    conv => lhs; rw [← List.take_append_drop (k + 4) T.data.toList]
    have : T.data.toList.take (k + 4) = 80 :: 84 :: (T.data.toList.take (k + 4)).drop 2 := by
      conv => lhs; rw [← List.take_append_drop 2 (T.data.toList.take (k + 4))]
      rw [List.take_take, show min 2 (k + 4) = 2 by omega, h2]
      rfl
    rw [this]
    rfl
  have hpart : ∀ a b, a ≤ b → (T.extract (k + 4 + a) (k + 4 + b)).data.toList = ((T.data.toList.drop (k + 4)).take b).drop a := by
    intro a b hab
    rw [extract_list, List.take_drop, List.drop_drop]
  refine ⟨hw, ?_, ?_, ?_⟩
  · have := hpart 1 3 (by omega)
    rw [show k + 4 + 1 = k + 5 by omega, show k + 4 + 3 = k + 7 by omega, hE] at this
    rw [this]
    obtain ⟨_, _, rfl⟩ := two_list hM
    rfl
  · have := hpart 4 6 (by omega)
    rw [show k + 4 + 4 = k + 8 by omega, show k + 4 + 6 = k + 10 by omega, hE] at this
    rw [this]
    obtain ⟨_, _, rfl⟩ := two_list hM
    obtain ⟨_, _, rfl⟩ := two_list hS
    rfl
  · have : (T.extract 2 (k + 4)).data.toList.length = (T.extract 2 (k + 4)).size := by rw [Array.length_toList]; rfl
    rw [← this, hH]
    simp only [List.length_drop, List.length_take, hlen]
    omega
set_option maxRecDepth 100000 in
set_option maxHeartbeats 2000000 in
theorem rparseTime_any (s : ByteArray) (hs : s.size ≤ 140737488355328) (w : World) : Calls Tryz.prog 13 #[.string s] w fun e w' => e = .returned (ptV (ptF s.data.toList)) ∧ Fr noB w w' := by
  by_cases h0 : s.size = 0
  · rw [ptF_empty h0]
    have hne : s.toList.isEmpty = true := by
      rw [toList_data, List.isEmpty_iff]
      exact List.eq_nil_of_length_eq_zero (by simpa using h0)
    go_enter Tryz.func13, Tryz.ntmps13
    go_wp2_with fail
    go_ret2
    exact ⟨rfl, Fr.refl _ _⟩
  · have h0' : 0 < s.size := by omega
    have hne : s.toList.isEmpty = false := by
      rw [toList_data]
      cases h : s.data.toList.isEmpty with
      | false => rfl
      | true =>
        have h1 : s.data.toList.length = 0 := by rw [List.isEmpty_iff.1 h]; rfl
        have h2 : s.data.toList.length = s.size := by simp
        omega
    by_cases h45 : (s[0]'h0') = 45
    · rw [ptF_true h0' h45]
      have e45 : (s[0]'h0').toNat = 45 := by rw [h45]; rfl
      obtain ⟨T, hT⟩ : ∃ T, s.extract 1 s.size = T := ⟨_, rfl⟩
      have hTs : T.size ≤ 140737488355328 := by rw [← hT]; simp; omega
      have hi1 : (1 : Int) ≤ (s.size : Int) := by omega
      rw [hT]
      clear h45
      obtain ⟨ANS, hANS⟩ : ∃ A, ptW true (ptG T.data.toList) = A := ⟨_, rfl⟩
      have HE : Hid (ANS = ptW true (ptG T.data.toList)) := hANS.symm
      rw [hANS]
      clear hANS
      by_cases c1 : T.size < 11
      · have HA2 : Hid (ANS = none) := by
          show _ = _
          rw [HE.out, ptG_none (by rintro ⟨h, _⟩; simp at h; omega)]
          rfl
        clear HE
        go_enter Tryz.func13, Tryz.ntmps13
        go_wp2_with fail
        go_ret2
        rw [HA2.out]
        exact ⟨rfl, Fr.refl _ _⟩
      · obtain ⟨k, hk⟩ : ∃ k, T.size = k + 11 := ⟨T.size - 11, by omega⟩
        have hlT : T.data.toList.length = k + 11 := by simpa using hk
        have hkb : k ≤ 140737488355328 := by omega
        have d11 : decide ((k : Int) + 11 < 11) = false := decide_eq_false (by omega)
        have hpre : (T.extract 0 2).toList = T.data.toList.take 2 := by rw [toList_data, extract_list]; rfl
        have hend : (T.extract (k + 4) (k + 11)).data.toList = T.data.toList.drop (k + 4) := by rw [extract_list, List.take_of_length_le (by omega)]
        have HNO : Hid (¬ (T.data.toList.take 2 = [80, 84] ∧ likeB (T.data.toList.drop (k + 4)) minHFm = true) → ANS = none) := by
          intro hno
          rw [HE.out, ptG_none (by rintro ⟨_, h1, h2⟩; rw [hlT, show k + 11 - 7 = k + 4 by omega] at h2; exact hno ⟨h1, h2⟩)]
          rfl
        by_cases c2 : T.data.toList.take 2 = [80, 84]
        · have p2 : ((T.extract 0 2).toList == [80, 84]) = true := by rw [hpre, c2]; rfl
          have HLM := likeM (T.extract (k + 4) (k + 11))
          rw [hend] at HLM
          have s1 : (0 : Int) ≤ (k : Int) + 4 := by omega
          have s2 : (k : Int) + 4 ≤ (k : Int) + 11 := by omega
          cases c3 : likeB (T.data.toList.drop (k + 4)) minHFm with
          | false =>
            rw [c3] at HLM
            have HA2 : Hid (ANS = none) := HNO.out (fun h => by rw [h.2] at c3; cases c3)
            clear HE HNO c3 c2 hpre hend hlT c1
            go_enter Tryz.func13, Tryz.ntmps13
            go_wp2_with fail
            refine (HLM _).mono ?_
            rintro e w1 ⟨rfl, hF1⟩
            go_wp2_with fail
            go_ret2
            rw [HA2.out]
            exact ⟨rfl, hF1⟩
          | true =>
            rw [c3] at HLM
            obtain ⟨M, S, hE, m1, m2, m3, m4, hG⟩ := ptG_form (H := (T.extract 2 (k + 4)).data.toList) c3
            obtain ⟨hw, l1, l2, hhz⟩ := time_slices hk c2 hE m1 m2
            rw [← hw] at hG
            have HE2 := HE.out
            rw [hG] at HE2
            have N1 := num_slice l1 m3 (by intro h; rw [h] at m1; cases m1) (by omega)
            have N2 := num_slice l2 m4 (by intro h; rw [h] at m2; cases m2) (by omega)
            have a1 := numOf_lt M m3
            have a2 := numOf_lt S m4
            rw [m1] at a1
            rw [m2] at a2
            obtain ⟨H, hH⟩ : ∃ H, T.extract 2 (k + 4) = H := ⟨_, rfl⟩
            rw [hH] at HE2 hhz
            have hlH : H.data.toList.length = k + 2 := by simpa using hhz
            generalize numOf M = m at *
            generalize numOf S = c at *
            have a1' : m < 100 := by simpa using a1
            have a2' : c < 100 := by simpa using a2
            clear HE HNO c3 c2 hpre hend hlT c1 hE m1 m2 m3 m4 hG hw l1 l2 a1 a2 M S
            have HRN := rrun_any H (by omega)
            have h0H : 0 < H.size := by omega
            have HHD := head_at H h0H
            have r1 : (0 : Int) ≤ 2 := by omega
            have r2 : (2 : Int) ≤ (k : Int) + 4 := by omega
            have r3 : (k : Int) + 4 ≤ (k : Int) + 11 := by omega
            by_cases e1 : H.data.toList.all dgB = true
            · by_cases e2 : k + 2 ≤ 13
              · have x13 : decide ((13 : Int) < (k : Int) + 2) = false := decide_eq_false (by omega)
                by_cases e3 : 2 < k + 2 ∧ (H[0]'h0H) = 48
                · have HA2 : Hid (ANS = none) := by
                    show _ = _
                    rw [HE2, if_neg (fun h => h.2.2.2.1 ⟨by omega, by rw [HHD, e3.2]⟩)]
                    rfl
                  obtain ⟨e3, e4⟩ := e3
                  have x0 : (H[0]'h0H).toNat = 48 := by rw [e4]; rfl
                  have x2 : decide ((2 : Int) < (k : Int) + 2) = true := decide_eq_true (by omega)
                  clear HE2 HHD e4 N1 N2
                  go_enter Tryz.func13, Tryz.ntmps13
                  go_wp2_with fail
                  refine (HLM _).mono ?_
                  rintro e w1 ⟨rfl, hF1⟩
                  go_wp2_with fail
                  refine (HRN _).mono ?_
                  rintro e w2 ⟨⟨kk, rfl, hkl, hkq⟩, hw2⟩
                  rw [hw2]
                  clear hw2 HLM HRN
                  have hkk : kk = H.size := hkq.2 e1
                  subst hkk
                  clear hkq hkl
                  go_wp2_with fail
                  go_ret2
                  rw [HA2.out]
                  exact ⟨rfl, hF1⟩
                · have HNH := num_slice (s := H) rfl (List.all_eq_true.1 e1) (by intro h; rw [h] at hlH; simp at hlH) (by omega)
                  have hb13 := pow_13 (numOf_lt _ (List.all_eq_true.1 e1)) (by omega)
                  have HE3 : Hid (ANS = ptW true (if m ≤ 59 ∧ c ≤ 59 then some (numOf H.data.toList * 3600 + (m * 60 + c)) else none)) := by
                    show _ = _
                    rw [HE2]
                    by_cases cc : m ≤ 59 ∧ c ≤ 59
                    · rw [if_pos cc, if_pos ⟨e1, by omega, by omega, fun h => e3 ⟨by omega, by rw [HHD] at h; exact Option.some.inj h.2⟩, cc.1, cc.2⟩]
                    · rw [if_neg cc, if_neg (fun h => cc ⟨h.2.2.2.2.1, h.2.2.2.2.2⟩)]
                  generalize numOf H.data.toList = h at *
                  have x2 : (decide ((2 : Int) < (k : Int) + 2) = false) ∨ (decide ((2 : Int) < (k : Int) + 2) = true ∧ (((H[0]'h0H).toNat : Int) == 48) = false) := by
                    by_cases q : 2 < k + 2
                    · right
                      refine ⟨decide_eq_true (by omega), ?_⟩
                      rw [beq_eq_false_iff_ne]
                      intro e
                      exact e3 ⟨q, UInt8.toNat_inj.1 (by have : (48 : UInt8).toNat = 48 := rfl
                                                         omega)⟩
                    · exact Or.inl (decide_eq_false (by omega))
                  clear HE2 HHD e3
                  have HDQ := run_quo
                  have HDQQ : Hid _ := HDQ
                  clear HDQ
                  obtain ⟨q5, hq5⟩ : ∃ q : Nat, k + 5 = q := ⟨_, rfl⟩
                  obtain ⟨q7, hq7⟩ : ∃ q : Nat, k + 7 = q := ⟨_, rfl⟩
                  obtain ⟨q8, hq8⟩ : ∃ q : Nat, k + 8 = q := ⟨_, rfl⟩
                  obtain ⟨q10, hq10⟩ : ∃ q : Nat, k + 10 = q := ⟨_, rfl⟩
                  rw [hq5, hq7] at N1
                  rw [hq8, hq10] at N2
                  have v1 : (k : Int) + 11 - 6 = (q5 : Int) := by omega
                  have v2 : (k : Int) + 11 - 4 = (q7 : Int) := by omega
                  have v3 : (k : Int) + 11 - 3 = (q8 : Int) := by omega
                  have v4 : (k : Int) + 11 - 1 = (q10 : Int) := by omega
                  have u1 : IntKind.i64.wrap (q5 : Int) = (q5 : Int) := by rw [IntKind.wrap_i64]; omega
                  have u2 : IntKind.i64.wrap (q7 : Int) = (q7 : Int) := by rw [IntKind.wrap_i64]; omega
                  have u3 : IntKind.i64.wrap (q8 : Int) = (q8 : Int) := by rw [IntKind.wrap_i64]; omega
                  have u4 : IntKind.i64.wrap (q10 : Int) = (q10 : Int) := by rw [IntKind.wrap_i64]; omega
                  have t1 : (0 : Int) ≤ (q5 : Int) := by omega
                  have t2 : (q5 : Int) ≤ (q7 : Int) := by omega
                  have t3 : (q7 : Int) ≤ (k : Int) + 11 := by omega
                  have t4 : (0 : Int) ≤ (q8 : Int) := by omega
                  have t5 : (q8 : Int) ≤ (q10 : Int) := by omega
                  have t6 : (q10 : Int) ≤ (k : Int) + 11 := by omega
                  clear hq5 hq7 hq8 hq10
                  rcases x2 with x2 | ⟨x2, x0⟩
                  all_goals
                    go_enter Tryz.func13, Tryz.ntmps13
                    go_wp2_with fail
                    refine (HLM _).mono ?_
                    rintro e w1 ⟨rfl, hF1⟩
                    go_wp2_with fail
                    refine (HRN _).mono ?_
                    rintro e w2 ⟨⟨kk, rfl, hkl, hkq⟩, hw2⟩
                    rw [hw2]
                    clear hw2 HLM HRN
                    have hkk : kk = H.size := hkq.2 e1
                    subst hkk
                    clear hkq hkl
                    go_wp2_with fail
                    go_cut [7, 8] (fun a b wc => a = .int .i64 (m : Int) ∧ b = .int .i64 (c : Int) ∧ Fr noB w1 wc)
                    case first =>
                      go_region_held3 (fun _ => True) (exact trivial) (first
                        | (go_at_call_of 34 (T.extract q5 q7); with_reducible refine (N1 _).mono ?_; rintro e wa ⟨rfl, hFa⟩)
                        | (go_at_call_of 34 (T.extract q8 q10); with_reducible refine (N2 _).mono ?_; rintro e wb ⟨rfl, hFb⟩))
                      all_goals
                        go_wp2_with fail
                        go_meet
                        refine ⟨rfl, rfl, ?_⟩
                        repeat first | assumption | exact (Fr.refl _ _).drew | refine Fr.trans ?_ (by assumption)
                    obtain ⟨rfl, rfl, hF4⟩ := hcut
                    have G4 : Hid (Fr noB w wc) := hF1.trans hF4
                    clear hF4 N1 N2 hF1
                    go_wp2_with fail
                    refine (HNH _).mono ?_
                    rintro e w5 ⟨rfl, hF5⟩
                    have G5 : Hid (Fr noB w w5) := G4.out.trans hF5
                    clear hF5 HNH G4
                    by_cases cc : m ≤ 59 ∧ c ≤ 59
                    · have HA2 : Hid (ANS = ptW true (some (h * 3600 + (m * 60 + c)))) := by show _ = _; rw [HE3.out, if_pos cc]
                      obtain ⟨y1, y2⟩ := cc
                      obtain ⟨n, hn⟩ : ∃ n : Nat, h * 3600 + (m * 60 + c) = n := ⟨_, rfl⟩
                      have hnI : (h : Int) * 3600 + (m : Int) * 60 + (c : Int) = (n : Int) := by omega
                      have hnb : n < 144115188075855872 := by omega
                      rw [hn] at HA2
                      have hq := HDQQ.out n hnb
                      have hng : ∀ W, (Op.unary .neg (.float .f64 (dayQ n))).run Tryz.prog W = .ok (.float .f64 (Op.negFloat .f64 (dayQ n))) W := fun W => rfl
                      have HXX : Hid (∀ b, ptX b n = if b = true then Op.negFloat .f64 (dayQ n) else dayQ n) := fun _ => rfl
                      clear hn HE3 HDQQ
                      generalize dayQ n = DQ at *
                      by_cases n0 : n = 0
                      · have HA3 : Hid (ANS = none) := by show _ = _; rw [HA2.out, ptW_some, if_pos ⟨rfl, n0⟩]
                        have n0' : ((n : Int) == 0) = true := by rw [beq_iff_eq]; omega
                        clear HA2 n0
                        go_wp2_with fail
                        go_ret2
                        rw [HA3.out]
                        exact ⟨rfl, G5.out⟩
                      · have HA3 : Hid (ANS = some (true, n)) := by show _ = _; rw [HA2.out, ptW_some, if_neg (fun h => n0 h.2)]
                        have n0' : ((n : Int) == 0) = false := by rw [beq_eq_false_iff_ne]; omega
                        clear HA2 n0
                        go_wp2_with fail
                        go_ret2
                        rw [HA3.out]
                        refine ⟨?_, G5.out⟩
                        show _ = Ending.returned (.tuple #[.float .f64 (ptX true n), .int .i64 0])
                        rw [HXX.out, if_pos rfl]
                        rfl
                    · have HA2 : Hid (ANS = none) := by show _ = _; rw [HE3.out, if_neg cc]; rfl
                      clear HE3 HDQQ
                      have c3 : 59 < m ∨ (m ≤ 59 ∧ 59 < c) := by omega
                      clear cc
                      rcases c3 with y1 | ⟨y1, y2⟩
                      all_goals
                        go_wp2_with fail
                        go_ret2
                        rw [HA2.out]
                        exact ⟨rfl, G5.out⟩
              · have HA2 : Hid (ANS = none) := by
                  show _ = _
                  rw [HE2, if_neg (fun h => by have := h.2.2.1; omega)]
                  rfl
                have x13 : decide ((13 : Int) < (k : Int) + 2) = true := decide_eq_true (by omega)
                clear HE2 HHD N1 N2
                go_enter Tryz.func13, Tryz.ntmps13
                go_wp2_with fail
                refine (HLM _).mono ?_
                rintro e w1 ⟨rfl, hF1⟩
                go_wp2_with fail
                refine (HRN _).mono ?_
                rintro e w2 ⟨⟨kk, rfl, hkl, hkq⟩, hw2⟩
                rw [hw2]
                clear hw2 HLM HRN
                have hkk : kk = H.size := hkq.2 e1
                subst hkk
                clear hkq hkl
                go_wp2_with fail
                go_ret2
                rw [HA2.out]
                exact ⟨rfl, hF1⟩
            · have HA2 : Hid (ANS = none) := by
                show _ = _
                rw [HE2, if_neg (fun h => e1 h.1)]
                rfl
              clear HE2 HHD N1 N2
              go_enter Tryz.func13, Tryz.ntmps13
              go_wp2_with fail
              refine (HLM _).mono ?_
              rintro e w1 ⟨rfl, hF1⟩
              go_wp2_with fail
              refine (HRN _).mono ?_
              rintro e w2 ⟨⟨kk, rfl, hkl, hkq⟩, hw2⟩
              rw [hw2]
              clear hw2 HLM HRN
              have hkk : ¬ kk = H.size := fun h => e1 (hkq.1 h)
              have hkk' : ¬ (kk : Int) = (k : Int) + 2 := by omega
              clear hkq
              go_wp2_with fail
              go_ret2
              rw [HA2.out]
              exact ⟨rfl, hF1⟩
        · have p2 : ((T.extract 0 2).toList == [80, 84]) = false := by rw [hpre]; simpa using c2
          have HA2 : Hid (ANS = none) := HNO.out (fun h => c2 h.1)
          clear HE HNO c2 hpre hend hlT c1
          go_enter Tryz.func13, Tryz.ntmps13
          go_wp2_with fail
          go_ret2
          rw [HA2.out]
          exact ⟨rfl, Fr.refl _ _⟩
    · rw [ptF_false h0' h45]
      have e45 : (((s[0]'h0').toNat : Int) == 45) = false := by
        rw [beq_eq_false_iff_ne]
        intro e
        exact h45 (UInt8.toNat_inj.1 (by have : (45 : UInt8).toNat = 45 := rfl
                                         omega))
      clear h45
      obtain ⟨ANS, hANS⟩ : ∃ A, ptW false (ptG s.data.toList) = A := ⟨_, rfl⟩
      have HE : Hid (ANS = ptW false (ptG s.data.toList)) := hANS.symm
      rw [hANS]
      clear hANS
      by_cases c1 : s.size < 11
      · have HA2 : Hid (ANS = none) := by
          show _ = _
          rw [HE.out, ptG_none (by rintro ⟨h, _⟩; simp at h; omega)]
          rfl
        clear HE
        go_enter Tryz.func13, Tryz.ntmps13
        go_wp2_with fail
        go_ret2
        rw [HA2.out]
        exact ⟨rfl, Fr.refl _ _⟩
      · obtain ⟨k, hk⟩ : ∃ k, s.size = k + 11 := ⟨s.size - 11, by omega⟩
        have hlT : s.data.toList.length = k + 11 := by simpa using hk
        have hkb : k ≤ 140737488355328 := by omega
        have d11 : decide ((k : Int) + 11 < 11) = false := decide_eq_false (by omega)
        have hpre : (s.extract 0 2).toList = s.data.toList.take 2 := by rw [toList_data, extract_list]; rfl
        have hend : (s.extract (k + 4) (k + 11)).data.toList = s.data.toList.drop (k + 4) := by rw [extract_list, List.take_of_length_le (by omega)]
        have HNO : Hid (¬ (s.data.toList.take 2 = [80, 84] ∧ likeB (s.data.toList.drop (k + 4)) minHFm = true) → ANS = none) := by
          intro hno
          rw [HE.out, ptG_none (by rintro ⟨_, h1, h2⟩; rw [hlT, show k + 11 - 7 = k + 4 by omega] at h2; exact hno ⟨h1, h2⟩)]
          rfl
        by_cases c2 : s.data.toList.take 2 = [80, 84]
        · have p2 : ((s.extract 0 2).toList == [80, 84]) = true := by rw [hpre, c2]; rfl
          have HLM := likeM (s.extract (k + 4) (k + 11))
          rw [hend] at HLM
          have s1 : (0 : Int) ≤ (k : Int) + 4 := by omega
          have s2 : (k : Int) + 4 ≤ (k : Int) + 11 := by omega
          cases c3 : likeB (s.data.toList.drop (k + 4)) minHFm with
          | false =>
            rw [c3] at HLM
            have HA2 : Hid (ANS = none) := HNO.out (fun h => by rw [h.2] at c3; cases c3)
            clear HE HNO c3 c2 hpre hend hlT c1
            go_enter Tryz.func13, Tryz.ntmps13
            go_wp2_with fail
            refine (HLM _).mono ?_
            rintro e w1 ⟨rfl, hF1⟩
            go_wp2_with fail
            go_ret2
            rw [HA2.out]
            exact ⟨rfl, hF1⟩
          | true =>
            rw [c3] at HLM
            obtain ⟨M, S, hE, m1, m2, m3, m4, hG⟩ := ptG_form (H := (s.extract 2 (k + 4)).data.toList) c3
            obtain ⟨hw, l1, l2, hhz⟩ := time_slices hk c2 hE m1 m2
            rw [← hw] at hG
            have HE2 := HE.out
            rw [hG] at HE2
            have N1 := num_slice l1 m3 (by intro h; rw [h] at m1; cases m1) (by omega)
            have N2 := num_slice l2 m4 (by intro h; rw [h] at m2; cases m2) (by omega)
            have a1 := numOf_lt M m3
            have a2 := numOf_lt S m4
            rw [m1] at a1
            rw [m2] at a2
            obtain ⟨H, hH⟩ : ∃ H, s.extract 2 (k + 4) = H := ⟨_, rfl⟩
            rw [hH] at HE2 hhz
            have hlH : H.data.toList.length = k + 2 := by simpa using hhz
            generalize numOf M = m at *
            generalize numOf S = c at *
            have a1' : m < 100 := by simpa using a1
            have a2' : c < 100 := by simpa using a2
            clear HE HNO c3 c2 hpre hend hlT c1 hE m1 m2 m3 m4 hG hw l1 l2 a1 a2 M S
            have HRN := rrun_any H (by omega)
            have h0H : 0 < H.size := by omega
            have HHD := head_at H h0H
            have r1 : (0 : Int) ≤ 2 := by omega
            have r2 : (2 : Int) ≤ (k : Int) + 4 := by omega
            have r3 : (k : Int) + 4 ≤ (k : Int) + 11 := by omega
            by_cases e1 : H.data.toList.all dgB = true
            · by_cases e2 : k + 2 ≤ 13
              · have x13 : decide ((13 : Int) < (k : Int) + 2) = false := decide_eq_false (by omega)
                by_cases e3 : 2 < k + 2 ∧ (H[0]'h0H) = 48
                · have HA2 : Hid (ANS = none) := by
                    show _ = _
                    rw [HE2, if_neg (fun h => h.2.2.2.1 ⟨by omega, by rw [HHD, e3.2]⟩)]
                    rfl
                  obtain ⟨e3, e4⟩ := e3
                  have x0 : (H[0]'h0H).toNat = 48 := by rw [e4]; rfl
                  have x2 : decide ((2 : Int) < (k : Int) + 2) = true := decide_eq_true (by omega)
                  clear HE2 HHD e4 N1 N2
                  go_enter Tryz.func13, Tryz.ntmps13
                  go_wp2_with fail
                  refine (HLM _).mono ?_
                  rintro e w1 ⟨rfl, hF1⟩
                  go_wp2_with fail
                  refine (HRN _).mono ?_
                  rintro e w2 ⟨⟨kk, rfl, hkl, hkq⟩, hw2⟩
                  rw [hw2]
                  clear hw2 HLM HRN
                  have hkk : kk = H.size := hkq.2 e1
                  subst hkk
                  clear hkq hkl
                  go_wp2_with fail
                  go_ret2
                  rw [HA2.out]
                  exact ⟨rfl, hF1⟩
                · have HNH := num_slice (s := H) rfl (List.all_eq_true.1 e1) (by intro h; rw [h] at hlH; simp at hlH) (by omega)
                  have hb13 := pow_13 (numOf_lt _ (List.all_eq_true.1 e1)) (by omega)
                  have HE3 : Hid (ANS = ptW false (if m ≤ 59 ∧ c ≤ 59 then some (numOf H.data.toList * 3600 + (m * 60 + c)) else none)) := by
                    show _ = _
                    rw [HE2]
                    by_cases cc : m ≤ 59 ∧ c ≤ 59
                    · rw [if_pos cc, if_pos ⟨e1, by omega, by omega, fun h => e3 ⟨by omega, by rw [HHD] at h; exact Option.some.inj h.2⟩, cc.1, cc.2⟩]
                    · rw [if_neg cc, if_neg (fun h => cc ⟨h.2.2.2.2.1, h.2.2.2.2.2⟩)]
                  generalize numOf H.data.toList = h at *
                  have x2 : (decide ((2 : Int) < (k : Int) + 2) = false) ∨ (decide ((2 : Int) < (k : Int) + 2) = true ∧ (((H[0]'h0H).toNat : Int) == 48) = false) := by
                    by_cases q : 2 < k + 2
                    · right
                      refine ⟨decide_eq_true (by omega), ?_⟩
                      rw [beq_eq_false_iff_ne]
                      intro e
                      exact e3 ⟨q, UInt8.toNat_inj.1 (by have : (48 : UInt8).toNat = 48 := rfl
                                                         omega)⟩
                    · exact Or.inl (decide_eq_false (by omega))
                  clear HE2 HHD e3
                  have HDQ := run_quo
                  have HDQQ : Hid _ := HDQ
                  clear HDQ
                  obtain ⟨q5, hq5⟩ : ∃ q : Nat, k + 5 = q := ⟨_, rfl⟩
                  obtain ⟨q7, hq7⟩ : ∃ q : Nat, k + 7 = q := ⟨_, rfl⟩
                  obtain ⟨q8, hq8⟩ : ∃ q : Nat, k + 8 = q := ⟨_, rfl⟩
                  obtain ⟨q10, hq10⟩ : ∃ q : Nat, k + 10 = q := ⟨_, rfl⟩
                  rw [hq5, hq7] at N1
                  rw [hq8, hq10] at N2
                  have v1 : (k : Int) + 11 - 6 = (q5 : Int) := by omega
                  have v2 : (k : Int) + 11 - 4 = (q7 : Int) := by omega
                  have v3 : (k : Int) + 11 - 3 = (q8 : Int) := by omega
                  have v4 : (k : Int) + 11 - 1 = (q10 : Int) := by omega
                  have u1 : IntKind.i64.wrap (q5 : Int) = (q5 : Int) := by rw [IntKind.wrap_i64]; omega
                  have u2 : IntKind.i64.wrap (q7 : Int) = (q7 : Int) := by rw [IntKind.wrap_i64]; omega
                  have u3 : IntKind.i64.wrap (q8 : Int) = (q8 : Int) := by rw [IntKind.wrap_i64]; omega
                  have u4 : IntKind.i64.wrap (q10 : Int) = (q10 : Int) := by rw [IntKind.wrap_i64]; omega
                  have t1 : (0 : Int) ≤ (q5 : Int) := by omega
                  have t2 : (q5 : Int) ≤ (q7 : Int) := by omega
                  have t3 : (q7 : Int) ≤ (k : Int) + 11 := by omega
                  have t4 : (0 : Int) ≤ (q8 : Int) := by omega
                  have t5 : (q8 : Int) ≤ (q10 : Int) := by omega
                  have t6 : (q10 : Int) ≤ (k : Int) + 11 := by omega
                  clear hq5 hq7 hq8 hq10
                  rcases x2 with x2 | ⟨x2, x0⟩
                  all_goals
                    go_enter Tryz.func13, Tryz.ntmps13
                    go_wp2_with fail
                    refine (HLM _).mono ?_
                    rintro e w1 ⟨rfl, hF1⟩
                    go_wp2_with fail
                    refine (HRN _).mono ?_
                    rintro e w2 ⟨⟨kk, rfl, hkl, hkq⟩, hw2⟩
                    rw [hw2]
                    clear hw2 HLM HRN
                    have hkk : kk = H.size := hkq.2 e1
                    subst hkk
                    clear hkq hkl
                    go_wp2_with fail
                    go_cut [7, 8] (fun a b wc => a = .int .i64 (m : Int) ∧ b = .int .i64 (c : Int) ∧ Fr noB w1 wc)
                    case first =>
                      go_region_held3 (fun _ => True) (exact trivial) (first
                        | (go_at_call_of 34 (s.extract q5 q7); with_reducible refine (N1 _).mono ?_; rintro e wa ⟨rfl, hFa⟩)
                        | (go_at_call_of 34 (s.extract q8 q10); with_reducible refine (N2 _).mono ?_; rintro e wb ⟨rfl, hFb⟩))
                      all_goals
                        go_wp2_with fail
                        go_meet
                        refine ⟨rfl, rfl, ?_⟩
                        repeat first | assumption | exact (Fr.refl _ _).drew | refine Fr.trans ?_ (by assumption)
                    obtain ⟨rfl, rfl, hF4⟩ := hcut
                    have G4 : Hid (Fr noB w wc) := hF1.trans hF4
                    clear hF4 N1 N2 hF1
                    go_wp2_with fail
                    refine (HNH _).mono ?_
                    rintro e w5 ⟨rfl, hF5⟩
                    have G5 : Hid (Fr noB w w5) := G4.out.trans hF5
                    clear hF5 HNH G4
                    by_cases cc : m ≤ 59 ∧ c ≤ 59
                    · have HA2 : Hid (ANS = ptW false (some (h * 3600 + (m * 60 + c)))) := by show _ = _; rw [HE3.out, if_pos cc]
                      obtain ⟨y1, y2⟩ := cc
                      obtain ⟨n, hn⟩ : ∃ n : Nat, h * 3600 + (m * 60 + c) = n := ⟨_, rfl⟩
                      have hnI : (h : Int) * 3600 + (m : Int) * 60 + (c : Int) = (n : Int) := by omega
                      have hnb : n < 144115188075855872 := by omega
                      rw [hn] at HA2
                      have hq := HDQQ.out n hnb
                      have hng : ∀ W, (Op.unary .neg (.float .f64 (dayQ n))).run Tryz.prog W = .ok (.float .f64 (Op.negFloat .f64 (dayQ n))) W := fun W => rfl
                      have HXX : Hid (∀ b, ptX b n = if b = true then Op.negFloat .f64 (dayQ n) else dayQ n) := fun _ => rfl
                      clear hn HE3 HDQQ
                      generalize dayQ n = DQ at *
                      have HA3 : Hid (ANS = some (false, n)) := by show _ = _; rw [HA2.out, ptW_some, if_neg (by simp)]
                      clear HA2
                      go_wp2_with fail
                      go_ret2
                      rw [HA3.out]
                      refine ⟨?_, G5.out⟩
                      show _ = Ending.returned (.tuple #[.float .f64 (ptX false n), .int .i64 0])
                      rw [HXX.out, if_neg (by simp)]
                      rfl
                    · have HA2 : Hid (ANS = none) := by show _ = _; rw [HE3.out, if_neg cc]; rfl
                      clear HE3 HDQQ
                      have c3 : 59 < m ∨ (m ≤ 59 ∧ 59 < c) := by omega
                      clear cc
                      rcases c3 with y1 | ⟨y1, y2⟩
                      all_goals
                        go_wp2_with fail
                        go_ret2
                        rw [HA2.out]
                        exact ⟨rfl, G5.out⟩
              · have HA2 : Hid (ANS = none) := by
                  show _ = _
                  rw [HE2, if_neg (fun h => by have := h.2.2.1; omega)]
                  rfl
                have x13 : decide ((13 : Int) < (k : Int) + 2) = true := decide_eq_true (by omega)
                clear HE2 HHD N1 N2
                go_enter Tryz.func13, Tryz.ntmps13
                go_wp2_with fail
                refine (HLM _).mono ?_
                rintro e w1 ⟨rfl, hF1⟩
                go_wp2_with fail
                refine (HRN _).mono ?_
                rintro e w2 ⟨⟨kk, rfl, hkl, hkq⟩, hw2⟩
                rw [hw2]
                clear hw2 HLM HRN
                have hkk : kk = H.size := hkq.2 e1
                subst hkk
                clear hkq hkl
                go_wp2_with fail
                go_ret2
                rw [HA2.out]
                exact ⟨rfl, hF1⟩
            · have HA2 : Hid (ANS = none) := by
                show _ = _
                rw [HE2, if_neg (fun h => e1 h.1)]
                rfl
              clear HE2 HHD N1 N2
              go_enter Tryz.func13, Tryz.ntmps13
              go_wp2_with fail
              refine (HLM _).mono ?_
              rintro e w1 ⟨rfl, hF1⟩
              go_wp2_with fail
              refine (HRN _).mono ?_
              rintro e w2 ⟨⟨kk, rfl, hkl, hkq⟩, hw2⟩
              rw [hw2]
              clear hw2 HLM HRN
              have hkk : ¬ kk = H.size := fun h => e1 (hkq.1 h)
              have hkk' : ¬ (kk : Int) = (k : Int) + 2 := by omega
              clear hkq
              go_wp2_with fail
              go_ret2
              rw [HA2.out]
              exact ⟨rfl, hF1⟩
        · have p2 : ((s.extract 0 2).toList == [80, 84]) = false := by rw [hpre]; simpa using c2
          have HA2 : Hid (ANS = none) := HNO.out (fun h => c2 h.1)
          clear HE HNO c2 hpre hend hlT c1
          go_enter Tryz.func13, Tryz.ntmps13
          go_wp2_with fail
          go_ret2
          rw [HA2.out]
          exact ⟨rfl, Fr.refl _ _⟩
#print axioms rparseTime_any
end Go.Proofs.YtfoclhpnlemmnaaGreatDoor
