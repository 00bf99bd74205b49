/- The document's Name, at every text. -/
import Derived.Test.YtlhikoomghbnjaaGreatDoorZWelW
import Derived.Test.YtlhikoomghbnjaaGreatDoorZPrt
namespace Go.Proofs.YtlhikoomghbnjaaGreatDoor
open Go.RowKit
attribute [local go_sem ↓] Go.wp_at_zero Go.wp_at_succ

theorem nameF_is (s : ByteArray) (h1 : 1 ≤ s.size) (h2 : s.size ≤ 1024) : nameF s = (scanP s 0 && restP s 0) := by
  unfold nameF scanP restP
  rw [decide_eq_true (⟨h1, h2⟩ : 1 ≤ s.size ∧ s.size ≤ 1024)]
  have e : s.extract 0 s.size = s := by
    apply ByteArray.ext
    simp
  rw [e, show decide (0 < 0) = false from rfl, chk_whole s h1]
  simp [Bool.and_assoc]
set_option maxRecDepth 100000 in
set_option maxHeartbeats 4000000 in
theorem rname_any (s : ByteArray) (w : World) (hs : s.size ≤ 140737488355328) : Calls Tryz.prog 10 #[.string s] w fun e w' => e = .returned (.bool (nameF s)) ∧ Fr noB w w' := by
  by_cases h1 : s.size < 1
  · have e : nameF s = false := by unfold nameF; rw [decide_eq_false (by omega)]; simp
    rw [e]
    go_enter Tryz.func10, Tryz.ntmps10
    go_wp2_with fail
    go_ret
    exact ⟨rfl, Fr.refl _ _⟩
  by_cases h2 : 1024 < s.size
  · have e : nameF s = false := by unfold nameF; rw [decide_eq_false (by omega)]; simp
    rw [e]
    go_enter Tryz.func10, Tryz.ntmps10
    go_wp2_with fail
    go_ret
    exact ⟨rfl, Fr.refl _ _⟩
  have HN := nameF_is s (by omega) (by omega)
  obtain ⟨T, hT⟩ : ∃ T, nameF s = T := ⟨_, rfl⟩
  rw [hT] at HN ⊢
  clear hT
  obtain ⟨R1, hR1⟩ : ∃ R, scanP s 0 = R := ⟨_, rfl⟩
  have HS : Hid (scanP s 0 = R1) := hR1
  have HT : Hid (T = (R1 && restP s 0)) := by show _ = _; rw [HN, hR1]
  clear HN hR1
  have g1 : decide ((s.size : Int) < 1) = false := by simp; omega
  have g2 : decide ((1024 : Int) < (s.size : Int)) = false := by simp; omega
  have hsz : (s.size : Int) ≤ 1024 := by omega
  go_enter Tryz.func10, Tryz.ntmps10
  go_wp2_with fail
  go_loopw [3] (fun i wr => ∃ p : Nat, p ≤ s.size ∧ i = .int .i64 (p : Int) ∧ Fr noB w wr ∧ Hid (scanP s p = R1)) (fun i _ => s.size - (intOf i).toNat)
  case atStart => exact ⟨0, Nat.zero_le _, rfl, Fr.refl _ _, HS⟩
  case round =>
    clear HS
    obtain ⟨p, hp, rfl, hF, HP⟩ := hrel
    by_cases hlt : p < s.size
    · have C1 := well_any s p wr hlt (by omega)
      have hbk := byN_get s p hlt
      have hcl := byN_lt s p
      have HB : Hid (wellF s p = 0 → T = false) := fun h => by
        have := HP.out
        rw [scanP_bad s p hlt h] at this
        rw [HT.out, ← this]
        rfl
      have HC : Hid (nbOK (byN s p) = false → T = false) := fun h => by
        have := HP.out
        rw [scanP_not s p hlt h] at this
        rw [HT.out, ← this]
        rfl
      have HD : Hid (wellF s p ≠ 0 → nbOK (byN s p) = true → p + wellF s p ≤ s.size ∧ scanP s (p + wellF s p) = R1) := fun h hn => ⟨(wellF_cont s p hlt h).1, by rw [← scanP_step s p hlt h hn]; exact HP.out⟩
      generalize wellF s p = n at *
      generalize byN s p = c at *
      have hpI : (p : Int) < (s.size : Int) := by omega
      by_cases hn0 : n = 0
      · have HX : Hid (T = false) := HB.out hn0
        subst hn0
        clear HB HC HD HP
        go_wp2_with (go_at_call 22; refine C1.mono ?_; rintro e w1 ⟨rfl, hF1⟩)
        go_ret
        rw [HX.out]
        exact ⟨rfl, hF.trans hF1⟩
      · have hn0I : ((n : Int) == 0) = false := by simp; omega
        cases hok : nbOK c with
        | false =>
          have HX : Hid (T = false) := HC.out hok
          have hbad : c < 32 ∨ c = 127 ∨ c = 92 ∨ c = 58 := by
            apply Classical.byContradiction
            intro hh
            have : nbOK c = true := by unfold nbOK; simp; omega
            rw [this] at hok
            cases hok
          clear HB HC HD HP hok
          rcases hbad with hbad | rfl | rfl | rfl
          all_goals
            go_wp2_with (go_at_call 22; refine C1.mono ?_; rintro e w1 ⟨rfl, hF1⟩)
            go_ret
            rw [HX.out]
            exact ⟨rfl, hF.trans hF1⟩
        | true =>
          obtain ⟨HE1, HE2⟩ := HD.out hn0 hok
          have HE : Hid (scanP s (p + n) = R1) := HE2
          have hgood : 32 ≤ c ∧ c ≠ 127 ∧ c ≠ 92 ∧ c ≠ 58 := by
            unfold nbOK at hok
            simp at hok
            omega
          obtain ⟨q1, q2, q3, q4⟩ := hgood
          have z1 : decide ((c : Int) < 32) = false := by simp; omega
          have z2 : ((c : Int) == 127) = false := by simp; omega
          have z3 : ((c : Int) == 92) = false := by simp; omega
          have z4 : ((c : Int) == 58) = false := by simp; omega
          clear HB HC HD HP HE2 hok
          go_wp2_with (go_at_call 22; refine C1.mono ?_; rintro e w1 ⟨rfl, hF1⟩)
          go_roundw
          case rel => exact ⟨p + n, HE1, by go_num, hF.trans hF1, HE⟩
          case measure => simp [intOf] <;> omega
    · obtain rfl : p = s.size := by omega
      have HR : Hid (T = restP s 0) := by
        have := HP.out
        rw [scanP_end s _ (Nat.le_refl _)] at this
        show T = _
        rw [HT.out, ← this]
        rfl
      clear HP HT hlt
      generalize hwx : wr = wx at *
      clear hwx
      have HR2 : Hid (restP s 0 = T) := HR.out.symm
      clear HR
      go_wp2_with fail
      go_loopw [5, 6] (fun fv iv w2 => w2 = wx ∧ ∃ f i : Nat, fv = .int .i64 (f : Int) ∧ iv = .int .i64 (i : Int) ∧ ((i ≤ s.size ∧ f ≤ i ∧ Hid (∀ k, f ≤ k → k < i → byN s k ≠ 47) ∧ Hid (restP s f = T)) ∨ (i = s.size + 1 ∧ Hid (T = true)))) (fun _ iv _ => s.size + 1 - (intOf iv).toNat)
      case atStart => exact ⟨rfl, 0, 0, rfl, rfl, Or.inl ⟨Nat.zero_le _, Nat.le_refl _, (fun k h1 h2 => by omega), HR2⟩⟩
      case round =>
        clear HR2
        obtain ⟨rfl, f, i, rfl, rfl, hrel⟩ := hrel
        rcases hrel with ⟨hi, hfi, HK, HP⟩ | ⟨rfl, HX⟩
        · have hfiI : (f : Int) ≤ (i : Int) := by omega
          by_cases hlt : i < s.size
          · have hbk := byN_get s i hlt
            have hltI : (i : Int) < (s.size : Int) := by omega
            have hle : (i : Int) ≤ (s.size : Int) := by omega
            by_cases h47 : byN s i = 47
            · have HQ := rest_part s f i hfi hlt h47 HK.out
              rw [HP.out] at HQ
              rw [h47] at hbk
              obtain ⟨pt, hpt⟩ : ∃ pt, s.extract f i = pt := ⟨_, rfl⟩
              rw [hpt] at HQ
              have hne : decide ((i : Int) = (s.size : Int)) = false := by simp; omega
              have hne2 : ((i : Int) == (s.size : Int)) = false := by simp; omega
              have HQ2 : Hid (T = (!(pt.toList == [] || (pt.toList == [46] || pt.toList == [46, 46])) && restP s (i + 1))) := HQ
              clear HQ HK HP
              cases e1 : (pt.toList == []) with
              | true =>
                have HX : Hid (T = false) := by show T = _; rw [HQ2.out, e1]; rfl
                clear HQ2
                go_wp2_with fail
                go_ret
                rw [HX.out]
                exact ⟨rfl, hF⟩
              | false =>
                cases e2 : (pt.toList == [46]) with
                | true =>
                  have HX : Hid (T = false) := by show T = _; rw [HQ2.out, e1, e2]; rfl
                  clear HQ2
                  go_wp2_with fail
                  go_ret
                  rw [HX.out]
                  exact ⟨rfl, hF⟩
                | false =>
                  cases e3 : (pt.toList == [46, 46]) with
                  | true =>
                    have HX : Hid (T = false) := by show T = _; rw [HQ2.out, e1, e2, e3]; rfl
                    clear HQ2
                    go_wp2_with fail
                    go_ret
                    rw [HX.out]
                    exact ⟨rfl, hF⟩
                  | false =>
                    have HX : Hid (restP s (i + 1) = T) := by show _ = T; rw [HQ2.out, e1, e2, e3]; rfl
                    clear HQ2
                    go_wp2_with fail
                    go_roundw
                    case rel => exact ⟨by first | rfl | trivial, i + 1, i + 1, by go_num, by go_num, Or.inl ⟨by omega, Nat.le_refl _, (fun k h1 h2 => by omega), HX⟩⟩
                    case measure => simp [intOf] <;> omega
            · have HK2 : Hid (∀ k, f ≤ k → k < i + 1 → byN s k ≠ 47) := fun k h1 h2 => by
                rcases Nat.lt_or_ge k i with h | h
                · exact HK.out k h1 h
                · obtain rfl : k = i := by omega
                  exact h47
              have hn47 : ((byN s i : Int) != 47) = true := by simp; omega
              have hn47' : ((byN s i : Int) == 47) = false := by simp; omega
              generalize byN s i = c at *
              clear HK
              go_wp2_with fail
              go_roundw
              case rel => exact ⟨by first | rfl | trivial, f, i + 1, by go_num, by go_num, Or.inl ⟨by omega, by omega, HK2, HP⟩⟩
              case measure => simp [intOf] <;> omega
          · obtain rfl : i = s.size := by omega
            have HQ := rest_last s f hfi (fun k h1 h2 => HK.out k h1 h2)
            rw [HP.out] at HQ
            obtain ⟨pt, hpt⟩ : ∃ pt, s.extract f s.size = pt := ⟨_, rfl⟩
            rw [hpt] at HQ
            have HQ2 : Hid (T = !((pt.toList == [] && !decide (0 < f)) || (pt.toList == [46] || pt.toList == [46, 46]))) := HQ
            clear HQ HK HP
            cases e2 : (pt.toList == [46]) with
            | true =>
              have e1 : (pt.toList == []) = false := by rw [eq_of_beq e2]; rfl
              have HX : Hid (T = false) := by show T = _; rw [HQ2.out, e1, e2]; rfl
              clear HQ2
              go_wp2_with fail
              go_ret
              rw [HX.out]
              exact ⟨rfl, hF⟩
            | false =>
              cases e3 : (pt.toList == [46, 46]) with
              | true =>
                have e1 : (pt.toList == []) = false := by rw [eq_of_beq e3]; rfl
                have HX : Hid (T = false) := by show T = _; rw [HQ2.out, e1, e2, e3]; rfl
                clear HQ2
                go_wp2_with fail
                go_ret
                rw [HX.out]
                exact ⟨rfl, hF⟩
              | false =>
                cases e1 : (pt.toList == []) with
                | false =>
                  have HX : Hid (T = true) := by show T = _; rw [HQ2.out, e1, e2, e3]; rfl
                  clear HQ2
                  go_wp2_with fail
                  go_roundw
                  case rel => exact ⟨by first | rfl | trivial, s.size + 1, s.size + 1, by go_num, by go_num, Or.inr ⟨rfl, HX⟩⟩
                  case measure => simp [intOf] <;> omega
                | true =>
                  by_cases hf0 : 0 < f
                  · have HX : Hid (T = true) := by show T = _; rw [HQ2.out, e1, e2, e3, decide_eq_true hf0]; rfl
                    have hf0I : (0 : Int) < (f : Int) := by omega
                    clear HQ2
                    go_wp2_with fail
                    go_roundw
                    case rel => exact ⟨by first | rfl | trivial, s.size + 1, s.size + 1, by go_num, by go_num, Or.inr ⟨rfl, HX⟩⟩
                    case measure => simp [intOf] <;> omega
                  · have HX : Hid (T = false) := by show T = _; rw [HQ2.out, e1, e2, e3, decide_eq_false hf0]; rfl
                    obtain rfl : f = 0 := by omega
                    clear HQ2
                    go_wp2_with fail
                    go_ret
                    rw [HX.out]
                    exact ⟨rfl, hF⟩
        · go_wp2_with fail
          go_ret
          rw [HX.out]
          exact ⟨rfl, hF⟩
#print axioms rname_any
end Go.Proofs.YtlhikoomghbnjaaGreatDoor
