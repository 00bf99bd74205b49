/- The document's digit, run, like, number: contracts. Texts cut at a sign; prefixes. -/
import Derived.Test.YtfoclhpnlemmnaaGreatDoorTHrs
import Derived.Test.YtfoclhpnlemmnaaGreatDoorTPad
import Derived.Lib.IndexLaws
import Derived.Shelf.Small.Wraps
import Derived.Shelf.Strings.Search2
namespace Go.Proofs.YtfoclhpnlemmnaaGreatDoor
open Go.RowKit Go.Shelf

set_option maxRecDepth 100000 in
theorem rdigit_any (c : UInt8) (w : World) : Calls Tryz.prog 58 #[.int .u8 (c.toNat : Int)] w fun e w' => e = .returned (.bool (dgB c)) ∧ w' = w := by
  have h256 : c.toNat < 256 := c.toNat_lt
  rw [← dgI_nat]
  generalize c.toNat = n at *
  go_enter Tryz.func58, Tryz.ntmps58
  go_wp2
  all_goals
    go_ret
    refine ⟨ret_bool ?_, rfl⟩
    unfold dgI
    rw [Bool.eq_iff_iff]
    simp
    try omega
set_option maxRecDepth 100000 in
theorem rnumber_any (s : ByteArray) (n : Int) (hl : s.size ≤ 18) (h : Lib.atoi s.data.toList = some n) (w : World) : Calls Tryz.prog 34 #[.string s] w fun e w' => e = .returned (.int .i64 n) ∧ Fr noB w w' := by
  have HA := atoiS_any s n hl h w
  clear h
  go_enter Tryz.func34, Tryz.ntmps34
  go_wp2_with (go_at_call 59; refine HA.mono ?_; rintro e w1 ⟨rfl, hF1⟩)
  go_ret
  exact ⟨rfl, hF1⟩
set_option maxRecDepth 100000 in
set_option maxHeartbeats 1000000 in
/-- From the beginning: how far the digits go; all that is asked of it is whether they go through. -/
theorem rrun_any (s : ByteArray) (hs : s.size ≤ 140737488355328) (w : World) : Calls Tryz.prog 38 #[.string s, .int .i64 0] w fun e w' => (∃ k : Nat, e = .returned (.int .i64 (k : Int)) ∧ k ≤ s.size ∧ (k = s.size ↔ s.data.toList.all dgB = true)) ∧ w' = w := by
  obtain ⟨ANS, hANS⟩ : ∃ A, s.data.toList.all dgB = A := ⟨_, rfl⟩
  have HANS : Hid (s.data.toList.all dgB = ANS) := hANS
  rw [hANS]
  clear hANS
  go_enter Tryz.func38, Tryz.ntmps38
  go_wp2_with fail
  go_loop [1] (fun iv => ∃ k : Nat, iv = .int .i64 (k : Int) ∧ k ≤ s.size ∧ Hid ((s.data.toList.drop k).all dgB = ANS)) (fun iv => s.size - (intOf iv).toNat)
  case atStart => exact ⟨0, rfl, Nat.zero_le _, HANS⟩
  case round =>
    obtain ⟨k, rfl, hk, HC⟩ := hrel
    by_cases hlt : k < s.size
    · have HD := rdigit_any (s[k]'hlt)
      have HC2 := HC.out
      rw [drop_at s k hlt, List.all_cons] at HC2
      cases hd : dgB (s[k]'hlt) with
      | true =>
        rw [hd] at HD HC2
        rw [Bool.true_and] at HC2
        have HC3 : Hid _ := HC2
        clear HC HC2 hd
        go_wp2_with (go_at_call 58; with_reducible refine (HD _).mono ?_; rintro e w1 ⟨rfl, rfl⟩)
        go_round
        case rel => exact ⟨k + 1, by go_num, by omega, HC3⟩
        case measure => simp [intOf]; omega
      | false =>
        rw [hd] at HD HC2
        rw [Bool.false_and] at HC2
        have HC3 : Hid (false = ANS) := HC2
        clear HC HC2 hd
        go_wp2_with (go_at_call 58; with_reducible refine (HD _).mono ?_; rintro e w1 ⟨rfl, rfl⟩)
        go_ret
        refine ⟨⟨k, rfl, hk, ?_⟩, rfl⟩
        rw [← HC3.out]
        simp
        omega
    · have HC2 := HC.out
      rw [List.drop_of_length_le (show s.data.toList.length ≤ k by simp; omega)] at HC2
      have HC3 : Hid (true = ANS) := HC2
      clear HC HC2
      go_wp2_with fail
      go_ret
      refine ⟨⟨k, rfl, hk, ?_⟩, rfl⟩
      rw [← HC3.out]
      simp
      omega
set_option maxRecDepth 100000 in
set_option maxHeartbeats 2000000 in
theorem rlike_any (s p : ByteArray) (hs : p.size ≤ 1000) (w : World) : Calls Tryz.prog 33 #[.string s, .string p] w fun e w' => e = .returned (.bool (likeB s.data.toList p.data.toList)) ∧ Fr noB w w' := by
  by_cases hz : s.size = p.size
  · obtain ⟨ANS, hANS⟩ : ∃ A, likeB s.data.toList p.data.toList = A := ⟨_, rfl⟩
    have HANS : Hid (likeB s.data.toList p.data.toList = ANS) := hANS
    rw [hANS]
    clear hANS
    have hz' : (s.size : Int) = (p.size : Int) := by omega
    go_enter Tryz.func33, Tryz.ntmps33
    go_wp2_with fail
    go_loopw [5] (fun iv wr => ∃ (k : Nat), iv = .int .i64 (k : Int) ∧ Fr noB w wr ∧ k ≤ s.size ∧ Hid (likeB (s.data.toList.drop k) (p.data.toList.drop k) = ANS)) (fun iv _ => s.size - (intOf iv).toNat)
    case atStart => exact ⟨0, rfl, Fr.refl _ _, Nat.zero_le _, HANS⟩
    case round =>
      obtain ⟨k, rfl, hF, hk, HC⟩ := hrel
      by_cases hlt : k < s.size
      · have hlp : k < p.size := by omega
        have HD := rdigit_any (s[k]'hlt)
        have HC2 := HC.out
        rw [drop_at s k hlt, drop_at p k hlp, likeB] at HC2
        have c1 : (0 : Int) ≤ (k : Int) := by omega
        have c2 : (k : Int) < (s.size : Int) := by omega
        have c3 : (k : Int) < (p.size : Int) := by omega
        by_cases h48 : (p[k]'hlp) = 48
        · have e1 : (((p[k]'hlp).toNat : Int) == 48) = true := by rw [h48]; rfl
          have e2 : (((p[k]'hlp).toNat : Int) != 48) = false := by rw [h48]; rfl
          rw [if_pos h48] at HC2
          cases hd : dgB (s[k]'hlt) with
          | true =>
            rw [hd] at HD HC2
            rw [Bool.true_and] at HC2
            have HC3 : Hid _ := HC2
            clear HC HC2 hd h48
            go_wp2_with fail
            go_quiet ((go_at_call 58; exact Calls.quiet_of_same (HD _)))
            go_wp2_with fail
            go_roundw
            case rel => exact ⟨k + 1, by go_num, hF.drewN nq, by omega, HC3⟩
            case measure => simp [intOf]; omega
          | false =>
            rw [hd] at HD HC2
            rw [Bool.false_and] at HC2
            subst HC2
            clear HC hd h48 HANS
            go_wp2_with fail
            go_quiet ((go_at_call 58; exact Calls.quiet_of_same (HD _)))
            go_wp2_with fail
            go_ret
            exact ⟨rfl, hF.drewN nq⟩
        · have hn48 : ¬ (p[k]'hlp).toNat = 48 := fun e => h48 (UInt8.toNat_inj.1 (by rw [e]; rfl))
          have e1 : (((p[k]'hlp).toNat : Int) == 48) = false := by rw [beq_eq_false_iff_ne]; omega
          have e2 : (((p[k]'hlp).toNat : Int) != 48) = true := by rw [bne_iff_ne]; omega
          rw [if_neg h48] at HC2
          by_cases hsp : (s[k]'hlt) = (p[k]'hlp)
          · have e3 : (((s[k]'hlt).toNat : Int) != ((p[k]'hlp).toNat : Int)) = false := by rw [hsp]; simp
            rw [hsp, beq_self_eq_true, Bool.true_and] at HC2
            have HC3 : Hid _ := HC2
            clear HC HC2 h48 hsp HD
            go_wp2_with fail
            go_quiet (fail)
            go_wp2_with fail
            go_roundw
            case rel => exact ⟨k + 1, by go_num, hF.drewN nq, by omega, HC3⟩
            case measure => simp [intOf]; omega
          · have hspn : ¬ (s[k]'hlt).toNat = (p[k]'hlp).toNat := fun e => hsp (UInt8.toNat_inj.1 e)
            have e3 : (((s[k]'hlt).toNat : Int) != ((p[k]'hlp).toNat : Int)) = true := by rw [bne_iff_ne]; omega
            rw [show ((s[k]'hlt) == (p[k]'hlp)) = false by simpa using hsp, Bool.false_and] at HC2
            subst HC2
            clear HC h48 hsp HD HANS
            go_wp2_with fail
            go_quiet (fail)
            go_wp2_with fail
            go_ret
            exact ⟨rfl, hF.drewN nq⟩
      · have HC2 := HC.out
        rw [List.drop_of_length_le (show s.data.toList.length ≤ k by simp; omega), List.drop_of_length_le (show p.data.toList.length ≤ k by simp; omega)] at HC2
        have : true = ANS := HC2
        subst this
        clear HC HC2 HANS
        go_wp2_with fail
        go_ret
        exact ⟨rfl, hF⟩
  · have hN : likeB s.data.toList p.data.toList = false := by
      cases h : likeB s.data.toList p.data.toList with
      | false => rfl
      | true => exact absurd (like_length _ _ h) (by simpa using hz)
    rw [hN]
    have hz' : ¬ (s.size : Int) = (p.size : Int) := by omega
    clear hN
    go_enter Tryz.func33, Tryz.ntmps33
    go_wp2_with fail
    go_ret
    exact ⟨rfl, Fr.refl _ _⟩
theorem index_one (s : ByteArray) (c : UInt8) (w : World) : Calls Tryz.prog 77 #[.string s, .string ⟨#[c]⟩] w fun e w' => e = .returned (.int .i64 (Lib.indexByte s.data.toList c)) ∧ w' = w :=
  Any.stringslite_Index_one Tryz.laysLaysn219 s c w
theorem idx_cases (s : ByteArray) (c : UInt8) : (Lib.indexByte s.data.toList c = -1 ∧ c ∉ s.data.toList) ∨ ∃ i : Nat, Lib.indexByte s.data.toList c = (i : Int) ∧ ∃ h : i < s.size, (s[i]'h) = c ∧ c ∉ s.data.toList.take i := by
  have hge := Lib.indexByte_ge s.data.toList c
  by_cases h : Lib.indexByte s.data.toList c = -1
  · left
    refine ⟨h, fun hm => ?_⟩
    obtain ⟨q, hq, e⟩ := List.getElem_of_mem hm
    exact Lib.indexByte_none h q (by rw [List.getElem?_eq_getElem hq, e])
  · right
    obtain ⟨i, hi⟩ : ∃ i : Nat, Lib.indexByte s.data.toList c = (i : Int) := ⟨(Lib.indexByte s.data.toList c).toNat, by omega⟩
    obtain ⟨h1, h2⟩ := Lib.indexByte_some hi
    have hlt : i < s.size := by
      rcases Nat.lt_or_ge i s.size with h' | h'
      · exact h'
      · rw [List.getElem?_eq_none (by simpa using h')] at h1; cases h1
    refine ⟨i, hi, hlt, ?_, fun hm => ?_⟩
    · have h3 := drop_at s i hlt
      have h4 : s.data.toList[i]? = some (s[i]'hlt) := by
        have := congrArg (·[0]?) h3
        simpa using this
      rw [h4] at h1
      exact Option.some.inj h1
    · obtain ⟨q, hq, e⟩ := List.getElem_of_mem hm
      have hq' : q < i := by simp at hq; omega
      have : s.data.toList[q]? = some c := by
        rw [List.getElem_take] at e
        rw [List.getElem?_eq_getElem (by simp at hq ⊢; omega), e]
      exact h2 q hq' this
set_option maxHeartbeats 2000000 in
set_option maxRecDepth 100000 in
/-- A text cut at the first such sign. -/
theorem cutIn_any (s : ByteArray) (c : UInt8) (w : World) (hs : s.size ≤ 140737488355328) : Calls Tryz.prog 55 #[.string s, .string ⟨#[c]⟩] w fun e w' => (∃ a b : ByteArray, ∃ f : Bool, e = .returned (.tuple #[.string a, .string b, .bool f]) ∧ c ∉ a.data.toList ∧ ((f = true ∧ s.data.toList = a.data.toList ++ c :: b.data.toList) ∨ (f = false ∧ s = a ∧ b = ⟨#[]⟩))) ∧ Fr noB w w' := by
  have HI := index_one s c w
  rcases idx_cases s c with ⟨h, hm⟩ | ⟨i, h, hi, he, hm⟩
  · rw [h] at HI
    clear h
    go_enter Tryz.func55, Tryz.ntmps55
    go_wp2_with (go_at_call 77; refine HI.mono ?_; rintro e w1 ⟨rfl, rfl⟩)
    go_ret3
    exact ⟨⟨s, ⟨#[]⟩, false, rfl, hm, Or.inr ⟨rfl, rfl, rfl⟩⟩, Fr.refl _ _⟩
  · rw [h] at HI
    have HM : Hid (c ∉ s.data.toList.take i) := hm
    have HE : Hid ((s[i]'hi) = c) := he
    clear h hm he
    have c1 : (0 : Int) ≤ (i : Int) := by omega
    have c2 : (i : Int) ≤ (s.size : Int) := by omega
    have c3 : (0 : Int) ≤ (i : Int) + 1 := by omega
    have c4 : (i : Int) + 1 ≤ (s.size : Int) := by omega
    go_enter Tryz.func55, Tryz.ntmps55
    go_wp2_with (go_at_call 77; refine HI.mono ?_; rintro e w1 ⟨rfl, rfl⟩)
    go_region
    go_wp2
    go_ret3
    have e1 : (s.extract 0 i).data.toList = s.data.toList.take i := by simp [ByteArray.data_extract]
    have e2 : (s.extract (i + 1) s.size).data.toList = s.data.toList.drop (i + 1) := by simp [ByteArray.data_extract]; rw [List.take_of_length_le (by simp)]
    refine ⟨⟨s.extract 0 i, s.extract (i + 1) s.size, true, rfl, by rw [e1]; exact HM.out, Or.inl ⟨rfl, ?_⟩⟩, (Fr.refl _ _).drewN 1⟩
    rw [e1, e2]
    have := drop_at s i hi
    rw [HE.out] at this
    rw [← this, List.take_append_drop]
set_option maxRecDepth 100000 in
theorem cut_any (s : ByteArray) (c : UInt8) (w : World) (hs : s.size ≤ 140737488355328) : Calls Tryz.prog 29 #[.string s, .string ⟨#[c]⟩] w fun e w' => (∃ a b : ByteArray, ∃ f : Bool, e = .returned (.tuple #[.string a, .string b, .bool f]) ∧ c ∉ a.data.toList ∧ ((f = true ∧ s.data.toList = a.data.toList ++ c :: b.data.toList) ∨ (f = false ∧ s = a ∧ b = ⟨#[]⟩))) ∧ Fr noB w w' := by
  have HI := cutIn_any s c w hs
  go_enter Tryz.func29, Tryz.ntmps29
  go_wp2_with fail
  refine HI.mono ?_
  rintro e w1 ⟨⟨a, b, f, rfl, h⟩, hF⟩
  have HH : Hid _ := h
  clear h
  go_wp2_with fail
  go_ret3
  exact ⟨⟨a, b, f, rfl, HH.out⟩, hF⟩
theorem cutPrefix_any (s p : ByteArray) (w : World) : Calls Tryz.prog 36 #[.string s, .string p] w fun e w' => e = .returned (.tuple #[.string (baL (Lib.trimPrefix s.data.toList p.data.toList)), .bool (Lib.hasPrefix s.data.toList p.data.toList)]) ∧ w' = w :=
  Any.strings_CutPrefix Tryz.laysLaysn103 s p w
#print axioms rlike_any
#print axioms cut_any
#print axioms cutPrefix_any
end Go.Proofs.YtfoclhpnlemmnaaGreatDoor
