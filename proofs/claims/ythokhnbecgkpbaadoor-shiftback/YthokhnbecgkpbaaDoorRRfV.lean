/- The document's Valid. -/
import Derived.Test.YthokhnbecgkpbaaDoorRTab
import Derived.Test.YthokhnbecgkpbaaDoorCRef
namespace Go.Proofs.YthokhnbecgkpbaaDoor
open Go.RowKit Go.Shelf

theorem ext_get (s : ByteArray) (a b i : Nat) (hb : b ≤ s.size) (h : a + i < b) : (s.extract a b).get! i = s.get! (a + i) := UInt8.toNat_inj.1 (ext_byt s a b i hb h)
theorem tail_size (s : ByteArray) (a : Nat) : (s.extract a s.size).size = s.size - a := by simp
theorem tail_get (s : ByteArray) (a i : Nat) : (s.extract a s.size).get! i = s.get! (a + i) := by
  by_cases h : a + i < s.size
  · exact ext_get s a s.size i (Nat.le_refl _) h
  · have h1 : (s.extract a s.size).get! i = default := by
      show (s.extract a s.size).data[i]! = _
      exact getElem!_neg _ _ (show ¬ i < (s.extract a s.size).size by rw [tail_size]; omega)
    have h2 : s.get! (a + i) = default := by
      show s.data[a + i]! = _
      exact getElem!_neg _ _ (show ¬ a + i < s.size from h)
    rw [h1, h2]
theorem tail_decode (s : ByteArray) (a p : Nat) : Utf8.decode (s.extract a s.size) p = Utf8.decode s (a + p) := by
  rw [Lib.decode_at, Lib.decode_at, tail_size, tail_get, tail_get, tail_get, tail_get]
  rw [show s.size - a - p = s.size - (a + p) by omega, show a + (p + 1) = a + p + 1 by omega, show a + (p + 2) = a + p + 2 by omega, show a + (p + 3) = a + p + 3 by omega]
theorem dec_any (s : ByteArray) (p : Nat) (hp : p < s.size) (w : World) (hT : Tabs w) :
    Calls Tryd.prog 57 #[.string (s.extract p s.size)] w fun e w' => e = .returned (.tuple #[.int .i32 ((Utf8.decode s p).1 : Int), .int .i64 ((Utf8.decode s p).2 : Int)]) ∧ Fr noB w w' := by
  have e : Lib.decodeGo (s.extract p s.size) = Utf8.decode s p := by
    unfold Lib.decodeGo
    rw [if_neg (by rw [tail_size]; omega), tail_decode, Nat.add_zero]
  refine (show Calls Tryd.prog 57 _ w _ from Any.utf8_DecodeRuneInString Tryd.laysLaysn197 (s.extract p s.size) w hT).mono ?_
  rintro e' w' ⟨h1, h2⟩
  rw [e] at h1
  exact ⟨h1, Fr.ofBelow h2⟩

set_option maxRecDepth 100000 in
set_option maxHeartbeats 2000000 in
theorem rvalid_any (s : ByteArray) (w : World) (hs : s.size ≤ 140737488355328) (hT : Tabs w) : Calls Tryd.prog 47 #[.string s] w fun e w' => e = .returned (.tuple #[.int .i64 ((validF s).1 : Int), .bool (validF s).2]) ∧ Fr noB w w' := by
  have HT : Hid (Tabs w) := hT
  clear hT
  go_enter Tryd.func47, Tryd.ntmps47
  go_wp2
  go_loopw [4] (fun iv wr => ∃ pos : Nat, iv = .int .i64 (pos : Int) ∧ Fr noB w wr ∧ pos ≤ s.size ∧ Hid (validL (runs s pos) = validF s)) (fun iv _ => s.size - (intOf iv).toNat)
  case atStart => exact ⟨0, rfl, Fr.refl _ _, Nat.zero_le _, rfl⟩
  case round =>
    obtain ⟨pos, rfl, hF, hps, HC⟩ := hrel
    by_cases hp : pos < s.size
    · have HD := dec_any s pos hp wr (HT.out.keep hF)
      have hwd := width_pos s pos hp
      have hwf := width_fits s pos hp
      have HC2 := HC.out
      rw [runs_step s pos hp, validL] at HC2
      simp only at HC2
      obtain ⟨⟨r, n⟩, hd⟩ : ∃ d, Utf8.decode s pos = d := ⟨_, rfl⟩
      rw [hd] at HD hwd hwf HC2
      simp only at HD hwd hwf HC2
      have HCH := rchar_any (r : Int)
      clear hd HC
      by_cases hbad : r = 65533 ∧ n = 1
      · obtain ⟨rfl, rfl⟩ := hbad
        have HX : Hid (validF s = (pos, false)) := by show validF s = _; rw [← HC2]; rfl
        clear HC2
        go_wp2_with (go_at_call 57; refine HD.mono ?_; rintro e w1 ⟨rfl, hF1⟩)
        go_ret2
        rw [HX.out]
        exact ⟨rfl, hF.trans hF1⟩
      · cases hc : charF (r : Int) with
        | false =>
          have ho : okR r n = false := by unfold okR; rw [hc]; rfl
          rw [ho] at HC2
          have HX : Hid (validF s = (pos, false)) := HC2.symm
          rw [hc] at HCH
          clear HC2 ho hc
          by_cases hr : r = 65533
          · subst hr
            have hn : ¬ (n : Int) = 1 := by omega
            go_wp2_with (first | (go_at_call 57; refine HD.mono ?_; rintro e w1 ⟨rfl, hF1⟩) | (go_at_call 58; refine (HCH _).mono ?_; rintro e w2 ⟨rfl, hF2⟩))
            go_ret2
            rw [HX.out]
            exact ⟨rfl, (hF.trans hF1).trans hF2⟩
          · have hr' : ¬ (r : Int) = 65533 := by omega
            go_wp2_with (first | (go_at_call 57; refine HD.mono ?_; rintro e w1 ⟨rfl, hF1⟩) | (go_at_call 58; refine (HCH _).mono ?_; rintro e w2 ⟨rfl, hF2⟩))
            go_ret2
            rw [HX.out]
            exact ⟨rfl, (hF.trans hF1).trans hF2⟩
        | true =>
          have ho : okR r n = true := by
            unfold okR
            rw [hc]
            by_cases hr : r = 65533
            · simp [hr, show ¬ n = 1 from fun h => hbad ⟨hr, h⟩]
            · simp [hr]
          rw [ho] at HC2
          have HX : Hid (validL (runs s (pos + n)) = validF s) := HC2
          rw [hc] at HCH
          clear HC2 ho hc
          by_cases hr : r = 65533
          · subst hr
            have hn : ¬ (n : Int) = 1 := by omega
            go_wp2_with (first | (go_at_call 57; refine HD.mono ?_; rintro e w1 ⟨rfl, hF1⟩) | (go_at_call 58; refine (HCH _).mono ?_; rintro e w2 ⟨rfl, hF2⟩))
            go_roundw
            case rel => exact ⟨pos + n, by go_num, (hF.trans hF1).trans hF2, hwf, HX⟩
            case measure => simp [intOf]; omega
          · have hr' : ¬ (r : Int) = 65533 := by omega
            go_wp2_with (first | (go_at_call 57; refine HD.mono ?_; rintro e w1 ⟨rfl, hF1⟩) | (go_at_call 58; refine (HCH _).mono ?_; rintro e w2 ⟨rfl, hF2⟩))
            go_roundw
            case rel => exact ⟨pos + n, by go_num, (hF.trans hF1).trans hF2, hwf, HX⟩
            case measure => simp [intOf]; omega
    · have HX : Hid (validF s = (0, true)) := by
        have := HC.out
        rw [runs_end s pos hp] at this
        exact this.symm
      clear HC
      go_wp2
      go_ret2
      rw [HX.out]
      exact ⟨rfl, hF⟩

#print axioms rvalid_any
end Go.Proofs.YthokhnbecgkpbaaDoor
