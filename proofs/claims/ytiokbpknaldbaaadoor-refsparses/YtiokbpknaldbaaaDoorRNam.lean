/- ParseColumn, Column, isWord, SheetName, Quote: the program's contracts. -/
import Derived.Test.YtiokbpknaldbaaaDoorRRun
import Derived.Test.YtiokbpknaldbaaaDoorRPrs
namespace Go.Proofs.YtiokbpknaldbaaaDoor
open Go.RowKit Go.Shelf

set_option maxRecDepth 100000 in
set_option maxHeartbeats 1000000 in
theorem column_any (n : Int) (w : World) : Calls Tryd.prog 22 #[.int .i64 n] w fun e w' => e = .returned (if 0 ≤ n ∧ n < 1024 then .tuple #[.string (baL (ltrL n.toNat)), .int .i64 0] else .tuple #[.string ⟨#[]⟩, .int .i64 110]) ∧ w' = w := by
  have H1 := isCol_any n
  by_cases h : 0 ≤ n ∧ n < 1024
  · rw [if_pos h]
    rw [decide_eq_true h] at H1
    obtain ⟨m, rfl⟩ : ∃ m : Nat, n = m := ⟨n.toNat, by omega⟩
    have H2 := letters_any m (by omega)
    have e : ((m : Int)).toNat = m := by simp
    rw [e]
    clear h e
    generalize baL (ltrL m) = L at *
    go_enter Tryd.func22, Tryd.ntmps22
    go_wp2_with (first | (go_at_call 39; refine (H1 _).mono ?_; rintro e w1 ⟨rfl, rfl⟩) | (go_at_call 40; refine (H2 _).mono ?_; rintro e w1 ⟨rfl, rfl⟩))
    go_ret2
    exact ⟨rfl, rfl⟩
  · rw [if_neg h]
    rw [decide_eq_false h] at H1
    clear h
    go_enter Tryd.func22, Tryd.ntmps22
    go_wp2_with (go_at_call 39; refine (H1 _).mono ?_; rintro e w1 ⟨rfl, rfl⟩)
    go_ret2
    exact ⟨rfl, rfl⟩

/-- What ParseColumn answers. -/
def colV (o : Option Nat) : Value := match o with
  | some n => .tuple #[.int .i64 (n : Int), .int .i64 0]
  | none => .tuple #[.int .i64 0, .int .i64 110]
set_option maxRecDepth 100000 in
set_option maxHeartbeats 4000000 in
theorem parseCol_any (s : ByteArray) (w : World) : Calls Tryd.prog 54 #[.string s] w fun e w' => e = .returned (colV (colF s)) ∧ Fr noB w w' := by
  go_enter Tryd.func54, Tryd.ntmps54
  go_wp2
  go_loopw [4] (fun n w' => ∃ (pos acc : Nat), w' = w.iter s pos ∧ n = .int .i64 acc ∧ acc ≤ 1024 ∧ pos ≤ s.size ∧ Hid (colA s (s.size - pos) pos acc = colF s)) (fun _ w' => s.size - w'.iterPos w.heap.size)
  case atStart => exact ⟨0, 0, rfl, rfl, by omega, Nat.zero_le _, rfl⟩
  case round =>
    obtain ⟨pos, acc, rfl, rfl, ha, hps, HC⟩ := hrel
    by_cases hp : pos < s.size
    · have hnx : ∀ ty, (Instr.next (.pointer (some ⟨w.heap.size, 0, none⟩)) true ty).run Tryd.prog (w.iter s pos) = _ := fun ty => run_next_any w s pos ty hp
      have hwd := width_pos s pos hp
      have HC2 := HC.out
      obtain ⟨f, hf⟩ : ∃ f, s.size - pos = f + 1 := ⟨s.size - pos - 1, by omega⟩
      have hf2 : s.size - (pos + 1) = f := by omega
      rw [hf, colA] at HC2
      have hdb := decode_bytes s pos hp
      obtain ⟨⟨r, n⟩, hd⟩ : ∃ d, Utf8.decode s pos = d := ⟨_, rfl⟩
      rw [hd] at hnx hwd hdb
      simp only at hnx hwd hdb
      have HF : Fr noB w (w.iter s (pos + n)) := (Fr.refl noB w).alloc _
      have HCP := cap_any r
      cases hc : capK r with
      | false =>
        have hb : capK (byt s pos) = false := by
          rcases hdb with ⟨_, e, _⟩ | ⟨_, e⟩
          · rw [← e]; exact hc
          · have := e pos (Nat.le_refl _) (by omega)
            simp [capK]; omega
        rw [hb] at HC2
        have HV : Hid (colF s = none) := by
          show colF s = none
          simpa using HC2.symm
        rw [hc] at HCP
        clear HC HC2 hdb hc hb hf hf2 hd
        go_wp2_with (go_at_call 55; refine (HCP _).mono ?_; rintro e w1 ⟨rfl, rfl⟩)
        go_ret2
        rw [HV.out]
        exact ⟨rfl, HF⟩
      | true =>
        have hbd := capK_bd hc
        obtain ⟨rfl, rfl⟩ : r = byt s pos ∧ n = 1 := by
          rcases hdb with ⟨_, e1, e2⟩ | ⟨e, _⟩
          · exact ⟨e1, e2⟩
          · omega
        obtain ⟨r, hr⟩ : ∃ r, byt s pos = r := ⟨_, rfl⟩
        rw [hr] at hnx hc HCP hbd HC2
        rw [hc] at HCP
        simp only [hc, if_true] at HC2
        obtain ⟨z, hz⟩ : ∃ z, 26 * acc + (r - 65) + 1 = z := ⟨_, rfl⟩
        rw [hz] at HC2
        have hz1 : (acc : Int) * 26 + ((r : Int) - 65) + 1 = (z : Int) := by omega
        have hzl : (z : Int) ≤ 27000 := by omega
        have h65 : (65 : Int) ≤ (r : Int) := by omega
        have h90 : (r : Int) ≤ 90 := by omega
        have HZ : Hid (26 * acc + (r - 65) + 1 = z) := hz
        by_cases hb : 1024 < z
        · rw [if_pos hb] at HC2
          have HV : Hid (colF s = none) := HC2.symm
          clear HC HC2 hdb hc hf hf2 hd hz hbd hr
          go_wp2_with (go_at_call 55; refine (HCP _).mono ?_; rintro e w1 ⟨rfl, rfl⟩)
          go_ret2
          rw [HV.out]
          exact ⟨rfl, HF⟩
        · rw [if_neg hb] at HC2
          have HV : Hid (colA s (s.size - (pos + 1)) (pos + 1) z = colF s) := by rw [hf2]; exact HC2
          clear HC HC2 hdb hc hf hf2 hd hz hbd hr
          go_wp2_with (go_at_call 55; refine (HCP _).mono ?_; rintro e w1 ⟨rfl, rfl⟩)
          go_roundw
          case rel => exact ⟨pos + 1, z, rfl, rfl, by omega, by omega, HV⟩
          case measure => simp; omega
    · have hnx : ∀ ty, (Instr.next (.pointer (some ⟨w.heap.size, 0, none⟩)) true ty).run Tryd.prog (w.iter s pos) = _ := fun ty => run_next_end w s pos ty hp
      have HC2 := HC.out
      rw [show s.size - pos = 0 by omega, colA] at HC2
      clear HC
      by_cases h0 : acc = 0
      · rw [if_pos h0] at HC2
        have HV : Hid (colF s = none) := HC2.symm
        subst h0
        clear HC2
        go_wp2_with fail
        go_ret2
        rw [HV.out]
        exact ⟨rfl, (Fr.refl noB w).alloc _⟩
      · rw [if_neg h0] at HC2
        obtain ⟨k, rfl⟩ : ∃ k, acc = k + 1 := ⟨acc - 1, by omega⟩
        have HV : Hid (colF s = some k) := HC2.symm
        have h1 : ((k : Int) + 1) - 1 = (k : Int) := by omega
        have h2 : ¬ ((k : Int) + 1) = 0 := by omega
        clear HC2 h0
        go_wp2_with fail
        go_ret2
        rw [HV.out]
        refine ⟨?_, (Fr.refl noB w).alloc _⟩
        simp [colV]

set_option maxRecDepth 100000 in
set_option maxHeartbeats 4000000 in
theorem isWord_any (s : ByteArray) (w : World) : Calls Tryd.prog 53 #[.string s] w fun e w' => e = .returned (.bool (wrdF s)) ∧ Fr noB w w' := by
  go_enter Tryd.func53, Tryd.ntmps53
  go_wp2
  go_loopw [] (fun w' => ∃ (pos : Nat), w' = w.iter s pos ∧ pos ≤ s.size ∧ Hid (endK wrdK s pos = endK wrdK s 0) ∧ Hid (0 < pos → (decide (0 < s.size) && digK (byt s 0)) = false)) (fun w' => s.size - w'.iterPos w.heap.size)
  case atStart => exact ⟨0, rfl, Nat.zero_le _, rfl, fun h => by omega⟩
  case round =>
    obtain ⟨pos, rfl, hps, HC, HD⟩ := hrel
    by_cases hp : pos < s.size
    · have hnx : ∀ ty, (Instr.next (.pointer (some ⟨w.heap.size, 0, none⟩)) true ty).run Tryd.prog (w.iter s pos) = _ := fun ty => run_next_any w s pos ty hp
      have hwd := width_pos s pos hp
      have hwf := width_fits s pos hp
      have hdb := decode_bytes s pos hp
      have hky := kin_yes kin_wrd s pos hp
      have hkn := kin_no kin_wrd s pos hp
      obtain ⟨⟨r, n⟩, hd⟩ : ∃ d, Utf8.decode s pos = d := ⟨_, rfl⟩
      rw [hd] at hnx hwd hwf hdb hky hkn
      simp only at hnx hwd hwf hdb hky hkn
      have HF : Fr noB w (w.iter s (pos + n)) := (Fr.refl noB w).alloc _
      have HW := wrd_any r
      have HG := dig_any r
      cases hc : wrdK r with
      | false =>
        have HV : Hid (wrdF s = false) := by
          show wrdF s = false
          have e := (hkn hc).1
          have e2 := HC.out
          rw [e] at e2
          unfold wrdF
          rw [← e2, decide_eq_false (by omega)]
          rfl
        rw [hc] at HW
        clear HC HD hdb hc hd hky hkn HG
        go_wp2_with (go_at_call 50; refine (HW _).mono ?_; rintro e w1 ⟨rfl, rfl⟩)
        go_ret
        rw [HV.out]
        exact ⟨rfl, HF⟩
      | true =>
        have hr1 : r < 128 ∧ r = byt s pos ∧ n = 1 := by
          rcases hdb with ⟨e0, e1, e2⟩ | ⟨e, _⟩
          · exact ⟨e0, e1, e2⟩
          · have := kin_wrd.high r e
            rw [hc] at this
            cases this
        rw [hc] at HW
        have HV : Hid (endK wrdK s (pos + n) = endK wrdK s 0) := (hky hc).symm.trans HC.out
        by_cases h0 : pos = 0
        · subst h0
          rw [Nat.zero_add] at HF HV hwf
          cases hg : digK r with
          | true =>
            have HX : Hid (wrdF s = false) := by
              show wrdF s = false
              unfold wrdF
              rw [← hr1.2.1, hg, decide_eq_true hp]
              simp
            rw [hg] at HG
            clear HC HD hdb hc hd hky hkn HV hr1 hg
            go_wp2_with (first | (go_at_call 50; refine (HW _).mono ?_; rintro e w1 ⟨rfl, rfl⟩) | (go_at_call 56; refine (HG _).mono ?_; rintro e w1 ⟨rfl, rfl⟩))
            go_ret
            rw [HX.out]
            exact ⟨rfl, HF⟩
          | false =>
            have HX : Hid ((decide (0 < s.size) && digK (byt s 0)) = false) := by
              show _ = false
              rw [← hr1.2.1, hg]
              simp
            rw [hg] at HG
            clear HC HD hdb hc hd hky hkn hr1 hg
            go_wp2_with (first | (go_at_call 50; refine (HW _).mono ?_; rintro e w1 ⟨rfl, rfl⟩) | (go_at_call 56; refine (HG _).mono ?_; rintro e w1 ⟨rfl, rfl⟩))
            go_roundw
            case rel => exact ⟨n, rfl, by omega, HV, fun _ => HX.out⟩
            case measure => simp; omega
        · have hp0 : ¬ (pos : Int) = 0 := by omega
          have HX : Hid ((decide (0 < s.size) && digK (byt s 0)) = false) := HD.out (by omega)
          clear HC HD hdb hc hd hky hkn hr1 h0 HG
          go_wp2_with (first | (go_at_call 50; refine (HW _).mono ?_; rintro e w1 ⟨rfl, rfl⟩))
          go_roundw
          case rel => exact ⟨pos + n, rfl, by omega, HV, fun _ => HX.out⟩
          case measure => simp; omega
    · have hnx : ∀ ty, (Instr.next (.pointer (some ⟨w.heap.size, 0, none⟩)) true ty).run Tryd.prog (w.iter s pos) = _ := fun ty => run_next_end w s pos ty hp
      have HV : Hid (wrdF s = true) := by
        show wrdF s = true
        have e := HC.out
        rw [endK_stop wrdK s pos (fun h => hp h.1)] at e
        unfold wrdF
        rw [← e, decide_eq_true (by omega)]
        by_cases h0 : 0 < pos
        · rw [HD.out h0]; rfl
        · rw [decide_eq_false (by omega : ¬ 0 < s.size)]; rfl
      clear HC HD
      go_wp2
      go_ret
      rw [HV.out]
      exact ⟨rfl, (Fr.refl noB w).alloc _⟩

theorem clone_any (s : ByteArray) (w : World) (hs : s.size ≤ 281474976710656) : Calls Tryd.prog 26 #[.string s] w fun e w' => e = .returned (.string s) ∧ Fr noB w w' := by
  have H := Any.stringslite_Clone Tryd.laysLaysMn316 s
  go_enter Tryd.func26, Tryd.ntmps26
  go_wp2_with (go_at_call 41; refine (show Calls Tryd.prog 41 _ _ _ from H _ hs).mono ?_; rintro e w1 ⟨rfl, hB⟩)
  go_ret
  exact ⟨rfl, Fr.ofBelow hB⟩
#print axioms clone_any
#print axioms isWord_any
#print axioms parseCol_any
end Go.Proofs.YtiokbpknaldbaaaDoor
