/- ParseColumn, Column, isWord, SheetName, Quote: the program's contracts. -/
import Derived.Test.YtdmjbhbiehjelaaGreatDoorRRun
import Derived.Test.YtdmjbhbiehjelaaGreatDoorRPrs
namespace Go.Proofs.YtdmjbhbiehjelaaGreatDoor
open Go.RowKit Go.Shelf

/-- What ParseColumn answers. -/
def colV (o : Option Nat) : Value := match o with
  | some n => .tuple #[.int .i64 (n : Int), .int .i64 0]
  | none => .tuple #[.int .i64 0, .int .i64 110]
set_option maxRecDepth 100000 in
set_option maxHeartbeats 4000000 in
theorem isWord_any (s : ByteArray) (w : World) : Calls Tryz.prog 147 #[.string s] w fun e w' => e = .returned (.bool (wrdF s)) ∧ Fr noB w w' := by
  go_enter Tryz.func147, Tryz.ntmps147
  go_wp2
  go_loopw [] (fun w' => ∃ (pos : Nat), w' = w.iter s pos ∧ pos ≤ s.size ∧ Hid (endK wrdK s pos = endK wrdK s 0) ∧ Hid (0 < pos → (decide (0 < s.size) && digK (byt s 0)) = false)) (fun w' => s.size - w'.iterPos w.heap.size)
  case atStart => exact ⟨0, rfl, Nat.zero_le _, rfl, fun h => by omega⟩
  case round =>
    obtain ⟨pos, rfl, hps, HC, HD⟩ := hrel
    by_cases hp : pos < s.size
    · have hnx : ∀ ty, (Instr.next (.pointer (some ⟨w.heap.size, 0, none⟩)) true ty).run Tryz.prog (w.iter s pos) = _ := fun ty => run_next_any w s pos ty hp
      have hwd := width_pos s pos hp
      have hwf := width_fits s pos hp
      have hdb := decode_bytes s pos hp
      have hky := kin_yes kin_wrd s pos hp
      have hkn := kin_no kin_wrd s pos hp
      obtain ⟨⟨r, n⟩, hd⟩ : ∃ d, Utf8.decode s pos = d := ⟨_, rfl⟩
      rw [hd] at hnx hwd hwf hdb hky hkn
      simp only at hnx hwd hwf hdb hky hkn
      have HF : Fr noB w (w.iter s (pos + n)) := (Fr.refl noB w).alloc _
      have HW := wrd_any r
      have HG := dig_any r
      cases hc : wrdK r with
      | false =>
        have HV : Hid (wrdF s = false) := by
          show wrdF s = false
          have e := (hkn hc).1
          have e2 := HC.out
          rw [e] at e2
          unfold wrdF
          rw [← e2, decide_eq_false (by omega)]
          rfl
        rw [hc] at HW
        clear HC HD hdb hc hd hky hkn HG
        go_wp2_with (go_at_call 181; refine (HW _).mono ?_; rintro e w1 ⟨rfl, rfl⟩)
        go_ret
        rw [HV.out]
        exact ⟨rfl, HF⟩
      | true =>
        have hr1 : r < 128 ∧ r = byt s pos ∧ n = 1 := by
          rcases hdb with ⟨e0, e1, e2⟩ | ⟨e, _⟩
          · exact ⟨e0, e1, e2⟩
          · have := kin_wrd.high r e
            rw [hc] at this
            cases this
        rw [hc] at HW
        have HV : Hid (endK wrdK s (pos + n) = endK wrdK s 0) := (hky hc).symm.trans HC.out
        by_cases h0 : pos = 0
        · subst h0
          rw [Nat.zero_add] at HF HV hwf
          cases hg : digK r with
          | true =>
            have HX : Hid (wrdF s = false) := by
              show wrdF s = false
              unfold wrdF
              rw [← hr1.2.1, hg, decide_eq_true hp]
              simp
            rw [hg] at HG
            clear HC HD hdb hc hd hky hkn HV hr1 hg
            go_wp2_with (first | (go_at_call 181; refine (HW _).mono ?_; rintro e w1 ⟨rfl, rfl⟩) | (go_at_call 182; refine (HG _).mono ?_; rintro e w1 ⟨rfl, rfl⟩))
            go_ret
            rw [HX.out]
            exact ⟨rfl, HF⟩
          | false =>
            have HX : Hid ((decide (0 < s.size) && digK (byt s 0)) = false) := by
              show _ = false
              rw [← hr1.2.1, hg]
              simp
            rw [hg] at HG
            clear HC HD hdb hc hd hky hkn hr1 hg
            go_wp2_with (first | (go_at_call 181; refine (HW _).mono ?_; rintro e w1 ⟨rfl, rfl⟩) | (go_at_call 182; refine (HG _).mono ?_; rintro e w1 ⟨rfl, rfl⟩))
            go_roundw
            case rel => exact ⟨n, rfl, by omega, HV, fun _ => HX.out⟩
            case measure => simp; omega
        · have hp0 : ¬ (pos : Int) = 0 := by omega
          have HX : Hid ((decide (0 < s.size) && digK (byt s 0)) = false) := HD.out (by omega)
          clear HC HD hdb hc hd hky hkn hr1 h0 HG
          go_wp2_with (first | (go_at_call 181; refine (HW _).mono ?_; rintro e w1 ⟨rfl, rfl⟩))
          go_roundw
          case rel => exact ⟨pos + n, rfl, by omega, HV, fun _ => HX.out⟩
          case measure => simp; omega
    · have hnx : ∀ ty, (Instr.next (.pointer (some ⟨w.heap.size, 0, none⟩)) true ty).run Tryz.prog (w.iter s pos) = _ := fun ty => run_next_end w s pos ty hp
      have HV : Hid (wrdF s = true) := by
        show wrdF s = true
        have e := HC.out
        rw [endK_stop wrdK s pos (fun h => hp h.1)] at e
        unfold wrdF
        rw [← e, decide_eq_true (by omega)]
        by_cases h0 : 0 < pos
        · rw [HD.out h0]; rfl
        · rw [decide_eq_false (by omega : ¬ 0 < s.size)]; rfl
      clear HC HD
      go_wp2
      go_ret
      rw [HV.out]
      exact ⟨rfl, (Fr.refl noB w).alloc _⟩

theorem clone_any (s : ByteArray) (w : World) (hs : s.size ≤ 281474976710656) : Calls Tryz.prog 148 #[.string s] w fun e w' => e = .returned (.string s) ∧ Fr noB w w' := by
  have H := Any.stringslite_Clone Tryz.laysLaysMn316 s
  go_enter Tryz.func148, Tryz.ntmps148
  go_wp2_with (go_at_call 183; refine (show Calls Tryz.prog 183 _ _ _ from H _ hs).mono ?_; rintro e w1 ⟨rfl, hB⟩)
  go_ret
  exact ⟨rfl, Fr.ofBelow hB⟩
#print axioms clone_any
#print axioms isWord_any
end Go.Proofs.YtdmjbhbiehjelaaGreatDoor
/- SheetName and Quote: the program's contracts. -/
namespace Go.Proofs.YtdmjbhbiehjelaaGreatDoor
open Go.RowKit Go.Shelf

theorem Fr.iterAt {S : Nat → Prop} {a w : World} {k : Nat} (h : Fr S a w) (hk : a.heap.size ≤ k) (s : ByteArray) (q : Nat) : Fr S a (w.iterAt k s q) :=
  h.then (S' := oneB k) ⟨rfl, rfl, rfl, by rw [Lib.iterAt_size]; exact Nat.le_refl _, fun i hi hn => Lib.iterAt_other w k i s _ (fun e => hn e)⟩ (fun i h => Or.inr (by unfold oneB at h; omega))
theorem shtF_no1 (s : ByteArray) (h : ¬ (1 ≤ s.size ∧ s.size ≤ 64)) : shtF s = false := by
  unfold shtF
  by_cases h1 : 1 ≤ s.size
  · rw [decide_eq_true h1, decide_eq_false (by omega : ¬ s.size ≤ 64)]; rfl
  · rw [decide_eq_false h1]; rfl
theorem shtF_yes (s : ByteArray) (h : 1 ≤ s.size ∧ s.size ≤ 64) : shtF s = ((validF s).2 && decide (endK shtK s 0 = s.size)) := by
  unfold shtF
  rw [decide_eq_true h.1, decide_eq_true h.2]
  simp
set_option maxRecDepth 100000 in
set_option maxHeartbeats 4000000 in
theorem sheetName_any (s : ByteArray) (w : World) : Calls Tryz.prog 145 #[.string s] w fun e w' => e = .returned (.bool (shtF s)) ∧ Fr noB w w' := by
  by_cases hz : 1 ≤ s.size ∧ s.size ≤ 64
  case neg =>
    rw [shtF_no1 s hz]
    by_cases h1 : s.size < 1
    · have e : s.size = 0 := by omega
      have h2 : ((s.size : Int) < 1) := by omega
      clear hz h1 e
      go_enter Tryz.func145, Tryz.ntmps145
      go_wp2_with fail
      go_ret
      exact ⟨rfl, Fr.refl _ _⟩
    · have h2 : ¬ ((s.size : Int) < 1) := by omega
      have h3 : (64 : Int) < (s.size : Int) := by omega
      clear hz h1
      go_enter Tryz.func145, Tryz.ntmps145
      go_wp2_with fail
      go_ret
      exact ⟨rfl, Fr.refl _ _⟩
  case pos =>
    rw [shtF_yes s hz]
    have h2 : ¬ ((s.size : Int) < 1) := by omega
    have h3 : ¬ (64 : Int) < (s.size : Int) := by omega
    have HV := valid_any s
    cases hv : (validF s).2 with
    | false =>
      rw [hv] at HV
      clear hz hv
      generalize (validF s).1 = V at *
      go_enter Tryz.func145, Tryz.ntmps145
      go_wp2_with (go_at_call 110; refine (HV _).mono ?_; rintro e w1 ⟨rfl, hF1⟩)
      go_ret
      exact ⟨rfl, hF1⟩
    | true =>
      rw [hv] at HV
      clear hz hv
      generalize (validF s).1 = V at *
      rw [Bool.true_and]
      go_enter Tryz.func145, Tryz.ntmps145
      go_wp2_with (go_at_call 110; refine (HV _).mono ?_; rintro e w1 ⟨rfl, hF1⟩)
      clear HV
      have hz1 := hF1.size
      go_loopw [] (fun wr => ∃ (pos : Nat), wr.heap[w1.heap.size]? = some (.stringIter s pos) ∧ Fr noB w1 wr ∧ pos ≤ s.size ∧ Hid (endK shtK s pos = endK shtK s 0)) (fun wr => s.size - wr.iterPos w1.heap.size)
      case atStart => exact ⟨0, World.iter_heap w1 s 0, (Fr.refl _ _).alloc _, Nat.zero_le _, rfl⟩
      case round =>
        obtain ⟨pos, hit, hF, hps, HC⟩ := hrel
        by_cases hp : pos < s.size
        · have hnx : ∀ ty, (Instr.next (.pointer (some ⟨w1.heap.size, 0, none⟩)) true ty).run Tryz.prog wr = _ := fun ty => Lib.run_next_any_at wr w1.heap.size s pos ty hit hp
          have hwd := width_pos s pos hp
          have hwf := width_fits s pos hp
          have hro := decode_ok s pos
          have hky := kin_yes kin_sht s pos hp
          have hkn := kin_no kin_sht s pos hp
          have hit2 := Lib.iterAt_heap wr w1.heap.size s pos (pos + (Utf8.decode s pos).2) hit
          have hF2 : Fr noB w1 (wr.iterAt w1.heap.size s (pos + (Utf8.decode s pos).2)) := hF.iterAt (Nat.le_refl _) _ _
          obtain ⟨⟨r, n⟩, hd⟩ : ∃ d, Utf8.decode s pos = d := ⟨_, rfl⟩
          rw [hd] at hnx hwd hwf hro hky hkn hit2 hF2
          simp only at hnx hwd hwf hro hky hkn hit2 hF2
          have HB := contains_any r hro
          have hmz : s.size - (wr.iterAt w1.heap.size s (pos + n)).iterPos w1.heap.size < s.size - wr.iterPos w1.heap.size := by
            simp only [World.iterPos, hit, hit2]
            omega
          have HM : Hid _ := hmz
          generalize wr.iterAt w1.heap.size s (pos + n) = W2 at *
          have HM2 : Hid (∀ W3, Fr noB W2 W3 → s.size - W3.iterPos w1.heap.size < s.size - wr.iterPos w1.heap.size) := fun W3 h => by
            have e := h.obj hit2 id
            have e2 := HM.out
            simp only [World.iterPos, hit2, e] at e2 ⊢
            exact e2
          have HI : Hid _ := hit2
          clear hmz HM hd hit hro hit2 hF
          by_cases hr : r < 32
          · have hr2 : (r : Int) < 32 := by omega
            have hs : shtK r = false := by simp [shtK, hr]
            have HX : Hid (decide (endK shtK s 0 = s.size) = false) := by
              show _ = false
              have e := (hkn hs).1
              have e2 := HC.out
              rw [e] at e2
              exact decide_eq_false (by omega)
            clear hky hkn HC HB hs hr
            go_wp2_with fail
            go_ret
            rw [HX.out]
            exact ⟨rfl, hF1.trans hF2⟩
          · have hr2 : ¬ (r : Int) < 32 := by omega
            cases hb : barK r with
            | true =>
              have hs : shtK r = false := by simp [shtK, hb]
              have HX : Hid (decide (endK shtK s 0 = s.size) = false) := by
                show _ = false
                have e := (hkn hs).1
                have e2 := HC.out
                rw [e] at e2
                exact decide_eq_false (by omega)
              rw [hb] at HB
              unfold barS at HB
              clear hky hkn HC hs hr hb
              go_wp2_with (go_at_call 172; refine (HB _).mono ?_; rintro e w3 ⟨rfl, hF3⟩)
              go_ret
              rw [HX.out]
              exact ⟨rfl, (hF1.trans hF2).trans hF3⟩
            | false =>
              have hs : shtK r = true := by simp [shtK, hb]; omega
              have HX : Hid (endK shtK s (pos + n) = endK shtK s 0) := (hky hs).symm.trans HC.out
              rw [hb] at HB
              unfold barS at HB
              clear hky hkn HC hs hr hb
              go_wp2_with (go_at_call 172; refine (HB _).mono ?_; rintro e w3 ⟨rfl, hF3⟩)
              go_roundw
              case rel => exact ⟨pos + n, hF3.obj HI.out id, hF2.trans hF3, hwf, HX⟩
              case measure => exact HM2.out _ hF3
        · have hnx : ∀ ty, (Instr.next (.pointer (some ⟨w1.heap.size, 0, none⟩)) true ty).run Tryz.prog wr = _ := fun ty => Lib.run_next_end_at wr w1.heap.size s pos ty hit hp
          have HX : Hid (decide (endK shtK s 0 = s.size) = true) := by
            show _ = true
            have e := HC.out
            rw [endK_stop shtK s pos (fun h => hp h.1)] at e
            exact decide_eq_true (by omega)
          clear HC
          go_wp2_with fail
          go_ret
          rw [HX.out]
          exact ⟨rfl, hF1.trans hF⟩
#print axioms sheetName_any

/-- What Quote answers. -/
def quoV (s : ByteArray) : Value := if shtF s = true then .tuple #[.string (quoF s), .int .i64 0] else .tuple #[.string ⟨#[]⟩, .int .i64 111]
theorem quoF_no (s : ByteArray) (h : shtF s = false) : quoF s = ⟨#[]⟩ := by unfold quoF; rw [h]; rfl
theorem quote_join (s : ByteArray) : (⟨#[39]⟩ : ByteArray) ++ s ++ ⟨#[39]⟩ = baL_r (39 :: (s.data.toList ++ [39])) := by
  apply ByteArray.ext
  simp [baL_r, ByteArray.data_append]
set_option maxRecDepth 100000 in
set_option maxHeartbeats 2000000 in
theorem quote_any (s : ByteArray) (w : World) : Calls Tryz.prog 113 #[.string s] w fun e w' => e = .returned (quoV s) ∧ Fr noB w w' := by
  have H1 := sheetName_any s
  have H2 := isWord_any s
  unfold quoV
  cases hs : shtF s with
  | false =>
    rw [hs] at H1
    rw [if_neg (by simp)]
    clear hs
    go_enter Tryz.func113, Tryz.ntmps113
    go_wp2_with (go_at_call 145; refine (H1 _).mono ?_; rintro e w1 ⟨rfl, hF1⟩)
    go_ret2
    exact ⟨rfl, hF1⟩
  | true =>
    rw [hs] at H1
    rw [if_pos rfl]
    have hz := shtF_size hs
    have H3 := fun w => clone_any s w (by omega)
    cases hw : wrdF s with
    | true =>
      have e : quoF s = s := by unfold quoF; rw [hs, hw]; rfl
      rw [e]
      rw [hw] at H2
      clear hs hw e
      go_enter Tryz.func113, Tryz.ntmps113
      go_wp2_with (first | (go_at_call 145; refine (H1 _).mono ?_; rintro e w1 ⟨rfl, hF1⟩) | (go_at_call 147; refine (H2 _).mono ?_; rintro e w2 ⟨rfl, hF2⟩) | (go_at_call 148; refine (H3 _).mono ?_; rintro e w3 ⟨rfl, hF3⟩))
      go_ret2
      exact ⟨rfl, (hF1.trans hF2).trans hF3⟩
    | false =>
      have HE : Hid (quoF s = (⟨#[39]⟩ : ByteArray) ++ s ++ ⟨#[39]⟩) := by
        show quoF s = _
        rw [quote_join]
        unfold quoF
        rw [hs, hw]
        rfl
      rw [hw] at H2
      have z1 : (⟨#[39]⟩ : ByteArray).size = 1 := rfl
      clear hs hw
      go_enter Tryz.func113, Tryz.ntmps113
      go_wp2_with (first | (go_at_call 145; refine (H1 _).mono ?_; rintro e w1 ⟨rfl, hF1⟩) | (go_at_call 147; refine (H2 _).mono ?_; rintro e w2 ⟨rfl, hF2⟩))
      go_ret2
      rw [HE.out]
      exact ⟨rfl, hF1.trans hF2⟩
#print axioms quote_any
end Go.Proofs.YtdmjbhbiehjelaaGreatDoor
