/- Name of both sides. -/
import Derived.Test.YtdmjbhbiehjelaaGreatDoorK35
import Derived.Test.YtdmjbhbiehjelaaGreatDoorRRfN
namespace Go.Proofs.YtdmjbhbiehjelaaGreatDoor
open Go.RowKit Go.Shelf

def inK (b : Nat) : Bool := inI (b : Int)
def bgK (b : Nat) : Bool := bgI (b : Int)
theorem kin_in : Kin inK inK false := ⟨fun _ _ => rfl, fun r h => by simp [inK, inI, bgI, dgI, ptI]; omega, fun r h => by simp [inK, inI, bgI, dgI, ptI]; omega⟩
theorem bg_in {b : Nat} (h : bgK b = true) : inK b = true := by
  unfold bgK at h
  unfold inK inI
  rw [h]
  rfl
/-- A name. -/
def nmF (s : ByteArray) : Bool := decide (1 ≤ s.size) && decide (s.size ≤ 64) && bgK (byt s 0) && decide (endK inK s 0 = s.size)
theorem nmF_no {s : ByteArray} (h : ¬ (1 ≤ s.size ∧ s.size ≤ 64)) : nmF s = false := by
  unfold nmF
  by_cases h1 : 1 ≤ s.size
  · rw [decide_eq_false (fun e => h ⟨h1, e⟩)]; simp
  · rw [decide_eq_false h1]; rfl
theorem nmF_bg {s : ByteArray} (h : bgK (byt s 0) = false) : nmF s = false := by
  unfold nmF
  rw [h]
  simp
theorem nmF_in {s : ByteArray} {p : Nat} (hp : p < s.size) (h : endK inK s p = endK inK s 0) (he : endK inK s p = p) : nmF s = false := by
  unfold nmF
  rw [← h, he, decide_eq_false (show ¬ p = s.size by omega)]
  simp
theorem nmF_yes {s : ByteArray} (h1 : 1 ≤ s.size) (h2 : s.size ≤ 64) (hb : bgK (byt s 0) = true) (h : endK inK s s.size = endK inK s 0) : nmF s = true := by
  unfold nmF
  rw [← h, endK_stop inK s s.size (fun e => by omega), hb, decide_eq_true h1, decide_eq_true h2]
  simp

set_option maxRecDepth 100000 in
set_option maxHeartbeats 4000000 in
theorem name_pr (s : ByteArray) (w : World) : Calls Tryz.prog 125 #[.string s] w fun e w' => e = .returned (.bool (nmF s)) ∧ Fr noB w w' := by
  by_cases h1 : ¬ 1 ≤ s.size
  · have g1 : (s.size : Int) < 1 := by omega
    have HV : Hid (nmF s = false) := nmF_no (fun e => h1 e.1)
    go_enter Tryz.func125, Tryz.ntmps125
    go_wp2_with fail
    go_ret
    rw [HV.out]
    exact ⟨rfl, Fr.refl _ _⟩
  have h1 : 1 ≤ s.size := Decidable.not_not.1 h1
  by_cases h2 : ¬ s.size ≤ 64
  · have g1 : ¬ (s.size : Int) < 1 := by omega
    have g2 : (64 : Int) < (s.size : Int) := by omega
    have HV : Hid (nmF s = false) := nmF_no (fun e => h2 e.2)
    go_enter Tryz.func125, Tryz.ntmps125
    go_wp2_with fail
    go_ret
    rw [HV.out]
    exact ⟨rfl, Fr.refl _ _⟩
  have h2 : s.size ≤ 64 := Decidable.not_not.1 h2
  have g1 : ¬ (s.size : Int) < 1 := by omega
  have g2 : ¬ (64 : Int) < (s.size : Int) := by omega
  go_enter Tryz.func125, Tryz.ntmps125
  go_wp2
  clear g1 g2
  go_loopw [] (fun w' => ∃ (pos : Nat), w' = w.iter s pos ∧ pos ≤ s.size ∧ Hid (endK inK s pos = endK inK s 0) ∧ Hid (0 < pos → bgK (byt s 0) = true)) (fun w' => s.size - w'.iterPos w.heap.size)
  case atStart => exact ⟨0, rfl, Nat.zero_le _, rfl, fun h => by omega⟩
  case round =>
    obtain ⟨pos, rfl, hps, HC, HD⟩ := hrel
    by_cases hp : pos < s.size
    · have hnx : ∀ ty, (Instr.next (.pointer (some ⟨w.heap.size, 0, none⟩)) true ty).run Tryz.prog (w.iter s pos) = _ := fun ty => run_next_any w s pos ty hp
      have hwd := width_pos s pos hp
      have hwf := width_fits s pos hp
      have hdb := decode_bytes s pos hp
      have hky := kin_yes kin_in s pos hp
      have hkn := kin_no kin_in s pos hp
      obtain ⟨⟨r, n⟩, hd⟩ : ∃ d, Utf8.decode s pos = d := ⟨_, rfl⟩
      rw [hd] at hnx hwd hwf hdb hky hkn
      simp only at hnx hwd hwf hdb hky hkn
      have HF : Fr noB w (w.iter s (pos + n)) := (Fr.refl noB w).alloc _
      have HW := inName_lx (r : Int)
      have HG := beginsName_lx (r : Int)
      by_cases h0 : pos = 0
      · subst h0
        rw [Nat.zero_add] at HF hwf
        cases hg : bgI (r : Int) with
        | false =>
          have HX : Hid (nmF s = false) := by
            rcases hdb with ⟨e0, e1, e2⟩ | ⟨e, e2⟩
            · exact nmF_bg (by unfold bgK; rw [← e1]; exact hg)
            · refine nmF_bg ?_
              have := e2 0 (Nat.le_refl _) (by omega)
              simp [bgK, bgI]
              omega
          rw [hg] at HG
          clear HC HD hdb hd hky hkn hg HW
          go_wp2_with (first | (go_at_call 162; refine (HW _).mono ?_; rintro e w1 ⟨rfl, rfl⟩) | (go_at_call 161; refine (HG _).mono ?_; rintro e w1 ⟨rfl, rfl⟩))
          go_ret
          rw [HX.out]
          exact ⟨rfl, HF⟩
        | true =>
          have hin : inI (r : Int) = true := by unfold inI; rw [hg]; rfl
          have hr1 : r < 128 ∧ r = byt s 0 ∧ n = 1 := by
            rcases hdb with ⟨e0, e1, e2⟩ | ⟨e, _⟩
            · exact ⟨e0, e1, e2⟩
            · have := kin_in.high r e
              unfold inK at this
              rw [hin] at this
              cases this
          have HX : Hid (bgK (byt s 0) = true) := by
            show bgK _ = true
            rw [← hr1.2.1]
            exact hg
          have HV : Hid (endK inK s n = endK inK s 0) := by
            have := hky hin
            rw [Nat.zero_add] at this
            exact this.symm
          rw [hg] at HG
          rw [hin] at HW
          clear HC HD hdb hd hky hkn hr1 hg hin
          go_wp2_with (first | (go_at_call 162; refine (HW _).mono ?_; rintro e w1 ⟨rfl, rfl⟩) | (go_at_call 161; refine (HG _).mono ?_; rintro e w1 ⟨rfl, rfl⟩))
          go_roundw
          case rel => exact ⟨n, rfl, by omega, HV, fun _ => HX.out⟩
          case measure => simp; omega
      · have hp0 : ¬ (pos : Int) = 0 := by omega
        have HX : Hid (bgK (byt s 0) = true) := HD.out (by omega)
        cases hc : inI (r : Int) with
        | false =>
          have HV : Hid (nmF s = false) := nmF_in hp HC.out (hkn hc).1
          rw [hc] at HW
          clear HC HD hdb hd hky hkn hc HG h0
          go_wp2_with (first | (go_at_call 162; refine (HW _).mono ?_; rintro e w1 ⟨rfl, rfl⟩))
          go_ret
          rw [HV.out]
          exact ⟨rfl, HF⟩
        | true =>
          have HV : Hid (endK inK s (pos + n) = endK inK s 0) := (hky hc).symm.trans HC.out
          rw [hc] at HW
          clear HC HD hdb hd hky hkn hc HG h0
          go_wp2_with (first | (go_at_call 162; refine (HW _).mono ?_; rintro e w1 ⟨rfl, rfl⟩))
          go_roundw
          case rel => exact ⟨pos + n, rfl, by omega, HV, fun _ => HX.out⟩
          case measure => simp; omega
    · have hnx : ∀ ty, (Instr.next (.pointer (some ⟨w.heap.size, 0, none⟩)) true ty).run Tryz.prog (w.iter s pos) = _ := fun ty => run_next_end w s pos ty hp
      obtain rfl : pos = s.size := by omega
      have HV : Hid (nmF s = true) := nmF_yes h1 h2 (HD.out (by omega)) HC.out
      clear HC HD
      go_wp2
      go_ret
      rw [HV.out]
      exact ⟨rfl, (Fr.refl noB w).alloc _⟩
set_option maxRecDepth 100000 in
theorem rdigit_lx (b : Nat) (w : World) : Calls Tryz.prog 149 #[.int .u8 (b : Int)] w fun e w' => e = .returned (.bool (dgI (b : Int))) ∧ w' = w := by
  by_cases h1 : (48 : Int) ≤ (b : Int) <;> by_cases h2 : (b : Int) ≤ 57
  all_goals
    have HV : Hid _ := show dgI (b : Int) = (decide ((48 : Int) ≤ (b : Int)) && decide ((b : Int) ≤ 57)) from rfl
    go_enter Tryz.func149, Tryz.ntmps149
    go_wp2_with fail
    go_ret
    exact ⟨lret (by rw [HV.out]; simp [h1, h2]), rfl⟩
set_option maxRecDepth 100000 in
set_option maxHeartbeats 1000000 in
theorem rstarts_lx (b : Nat) (w : World) : Calls Tryz.prog 115 #[.int .u8 (b : Int)] w fun e w' => e = .returned (.bool (bgI (b : Int))) ∧ w' = w := by
  have HV : Hid _ := show bgI (b : Int) = ((decide (65 ≤ (b : Int)) && decide ((b : Int) ≤ 90)) || (decide (97 ≤ (b : Int)) && decide ((b : Int) ≤ 122)) || (b : Int) == 95) from rfl
  by_cases h1 : (65 : Int) ≤ (b : Int) <;> by_cases h2 : (b : Int) ≤ 90 <;> by_cases h3 : (97 : Int) ≤ (b : Int) <;> by_cases h4 : (b : Int) ≤ 122 <;> first | (exfalso; omega) | skip
  all_goals
    go_enter Tryz.func115, Tryz.ntmps115
    go_wp2_with fail
    go_ret
    exact ⟨lret (by rw [HV.out, Bool.eq_iff_iff]; simp; try omega), rfl⟩
set_option maxRecDepth 100000 in
set_option maxHeartbeats 1000000 in
theorem rinner_lx (b : Nat) (w : World) : Calls Tryz.prog 116 #[.int .u8 (b : Int)] w fun e w' => e = .returned (.bool (inI (b : Int))) ∧ w' = w := by
  have H1 := rstarts_lx b
  have H2 := rdigit_lx b
  have HV : Hid _ := show inI (b : Int) = (bgI (b : Int) || dgI (b : Int) || ptI (b : Int)) from rfl
  have HP : Hid _ := show ptI (b : Int) = ((b : Int) == 46) from rfl
  cases hb : bgI (b : Int) <;> cases hd : dgI (b : Int)
  all_goals
    rw [hb] at H1
    rw [hd] at H2
    go_enter Tryz.func116, Tryz.ntmps116
    go_wp2_with (first | (go_at_call 115; refine (H1 _).mono ?_; rintro e w1 ⟨rfl, rfl⟩) | (go_at_call 149; refine (H2 _).mono ?_; rintro e w1 ⟨rfl, rfl⟩))
    go_ret
    exact ⟨lret (by rw [HV.out, hb, hd, HP.out]; simp), rfl⟩
set_option maxRecDepth 100000 in
set_option maxHeartbeats 4000000 in
theorem rname_lx (s : ByteArray) (w : World) : Calls Tryz.prog 80 #[.string s] w fun e w' => e = .returned (.bool (nmF s)) ∧ w' = w := by
  by_cases h1 : ¬ 1 ≤ s.size
  · have g1 : s.toList.isEmpty = true := by
      rw [ByteArray.toList_eq, List.isEmpty_iff, ← List.length_eq_zero_iff]
      have : s.data.toList.length = s.size := Array.length_toList
      omega
    have HV : Hid (nmF s = false) := nmF_no (fun e => h1 e.1)
    go_enter Tryz.func80, Tryz.ntmps80
    go_wp2_with fail
    go_ret
    rw [HV.out]
    exact ⟨rfl, rfl⟩
  have h1' : 1 ≤ s.size := Decidable.not_not.1 h1
  have g1 : s.toList.isEmpty = false := by
    rw [ByteArray.toList_eq, List.isEmpty_eq_false_iff]
    intro e
    have : s.data.toList.length = s.size := Array.length_toList
    rw [e] at this
    simp at this
    omega
  have h1 : 1 ≤ s.size := Decidable.not_not.1 h1
  by_cases h2 : ¬ s.size ≤ 64
  · have g2 : (64 : Int) < (s.size : Int) := by omega
    have HV : Hid (nmF s = false) := nmF_no (fun e => h2 e.2)
    go_enter Tryz.func80, Tryz.ntmps80
    go_wp2_with fail
    go_ret
    rw [HV.out]
    exact ⟨rfl, rfl⟩
  have h2 : s.size ≤ 64 := Decidable.not_not.1 h2
  have g2 : ¬ (64 : Int) < (s.size : Int) := by omega
  have b0 := byt_at s 0 (by omega)
  obtain ⟨c, hcc⟩ : ∃ c, byt s 0 = c := ⟨_, rfl⟩
  rw [hcc] at b0
  have x0 : ∀ hh, (s[0]'hh).toNat = c := fun _ => b0
  have HS := rstarts_lx c
  cases hg : bgI (c : Int) with
  | false =>
    have HV : Hid (nmF s = false) := nmF_bg (by unfold bgK; rw [hcc]; exact hg)
    rw [hg] at HS
    clear hg hcc b0
    go_enter Tryz.func80, Tryz.ntmps80
    go_wp2_with (first | (go_at_call 115; refine (HS _).mono ?_; rintro e w1 ⟨rfl, rfl⟩))
    go_ret
    rw [HV.out]
    exact ⟨rfl, rfl⟩
  | true =>
    have HB : Hid (bgK (byt s 0) = true) := by
      show bgK _ = true
      unfold bgK
      rw [hcc]
      exact hg
    rw [hg] at HS
    clear hg hcc b0
    go_enter Tryz.func80, Tryz.ntmps80
    go_wp2_with (first | (go_at_call 115; refine (HS _).mono ?_; rintro e w1 ⟨rfl, rfl⟩))
    clear x0 HS g1 g2
    go_loop [3] (fun iv => ∃ (p : Nat), iv = .int .i64 (p : Int) ∧ p ≤ s.size ∧ Hid (endK inK s p = endK inK s 0)) (fun iv => s.size - (intOf iv).toNat)
    case atStart => exact ⟨0, rfl, Nat.zero_le _, rfl⟩
    case round =>
      obtain ⟨p, rfl, hps, HC⟩ := hrel
      by_cases hp : p < s.size
      · have hb := byt_at s p hp
        have hst := endK_step inK s p hp
        have hstop := endK_stop inK s p
        obtain ⟨b, hbb⟩ : ∃ b, byt s p = b := ⟨_, rfl⟩
        rw [hbb] at hb hst hstop
        have hx : ∀ hh, (s[p]'hh).toNat = b := fun _ => hb
        have HI := rinner_lx b
        cases hw : inI (b : Int) with
        | false =>
          have HX : Hid (nmF s = false) := nmF_in hp HC.out (hstop (fun e => by have := e.2; unfold inK at this; rw [hw] at this; cases this))
          rw [hw] at HI
          clear hst hstop hw hb hbb HC
          go_wp2_with (first | (go_at_call 116; refine (HI _).mono ?_; rintro e w1 ⟨rfl, rfl⟩))
          go_ret
          rw [HX.out]
          exact ⟨rfl, rfl⟩
        | true =>
          have HV : Hid (endK inK s (p + 1) = endK inK s 0) := (hst hw).symm.trans HC.out
          rw [hw] at HI
          clear hst hstop hw hb hbb HC
          go_wp2_with (first | (go_at_call 116; refine (HI _).mono ?_; rintro e w1 ⟨rfl, rfl⟩))
          go_round
          case rel => exact ⟨p + 1, by go_num, by omega, HV⟩
          case measure => simp [intOf]; omega
      · obtain rfl : p = s.size := by omega
        have HV : Hid (nmF s = true) := nmF_yes h1 h2 HB.out HC.out
        clear HC
        go_wp2_with fail
        go_ret
        rw [HV.out]
        exact ⟨rfl, rfl⟩
#print axioms name_pr
#print axioms rname_lx
end Go.Proofs.YtdmjbhbiehjelaaGreatDoor
