/- plain, SheetName, Quote: the document's contracts. -/
import Derived.Test.YthokhnbecgkpbaaDoorRRfV
import Derived.Lib.SlBytesConst
namespace Go.Proofs.YthokhnbecgkpbaaDoor
open Go.RowKit Go.Shelf

def barN (j : Nat) : Nat := [91, 93, 42, 63, 58, 47, 92, 39].getD j 0
theorem barN_yes (b : Nat) (h : ∀ i, i < 8 → barN i ≠ b) : barK b = false := by
  have h0 := h 0 (by omega); have h1 := h 1 (by omega); have h2 := h 2 (by omega); have h3 := h 3 (by omega)
  have h4 := h 4 (by omega); have h5 := h 5 (by omega); have h6 := h 6 (by omega); have h7 := h 7 (by omega)
  simp [barN] at h0 h1 h2 h3 h4 h5 h6 h7
  simp [barK]
  omega
theorem barN_no (i : Nat) (h : i < 8) : barK (barN i) = true := by
  have e : i = 0 ∨ i = 1 ∨ i = 2 ∨ i = 3 ∨ i = 4 ∨ i = 5 ∨ i = 6 ∨ i = 7 := by omega
  rcases e with rfl | rfl | rfl | rfl | rfl | rfl | rfl | rfl <;> rfl
theorem barN_cell (W : World) (i : Nat) (h : i < 8) : (W.alloc (.cells #[.int .u8 91, .int .u8 93, .int .u8 42, .int .u8 63, .int .u8 58, .int .u8 47, .int .u8 92, .int .u8 39] 5 (8, 9))).cell? ⟨W.heap.size, i, none⟩ = some (.int .u8 (barN i : Int)) := by
  have hn := heap_alloc_new W (.cells #[.int .u8 91, .int .u8 93, .int .u8 42, .int .u8 63, .int .u8 58, .int .u8 47, .int .u8 92, .int .u8 39] 5 (8, 9))
  have e : i = 0 ∨ i = 1 ∨ i = 2 ∨ i = 3 ∨ i = 4 ∨ i = 5 ∨ i = 6 ∨ i = 7 := by omega
  rcases e with rfl | rfl | rfl | rfl | rfl | rfl | rfl | rfl <;> (unfold World.cell?; rw [hn]; rfl)
set_option maxRecDepth 100000 in
set_option maxHeartbeats 4000000 in
theorem rsheetName_any (s : ByteArray) (w : World) (hs : s.size ≤ 140737488355328) (hT : Tabs w) : Calls Tryd.prog 33 #[.string s] w fun e w' => e = .returned (.bool (shtF s)) ∧ Fr noB w w' := by
  have HV := rvalid_any s w hs hT
  cases hv : (validF s).2 with
  | false =>
    have e : shtF s = false := by unfold shtF; rw [hv]; simp
    rw [e]
    rw [hv] at HV
    clear hv e hT
    generalize (validF s).1 = V at *
    go_enter Tryd.func33, Tryd.ntmps33
    go_wp2_with (go_at_call 47; refine HV.mono ?_; rintro e w1 ⟨rfl, hF1⟩)
    go_ret
    exact ⟨rfl, hF1⟩
  | true =>
    by_cases hz : 1 ≤ s.size ∧ s.size ≤ 64
    case neg =>
      rw [shtF_no1 s hz]
      rw [hv] at HV
      clear hv hT
      generalize (validF s).1 = V at *
      by_cases h1 : s.size = 0
      · have e1 := emp_yes s h1
        clear hz h1
        go_enter Tryd.func33, Tryd.ntmps33
        go_wp2_with (go_at_call 47; refine HV.mono ?_; rintro e w1 ⟨rfl, hF1⟩)
        go_ret
        exact ⟨rfl, hF1⟩
      · have e1 := emp_no s (by omega)
        have h3 : (64 : Int) < (s.size : Int) := by omega
        clear hz h1
        go_enter Tryd.func33, Tryd.ntmps33
        go_wp2_with (go_at_call 47; refine HV.mono ?_; rintro e w1 ⟨rfl, hF1⟩)
        go_ret
        exact ⟨rfl, hF1⟩
    case pos =>
      rw [shtF_yes s hz, hv, Bool.true_and]
      rw [hv] at HV
      have e1 := emp_no s (by omega)
      have h3 : ¬ (64 : Int) < (s.size : Int) := by omega
      have h64 : s.size ≤ 64 := hz.2
      clear hv hT hz
      generalize (validF s).1 = V at *
      go_enter Tryd.func33, Tryd.ntmps33
      go_wp2_with (go_at_call 47; refine HV.mono ?_; rintro e w1 ⟨rfl, hF1⟩)
      clear HV
      go_loopw [5] (fun iv wr => ∃ (p : Nat), iv = .int .i64 (p : Int) ∧ p ≤ s.size ∧ Fr noB w wr ∧ Hid (endK shtK s p = endK shtK s 0)) (fun iv _ => s.size - (intOf iv).toNat)
      case atStart => exact ⟨0, rfl, Nat.zero_le _, hF1, rfl⟩
      case round =>
        obtain ⟨p, rfl, hps, hF, HC⟩ := hrel
        by_cases hp : p < s.size
        · have hb := byt_at s p hp
          have hbl := byt_lt s p
          have hst := endK_step shtK s p hp
          have hstop := endK_stop shtK s p
          obtain ⟨b, hbb⟩ : ∃ b, byt s p = b := ⟨_, rfl⟩
          rw [hbb] at hb hbl hst hstop
          have hx : ∀ hh, (s[p]'hh).toNat = b := fun _ => hb
          have HN : Hid (shtK b = false → decide (endK shtK s 0 = s.size) = false) := fun hw => by
            have e := HC.out
            rw [hstop (by rw [hw]; simp)] at e
            exact decide_eq_false (by omega)
          have HY : Hid (shtK b = true → endK shtK s (p + 1) = endK shtK s 0) := fun hw => (hst hw).symm.trans HC.out
          have hbc := barN_cell wr
          obtain ⟨W1, hW1⟩ : ∃ W1, wr.alloc (.cells #[.int .u8 91, .int .u8 93, .int .u8 42, .int .u8 63, .int .u8 58, .int .u8 47, .int .u8 92, .int .u8 39] 5 (8, 9)) = W1 := ⟨_, rfl⟩
          have hFW : Fr noB w W1 := by rw [← hW1]; exact hF.alloc _
          have hcv := Lib.run_convert_bytes_const (P := Tryd.prog) wr 75 5 #[.int .u8 91, .int .u8 93, .int .u8 42, .int .u8 63, .int .u8 58, .int .u8 47, .int .u8 92, .int .u8 39] 8 8 Tryd.underlying75 Tryd.underlying5
          rw [show (wr.alloc (.cells #[.int .u8 91, .int .u8 93, .int .u8 42, .int .u8 63, .int .u8 58, .int .u8 47, .int .u8 92, .int .u8 39] 5 ((#[Value.int .u8 91, .int .u8 93, .int .u8 42, .int .u8 63, .int .u8 58, .int .u8 47, .int .u8 92, .int .u8 39] : Array Value).size, (#[Value.int .u8 91, .int .u8 93, .int .u8 42, .int .u8 63, .int .u8 58, .int .u8 47, .int .u8 92, .int .u8 39] : Array Value).size + 1))) = W1 from hW1] at hcv
          rw [hW1] at hbc
          have HBC : Hid _ := hbc
          clear hst hstop HC hb hbb hbc hW1
          go_wp2_with fail
          clear hcv
          go_loop [33] (fun jv => ∃ j : Nat, jv = .int .i64 (j : Int) ∧ j ≤ 8 ∧ Hid (∀ i, i < j → barN i ≠ b)) (fun jv => 8 - (intOf jv).toNat)
          case atStart => exact ⟨0, rfl, by omega, fun i hi => by omega⟩
          case round =>
            obtain ⟨j, rfl, hj, HJ⟩ := hrel
            by_cases hj8 : j < 8
            · have hc := HBC.out j hj8
              have hbn : barN j < 256 := by
                have e : j = 0 ∨ j = 1 ∨ j = 2 ∨ j = 3 ∨ j = 4 ∨ j = 5 ∨ j = 6 ∨ j = 7 := by omega
                rcases e with rfl | rfl | rfl | rfl | rfl | rfl | rfl | rfl <;> decide
              have hbk := barN_no j hj8
              obtain ⟨x, hx2⟩ : ∃ x, barN j = x := ⟨_, rfl⟩
              rw [hx2] at hc hbn hbk
              have HX2 : Hid (barN j = x) := hx2
              clear hx2
              by_cases hbx : b = x
              · subst hbx
                have HZ : Hid (decide (endK shtK s 0 = s.size) = false) := HN.out (by simp [shtK, hbk])
                go_wp2_with fail
                go_ret
                rw [HZ.out]
                exact ⟨rfl, hFW⟩
              · have hbx2 : ¬ (b : Int) = (x : Int) := by omega
                have hbx3 : ((b : Int) == (x : Int)) = false := by simpa using hbx2
                have HJ2 : Hid (∀ i, i < j + 1 → barN i ≠ b) := fun i hi => by
                  by_cases e : i = j
                  · rw [e, HX2.out]; exact fun h => hbx h.symm
                  · exact HJ.out i (by omega)
                clear HJ hbx
                go_wp2_with fail
                go_round
                case rel => exact ⟨j + 1, by go_num, by omega, HJ2⟩
                case measure => simp [intOf]; omega
            · obtain rfl : j = 8 := by omega
              have hbk := barN_yes b (HJ.out)
              clear HJ
              by_cases h32 : b < 32
              · have g1 : (b : Int) < 32 := by omega
                have HZ : Hid (decide (endK shtK s 0 = s.size) = false) := HN.out (by simp [shtK, h32])
                go_wp2_with fail
                go_ret
                rw [HZ.out]
                exact ⟨rfl, hFW⟩
              · have g1 : ¬ (b : Int) < 32 := by omega
                have HZ : Hid (endK shtK s (p + 1) = endK shtK s 0) := HY.out (by simp [shtK, hbk]; omega)
                go_wp2_with fail
                go_roundw
                case rel => exact ⟨p + 1, by go_num, by omega, hFW, HZ⟩
                case measure => simp [intOf]; omega
        · have HX : Hid (decide (endK shtK s 0 = s.size) = true) := by
            show _ = true
            have e := HC.out
            rw [endK_stop shtK s p (fun h => hp h.1)] at e
            exact decide_eq_true (by omega)
          clear HC
          go_wp2_with fail
          go_ret
          rw [HX.out]
          exact ⟨rfl, hF⟩
#print axioms rsheetName_any
end Go.Proofs.YthokhnbecgkpbaaDoor
