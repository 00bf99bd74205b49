/- Quote of both sides. -/
import Derived.Test.YtdmjbhbiehjelaaGreatDoorLQuM
import Derived.Test.YtdmjbhbiehjelaaGreatDoorRRfV
import Derived.Test.YtdmjbhbiehjelaaGreatDoorK28
namespace Go.Proofs.YtdmjbhbiehjelaaGreatDoor
open Go.RowKit Go.Shelf

/-- Why a text may not be, or 0. -/
def qtE (s : ByteArray) : Int := if (validF s).2 = false then 122 else if 32768 < s.size then 3 else 0
/-- What Quote answers. -/
def qtV (s : ByteArray) : Value := .tuple #[.string (if qtE s = 0 then qtF s else ⟨#[]⟩), .int .i64 (qtE s)]
theorem qtE_cases (s : ByteArray) : ((validF s).2 = false ∧ qtE s = 122) ∨ ((validF s).2 = true ∧ 32768 < s.size ∧ qtE s = 3) ∨ ((validF s).2 = true ∧ s.size ≤ 32768 ∧ qtE s = 0) := by
  unfold qtE
  cases h : (validF s).2 with
  | false => left; exact ⟨rfl, by rw [if_pos rfl]⟩
  | true =>
    right
    rw [if_neg (by simp)]
    by_cases h2 : 32768 < s.size
    · left; exact ⟨rfl, h2, by rw [if_pos h2]⟩
    · right; exact ⟨rfl, by omega, by rw [if_neg h2]⟩
set_option maxRecDepth 100000 in
theorem checkText_lx (s : ByteArray) (w : World) : Calls Tryz.prog 72 #[.string s] w fun e w' => e = .returned (.int .i64 (qtE s)) ∧ Fr noB w w' := by
  have H1 := valid_any s w
  rcases qtE_cases s with ⟨a, b⟩ | ⟨a, b, c⟩ | ⟨a, b, c⟩
  · rw [b]
    rw [a] at H1
    generalize (validF s).1 = p at *
    clear a b
    go_enter Tryz.func72, Tryz.ntmps72
    go_wp2_with (go_at_call 110; refine H1.mono ?_; rintro e w1 ⟨rfl, hF1⟩)
    go_ret
    exact ⟨rfl, hF1⟩
  · rw [c]
    rw [a] at H1
    generalize (validF s).1 = p at *
    have g : (32768 : Int) < (s.size : Int) := by omega
    clear a b c
    go_enter Tryz.func72, Tryz.ntmps72
    go_wp2_with (go_at_call 110; refine H1.mono ?_; rintro e w1 ⟨rfl, hF1⟩)
    go_ret
    exact ⟨rfl, hF1⟩
  · rw [c]
    rw [a] at H1
    generalize (validF s).1 = p at *
    have g : ¬ (32768 : Int) < (s.size : Int) := by omega
    clear a b c
    go_enter Tryz.func72, Tryz.ntmps72
    go_wp2_with (go_at_call 110; refine H1.mono ?_; rintro e w1 ⟨rfl, hF1⟩)
    go_ret
    exact ⟨rfl, hF1⟩
set_option maxRecDepth 100000 in
theorem replaceAll_lx (s : ByteArray) (w : World) (hX : XTab w) (hs : s.size ≤ 32768) : Calls Tryz.prog 73 #[.string s, .string ⟨#[34]⟩, .string ⟨#[34, 34]⟩] w fun e w' => e = .returned (.string (baL (qd s.data.toList))) ∧ Fr noB w w' := by
  have hc : Lib.countB s ⟨#[34]⟩ ≤ s.size := by
    have := Lib.countB_mul_le ⟨#[34]⟩ (show 1 ≤ 1 by omega) s.size s (Nat.le_refl _)
    rw [show (⟨#[34]⟩ : ByteArray).size = 1 from rfl] at this
    omega
  have H1 := repS_any s ⟨#[34]⟩ ⟨#[34, 34]⟩ (-1) w hX (by omega) (show 1 ≤ 1 by omega) (by rw [show (⟨#[34, 34]⟩ : ByteArray).size = 2 from rfl]; omega)
  rw [show (⟨(Lib.replace s.data.toList (⟨#[34]⟩ : ByteArray).data.toList (⟨#[34, 34]⟩ : ByteArray).data.toList (-1)).toArray⟩ : ByteArray) = baL (qd s.data.toList) from by rw [← rep_qd]; rfl] at H1
  generalize baL (qd s.data.toList) = R at *
  generalize (⟨#[34]⟩ : ByteArray) = o at *
  generalize (⟨#[34, 34]⟩ : ByteArray) = n at *
  clear hc hX hs
  go_enter Tryz.func73, Tryz.ntmps73
  go_wp2_with (go_at_call 107; refine H1.mono ?_; rintro e w1 ⟨rfl, hF1⟩)
  go_ret
  exact ⟨rfl, hF1⟩
set_option maxRecDepth 100000 in
set_option maxHeartbeats 1000000 in
theorem quote_lx (s : ByteArray) (w : World) (hX : XTab w) : Calls Tryz.prog 42 #[.string s] w fun e w' => e = .returned (qtV s) ∧ Fr noB w w' := by
  have H1 := checkText_lx s w
  unfold qtV
  by_cases h0 : qtE s = 0
  · have hs : s.size ≤ 32768 := by
      rcases qtE_cases s with ⟨a, b⟩ | ⟨a, b, c⟩ | ⟨a, b, c⟩
      · omega
      · omega
      · exact b
    have H2 : Hid (∀ W, Fr noB w W → Calls Tryz.prog 73 #[.string s, .string ⟨#[34]⟩, .string ⟨#[34, 34]⟩] W fun e w' => e = .returned (.string (baL (qd s.data.toList))) ∧ Fr noB W w') := fun W hW => replaceAll_lx s W (hX.fr hW) hs
    have HJ : Hid _ := qtF_join s
    have hRz : (baL (qd s.data.toList)).size ≤ 65536 := by
      rw [baL_size]
      have h1 := qd_len s.data.toList
      have h2 : s.data.toList.length = s.size := Array.length_toList
      omega
    have z1 : (⟨#[34]⟩ : ByteArray).size = 1 := rfl
    rw [if_pos h0]
    rw [h0] at H1 ⊢
    generalize baL (qd s.data.toList) = R at *
    clear h0 hX
    go_enter Tryz.func42, Tryz.ntmps42
    go_wp2_with (first
      | (go_at_call 72; refine H1.mono ?_; rintro e w1 ⟨rfl, hF1⟩)
      | (go_at_call 73; refine (H2.out _ hF1).mono ?_; rintro e w2 ⟨rfl, hF2⟩))
    go_ret2
    rw [← HJ.out]
    exact ⟨rfl, hF1.trans hF2⟩
  · rw [if_neg h0]
    generalize qtE s = E at *
    clear hX
    go_enter Tryz.func42, Tryz.ntmps42
    go_wp2_with (first
      | (go_at_call 72; refine H1.mono ?_; rintro e w1 ⟨rfl, hF1⟩))
    go_ret2
    exact ⟨rfl, hF1⟩
set_option maxRecDepth 100000 in
set_option maxHeartbeats 2000000 in
theorem rshow_lx (s : ByteArray) (w : World) (hs : s.size ≤ 32768) : Calls Tryz.prog 59 #[(.agg #[.int .i64 2, .float .f64 0, .string s, .bool false, .int .i64 0])] w fun e w' => e = .returned (.string (qtF s)) ∧ Fr noB w w' := by
  go_enter Tryz.func59, Tryz.ntmps59
  go_wp2_with fail
  obtain ⟨W0, hW0⟩ : ∃ W0, w.alloc (.cells #[.int .i64 2, .float .f64 0, .string s, .bool false, .int .i64 0] 86 (0, 0)) = W0 := ⟨_, rfl⟩
  have hB : W0.heap[w.heap.size]? = some (.cells #[.int .i64 2, .float .f64 0, .string s, .bool false, .int .i64 0] 86 (0, 0)) := by rw [← hW0]; exact heap_alloc_new w _
  have HF0 : Hid (Fr noB w W0) := by rw [← hW0]; exact (Fr.refl noB w).alloc _
  rw [hW0]
  clear hW0
  have k2 := cellOf (o := 2) hB rfl
  have k0 := cellOf (o := 0) hB rfl
  clear hB
  have HZ : Hid _ := qtO_zero s
  go_wp2_with fail
  go_loop [5, 6] (fun ov iv => ∃ (i : Nat), ov = .string (qtO s i) ∧ iv = .int .i64 (i : Int) ∧ i ≤ s.size) (fun _ iv => s.size - (intOf iv).toNat)
  case atStart => exact ⟨0, by rw [HZ.out], rfl, Nat.zero_le _⟩
  case round =>
    obtain ⟨i, rfl, rfl, his⟩ := hrel
    by_cases hi : i < s.size
    · have HY := qtO_yes s i hi
      have HN := qtO_no s i hi
      have hoz := qtO_size s i his
      obtain ⟨b, hb⟩ : ∃ b, (s[i]'hi).toNat = b := ⟨_, rfl⟩
      have hx : ∀ hh, (s[i]'hh).toNat = b := fun _ => hb
      rw [hb] at HY HN
      have hi1 : (i : Int) < (s.size : Int) := by omega
      have hi2 : i + 1 ≤ s.size := hi
      by_cases hq : b = 34
      · have HV : Hid _ := HY hq
        subst hq
        clear HY HN hb
        go_wp2_with fail
        go_round
        case rel => exact ⟨i + 1, by rw [← HV.out], by go_num, by omega⟩
        case measure => simp [intOf]; omega
      · have HV : Hid _ := HN hq
        have hq2 : ¬ (b : Int) = 34 := by omega
        clear HY HN hb
        go_wp2_with fail
        go_round
        case rel => exact ⟨i + 1, by rw [← HV.out], by go_num, by omega⟩
        case measure => simp [intOf]; omega
    · obtain rfl : i = s.size := by omega
      have hoz := qtO_size s s.size his
      have HE : Hid _ := qtO_end s
      go_wp2_with fail
      go_ret
      rw [← HE.out]
      exact ⟨rfl, HF0.out⟩
set_option maxRecDepth 100000 in
set_option maxHeartbeats 1000000 in
theorem rquote_lx (s : ByteArray) (w : World) (hs : s.size ≤ 140737488355328) (hT : Tabs w) : Calls Tryz.prog 31 #[.string s] w fun e w' => e = .returned (qtV s) ∧ Fr noB w w' := by
  have H1 := rvalid_any s w hs hT
  have H2 := rshow_lx s
  unfold qtV
  clear hT
  rcases qtE_cases s with ⟨a, b⟩ | ⟨a, b, c⟩ | ⟨a, b, c⟩
  · rw [b, if_neg (by omega)]
    rw [a] at H1
    generalize (validF s).1 = p at *
    clear a b
    go_enter Tryz.func31, Tryz.ntmps31
    go_wp2_with (go_at_call 58; refine H1.mono ?_; rintro e w1 ⟨rfl, hF1⟩)
    go_ret2
    exact ⟨rfl, hF1⟩
  · rw [c, if_neg (by omega)]
    rw [a] at H1
    generalize (validF s).1 = p at *
    have g : (32768 : Int) < (s.size : Int) := by omega
    clear a b c
    go_enter Tryz.func31, Tryz.ntmps31
    go_wp2_with (go_at_call 58; refine H1.mono ?_; rintro e w1 ⟨rfl, hF1⟩)
    go_ret2
    exact ⟨rfl, hF1⟩
  · rw [c, if_pos rfl]
    rw [a] at H1
    generalize (validF s).1 = p at *
    have g : ¬ (32768 : Int) < (s.size : Int) := by omega
    have H3 : Hid (∀ W, Calls Tryz.prog 59 #[(.agg #[.int .i64 2, .float .f64 0, .string s, .bool false, .int .i64 0])] W fun e w' => e = .returned (.string (qtF s)) ∧ Fr noB W w') := fun W => H2 W b
    generalize qtF s = Q at *
    clear a b c H2
    go_enter Tryz.func31, Tryz.ntmps31
    go_wp2_with (first | (go_at_call 58; refine H1.mono ?_; rintro e w1 ⟨rfl, hF1⟩) | (go_at_call 59; refine (H3.out _).mono ?_; rintro e w2 ⟨rfl, hF2⟩))
    go_ret2
    exact ⟨rfl, hF1.trans hF2⟩
#print axioms rquote_lx
#print axioms quote_lx
end Go.Proofs.YtdmjbhbiehjelaaGreatDoor
