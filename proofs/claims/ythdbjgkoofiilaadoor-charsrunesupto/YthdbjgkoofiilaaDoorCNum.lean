/- Numbers of references: the program's contracts of worth, numbered, referred. -/
import Derived.Test.YthdbjgkoofiilaaDoorCNam
namespace Go.Proofs.YthdbjgkoofiilaaDoor
open Go.RowKit

/-- What a digit counts, or 16. -/
def worthF (r : Int) : Int := if btw r 48 57 then r - 48 else if btw r 97 102 then r - 97 + 10 else if btw r 65 70 then r - 65 + 10 else 16
theorem worthF_bounds (r : Int) : 0 ≤ worthF r ∧ worthF r ≤ 16 := by
  unfold worthF btw
  simp only [Bool.and_eq_true, decide_eq_true_eq]
  repeat' split
  all_goals omega
set_option maxRecDepth 100000 in
set_option maxHeartbeats 1600000 in
theorem worth_any (r : Int) (hr : 0 ≤ r) (hr2 : r ≤ 2147483647) (w : World) : Calls Tryd.prog 35 #[.int .i32 r] w fun e w' => e = .returned (.int .i32 (worthF r)) ∧ w' = w := by
  have HB := between_any r
  cases h1 : btw r 48 57 with
  | true =>
    have H1 := HB 48 57
    rw [h1] at H1
    have e : worthF r = r - 48 := by simp [worthF, h1]
    rw [e]
    simp only [btw, Bool.and_eq_true, decide_eq_true_eq] at h1
    go_enter Tryd.func35, Tryd.ntmps35
    go_wp2_with (go_at_call 31; refine (H1 _).mono ?_; rintro e w1 ⟨rfl, rfl⟩)
    go_ret
    exact ⟨ret_int (by go_num), rfl⟩
  | false =>
    have H1 := HB 48 57
    rw [h1] at H1
    cases h2 : btw r 97 102 with
    | true =>
      have H2 := HB 97 102
      rw [h2] at H2
      have e : worthF r = r - 97 + 10 := by simp [worthF, h1, h2]
      rw [e]
      clear h1
      simp only [btw, Bool.and_eq_true, decide_eq_true_eq] at h2
      go_enter Tryd.func35, Tryd.ntmps35
      go_wp2_with (go_at_call 31; (first | with_reducible refine (H1 _).mono ?_ | with_reducible refine (H2 _).mono ?_); rintro e w1 ⟨rfl, rfl⟩)
      go_ret
      exact ⟨ret_int (by go_num), rfl⟩
    | false =>
      have H2 := HB 97 102
      rw [h2] at H2
      have H3 := HB 65 70
      cases h3 : btw r 65 70 with
      | true =>
        rw [h3] at H3
        have e : worthF r = r - 65 + 10 := by simp [worthF, h1, h2, h3]
        rw [e]
        clear h1 h2
        simp only [btw, Bool.and_eq_true, decide_eq_true_eq] at h3
        go_enter Tryd.func35, Tryd.ntmps35
        go_wp2_with (go_at_call 31; (first | with_reducible refine (H1 _).mono ?_ | with_reducible refine (H2 _).mono ?_ | with_reducible refine (H3 _).mono ?_); rintro e w1 ⟨rfl, rfl⟩)
        go_ret
        exact ⟨ret_int (by go_num), rfl⟩
      | false =>
        rw [h3] at H3
        have e : worthF r = 16 := by simp [worthF, h1, h2, h3]
        rw [e]
        clear h1 h2 h3
        go_enter Tryd.func35, Tryd.ntmps35
        go_wp2_with (go_at_call 31; (first | with_reducible refine (H1 _).mono ?_ | with_reducible refine (H2 _).mono ?_ | with_reducible refine (H3 _).mono ?_); rintro e w1 ⟨rfl, rfl⟩)
        go_ret
        exact ⟨rfl, rfl⟩

/-- The number that digits are, held; is it a character? -/
def numL (base : Int) : Int → List (Nat × Nat × Nat) → Int × Bool
  | n, [] => (n, charF n)
  | n, x :: t => if base ≤ worthF x.2.1 then (0, false) else numL base (if 1114112 < n * base + worthF x.2.1 then 1114112 else n * base + worthF x.2.1) t
def numF (base : Int) (s : ByteArray) : Int × Bool := numL base 0 (runs s 0)

set_option maxRecDepth 100000 in
set_option maxHeartbeats 4000000 in
theorem numbered_any (s : ByteArray) (base : Int) (hb : 0 ≤ base ∧ base ≤ 16) (w : World) : Calls Tryd.prog 28 #[.string s, .int .i32 base] w fun e w' => e = .returned (.tuple #[.int .i32 (numF base s).1, .bool (numF base s).2]) ∧ Fr noB w w' := by
  go_enter Tryd.func28, Tryd.ntmps28
  go_wp2
  go_loopw [6] (fun n w' => ∃ (pos : Nat) (num : Int), w' = w.iter s pos ∧ n = .int .i32 num ∧ 0 ≤ num ∧ num ≤ 1114112 ∧ Hid (numL base num (runs s pos) = numF base s)) (fun _ w' => s.size - w'.iterPos w.heap.size)
  case atStart => exact ⟨0, 0, rfl, rfl, by omega, by omega, rfl⟩
  case round =>
    obtain ⟨pos, num, rfl, rfl, h0, h1, HC⟩ := hrel
    by_cases hp : pos < s.size
    · have hnx : ∀ ty, (Instr.next (.pointer (some ⟨w.heap.size, 0, none⟩)) true ty).run Tryd.prog (w.iter s pos) = _ := fun ty => run_next_any w s pos ty hp
      have hwd := width_pos s pos hp
      have hdl := decode_le s pos
      have HC2 := HC.out
      rw [runs_step s pos hp, numL] at HC2
      simp only at HC2
      obtain ⟨⟨r, n⟩, hd⟩ : ∃ d, Utf8.decode s pos = d := ⟨_, rfl⟩
      rw [hd] at hnx hwd HC2 hdl
      simp only at hnx hwd HC2 hdl
      have HF : Fr noB w (w.iter s (pos + n)) := (Fr.refl noB w).alloc _
      have HW := worth_any (r : Int) (by omega) (by omega)
      have hwb := worthF_bounds (r : Int)
      generalize worthF (r : Int) = v at *
      clear hd HC
      by_cases hv : base ≤ v
      · rw [if_pos hv] at HC2
        have HX : Hid (numF base s = (0, false)) := HC2.symm
        clear HC2
        have hv' : v ≥ base := hv
        go_wp2_with (go_at_call 35; refine (HW _).mono ?_; rintro e w1 ⟨rfl, rfl⟩)
        go_ret2
        rw [HX.out]
        exact ⟨rfl, HF⟩
      · rw [if_neg hv] at HC2
        have HX : Hid (numL base (if 1114112 < num * base + v then 1114112 else num * base + v) (runs s (pos + n)) = numF base s) := HC2
        clear HC2
        have hv' : ¬ v ≥ base := hv
        have hm : 0 ≤ num * base := Int.mul_nonneg h0 hb.1
        have hm2 : num * base ≤ 1114112 * 16 := Int.mul_le_mul h1 hb.2 hb.1 (by omega)
        obtain ⟨m, hmm⟩ : ∃ m, num * base = m := ⟨_, rfl⟩
        rw [hmm] at hm hm2
        have HM : Hid (num * base = m) := hmm
        rw [hmm] at HX
        clear hv
        go_wp2_with (go_at_call 35; refine (HW _).mono ?_; rintro e w1 ⟨rfl, rfl⟩)
        go_roundw
        case rel => exact ⟨_, _, rfl, rfl, by split <;> omega, by split <;> omega, HX⟩
        case measure => simp; omega
    · have hnx : ∀ ty, (Instr.next (.pointer (some ⟨w.heap.size, 0, none⟩)) true ty).run Tryd.prog (w.iter s pos) = _ := fun ty => run_next_end w s pos ty hp
      have HX : Hid (numF base s = (num, charF num)) := by
        have := HC.out
        rw [runs_end s pos hp] at this
        exact this.symm
      clear HC
      go_wp2_with (go_at_call 24; refine (char_any _ _).mono ?_; rintro e w1 ⟨rfl, rfl⟩)
      go_ret2
      rw [HX.out]
      exact ⟨rfl, (Fr.refl noB w).alloc _⟩

/-- What a reference says, by what stands in it between its first sign and its last. -/
def refF (s : ByteArray) : Int × Bool :=
  if s.toList == [97, 109, 112] then (38, true) else if s.toList == [108, 116] then (60, true) else if s.toList == [103, 116] then (62, true)
  else if s.toList == [113, 117, 111, 116] then (34, true) else if s.toList == [97, 112, 111, 115] then (39, true)
  else if decide (2 ≤ s.size) && ((s.extract 0 2).toList == [35, 120]) then numF 16 (s.extract 2 s.size)
  else if decide (1 ≤ s.size) && ((s.extract 0 1).toList == [35]) then numF 10 (s.extract 1 s.size) else (0, false)
/-- Does the text begin with these bytes? -/
def begF (s p : ByteArray) : Bool := decide (p.size ≤ s.size) && ((s.extract 0 p.size).toList == p.toList)
set_option maxRecDepth 100000 in
set_option maxHeartbeats 1600000 in
theorem cutPrefix_x (s : ByteArray) (w : World) : Calls Tryd.prog 27 #[.string s, .string ⟨#[35, 120]⟩] w fun e w' => (e = .returned (.tuple #[.string (if decide (2 ≤ s.size) && ((s.extract 0 2).toList == [35, 120]) then s.extract 2 s.size else s), .bool (decide (2 ≤ s.size) && ((s.extract 0 2).toList == [35, 120]))])) ∧ w' = w := by
  go_enter Tryd.func27, Tryd.ntmps27
  go_wp2
  all_goals
    go_ret2
    simp_all
  all_goals (try omega)
set_option maxRecDepth 100000 in
set_option maxHeartbeats 1600000 in
theorem cutPrefix_d (s : ByteArray) (w : World) : Calls Tryd.prog 27 #[.string s, .string ⟨#[35]⟩] w fun e w' => (e = .returned (.tuple #[.string (if decide (1 ≤ s.size) && ((s.extract 0 1).toList == [35]) then s.extract 1 s.size else s), .bool (decide (1 ≤ s.size) && ((s.extract 0 1).toList == [35]))])) ∧ w' = w := by
  go_enter Tryd.func27, Tryd.ntmps27
  go_wp2
  all_goals
    go_ret2
    simp_all
  all_goals (try omega)
set_option maxRecDepth 100000 in
set_option maxHeartbeats 4000000 in
theorem referred_any (s : ByteArray) (w : World) : Calls Tryd.prog 16 #[.string s] w fun e w' => e = .returned (.tuple #[.int .i32 (refF s).1, .bool (refF s).2]) ∧ Fr noB w w' := by
  obtain ⟨R, hR⟩ : ∃ R, refF s = R := ⟨_, rfl⟩
  rw [hR]
  unfold refF at hR
  have HX := cutPrefix_x s
  have HD := cutPrefix_d s
  generalize (decide (2 ≤ s.size) && ((s.extract 0 2).toList == [35, 120])) = bx at *
  generalize (decide (1 ≤ s.size) && ((s.extract 0 1).toList == [35])) = bd at *
  have HR : Hid _ := hR
  clear hR
  cases bx with
  | true =>
    go_enter Tryd.func16, Tryd.ntmps16
    go_wp2_with (first | (go_at_call 27; (first | with_reducible refine (HX _).mono ?_ | with_reducible refine (HD _).mono ?_); rintro e w1 ⟨rfl, rfl⟩) | (go_at_call 28; refine (numbered_any _ _ (by omega) _).mono ?_; rintro e w1 ⟨rfl, hF⟩))
    all_goals
      go_ret2
      have := HR.out
      simp_all
    all_goals first | done | exact Fr.refl _ _ | (subst this; exact ⟨⟨rfl, rfl⟩, Fr.refl _ _⟩)
  | false =>
    cases bd with
    | true =>
      go_enter Tryd.func16, Tryd.ntmps16
      go_wp2_with (first | (go_at_call 27; (first | with_reducible refine (HX _).mono ?_ | with_reducible refine (HD _).mono ?_); rintro e w1 ⟨rfl, rfl⟩) | (go_at_call 28; refine (numbered_any _ _ (by omega) _).mono ?_; rintro e w1 ⟨rfl, hF⟩))
      all_goals
        go_ret2
        have := HR.out
        simp_all
      all_goals first | done | exact Fr.refl _ _ | (subst this; exact ⟨⟨rfl, rfl⟩, Fr.refl _ _⟩)
    | false =>
      go_enter Tryd.func16, Tryd.ntmps16
      go_wp2_with (first | (go_at_call 27; (first | with_reducible refine (HX _).mono ?_ | with_reducible refine (HD _).mono ?_); rintro e w1 ⟨rfl, rfl⟩) | (go_at_call 28; refine (numbered_any _ _ (by omega) _).mono ?_; rintro e w1 ⟨rfl, hF⟩))
      all_goals
        go_ret2
        have := HR.out
        simp_all
      all_goals first | done | exact Fr.refl _ _ | (subst this; exact ⟨⟨rfl, rfl⟩, Fr.refl _ _⟩)
end Go.Proofs.YthdbjgkoofiilaaDoor
