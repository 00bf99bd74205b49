/- The calendar: the program's contracts. -/
import Derived.Test.YtjlmhbdpfncgkaaGreatDoorProg
import Derived.Test.YtjlmhbdpfncgkaaGreatDoorFrame
import Derived.Test.YtjlmhbdpfncgkaaGreatDoorNFl2
import Derived.WalkKit
import Derived.WalkSpells
import Derived.WalkLawsBesides
import Derived.Laws.BitsAllLaws
import Derived.Laws.Rows
import Derived.Deep.LoopGhost
import Derived.Deep.RegionHeld3
import Derived.Deep.DeepCutAuto
namespace Go.Proofs.YtjlmhbdpfncgkaaGreatDoor
open Go.RowKit

theorem ret_int {k : IntKind} {a b : Int} (h : a = b) : Ending.returned (.int k a) = .returned (.int k b) := by rw [h]
theorem ret_bool {a b : Bool} (h : a = b) : Ending.returned (.bool a) = .returned (.bool b) := by rw [h]

/-- The days of the months, of February in a year that is no leap year. -/
def mdays : List Int := [31, 28, 31, 30, 31, 30, 31, 31, 30, 31, 30, 31]
/-- Is it a leap year? -/
def leapF (y : Int) : Bool := (y % 4 == 0 && y % 100 != 0) || y % 400 == 0
/-- The days of a month. -/
def domF (y : Int) (m : Nat) : Int := if m = 2 ∧ leapF y = true then 29 else mdays.getD (m - 1) 0
/-- An integer value's number. -/
def intOf : Value → Int
  | .int _ n => n
  | _ => 0
/-- The table of the program lies where it should. -/
def MTab (w : World) : Prop := 1 < w.heap.size ∧ ∀ i, i < 12 → w.cell? ⟨1, i, none⟩ = some (.int .i64 (mdays.getD i 0))

set_option maxRecDepth 100000 in
theorem isLeap_any (y : Int) (h0 : 0 ≤ y) (h1 : y ≤ 100000) (w : World) : Calls Tryz.prog 74 #[.int .i64 y] w fun e w' => e = .returned (.bool (leapF y)) ∧ w' = w := by
  go_enter Tryz.func74, Tryz.ntmps74
  go_wp2_with fail
  all_goals
    go_ret
    exact ⟨ret_bool (by unfold leapF; simp_all), rfl⟩

theorem MTab.fr {w w' : World} (h : MTab w) (hF : Fr noB w w') : MTab w' := ⟨Nat.lt_of_lt_of_le h.1 hF.size, fun i hi => (hF.cell (a := ⟨1, i, none⟩) h.1 id).trans (h.2 i hi)⟩

set_option maxRecDepth 100000 in
set_option maxHeartbeats 1000000 in
theorem daysOfMonth_any (y : Int) (m : Nat) (h0 : 0 ≤ y) (h1 : y ≤ 100000) (hm : 1 ≤ m) (hm2 : m ≤ 12) (w : World) (hT : MTab w) : Calls Tryz.prog 53 #[.int .i64 y, .int .i64 (m : Int)] w fun e w' => e = .returned (.int .i64 (domF y m)) ∧ w' = w := by
  obtain ⟨i, rfl⟩ : ∃ i, m = i + 1 := ⟨m - 1, by omega⟩
  have hc := hT.2 i (by omega)
  have HL := isLeap_any y h0 h1
  unfold domF
  rw [show i + 1 - 1 = i by omega]
  generalize mdays.getD i 0 = v at *
  generalize leapF y = b at *
  by_cases h2 : i = 1
  · subst h2
    cases b with
    | true =>
      go_enter Tryz.func53, Tryz.ntmps53
      go_wp2_with (go_at_call 74; refine (HL _).mono ?_; rintro e w1 ⟨rfl, rfl⟩)
      go_ret
      exact ⟨rfl, rfl⟩
    | false =>
      go_enter Tryz.func53, Tryz.ntmps53
      go_wp2_with (go_at_call 74; refine (HL _).mono ?_; rintro e w1 ⟨rfl, rfl⟩)
      go_ret
      exact ⟨rfl, rfl⟩
  · rw [if_neg (by omega)]
    go_enter Tryz.func53, Tryz.ntmps53
    go_wp2_with (go_at_call 74; refine (HL _).mono ?_; rintro e w1 ⟨rfl, rfl⟩)
    go_ret
    exact ⟨rfl, rfl⟩

/-- The days of the years ahead of a year. -/
def aheadF (y : Int) : Int := (y - 1) * 365 + (y - 1) / 4 - (y - 1) / 100 + (y - 1) / 400
set_option maxRecDepth 100000 in
set_option maxHeartbeats 1000000 in
theorem daysAhead_any (y : Int) (h0 : 1 ≤ y) (h1 : y ≤ 100000) (w : World) : Calls Tryz.prog 52 #[.int .i64 y] w fun e w' => e = .returned (.int .i64 (aheadF y)) ∧ w' = w := by
  obtain ⟨n, rfl⟩ : ∃ n : Nat, y = (n : Int) + 1 := ⟨(y - 1).toNat, by omega⟩
  unfold aheadF
  rw [show (n : Int) + 1 - 1 = n by omega]
  go_enter Tryz.func52, Tryz.ntmps52
  go_wp2_with fail
  go_ret
  exact ⟨ret_int (by go_num), rfl⟩

/-- Is there such a date? -/
def dateF (y m d : Int) : Bool := decide (1 ≤ y ∧ y ≤ 9999 ∧ 1 ≤ m ∧ m ≤ 12 ∧ 1 ≤ d ∧ d ≤ domF y m.toNat)
theorem domF_bounds (y : Int) (m : Nat) : 0 ≤ domF y m ∧ domF y m ≤ 31 := by
  unfold domF
  split
  · omega
  · rcases Nat.lt_or_ge (m - 1) 12 with h | h
    · have : ∀ i, i < 12 → 0 ≤ mdays.getD i 0 ∧ mdays.getD i 0 ≤ 31 := by decide
      exact this _ h
    · rw [List.getD, List.getElem?_eq_none (by simp [mdays]; omega)]; simp
set_option maxRecDepth 100000 in
set_option maxHeartbeats 1000000 in
theorem isDate_any (y m d : Int) (w : World) (hT : MTab w) : Calls Tryz.prog 51 #[.int .i64 y, .int .i64 m, .int .i64 d] w fun e w' => e = .returned (.bool (dateF y m d)) ∧ w' = w := by
  by_cases hy : 1 ≤ y ∧ y ≤ 9999
  · by_cases hm : 1 ≤ m ∧ m ≤ 12
    · obtain ⟨k, rfl⟩ : ∃ k : Nat, m = (k : Int) := ⟨m.toNat, by omega⟩
      have HM := daysOfMonth_any y k (by omega) (by omega) (by omega) (by omega) w hT
      unfold dateF
      rw [Int.toNat_natCast]
      generalize domF y k = v at *
      obtain ⟨hy1, hy2⟩ := hy
      obtain ⟨hm1, hm2⟩ := hm
      go_enter Tryz.func51, Tryz.ntmps51
      go_wp2_with (go_at_call 53; refine HM.mono ?_; rintro e w1 ⟨rfl, rfl⟩)
      all_goals
        go_ret
        exact ⟨ret_bool (by rw [Bool.eq_iff_iff]; simp; try omega), rfl⟩
    · have hf : dateF y m d = false := by unfold dateF; simp; omega
      rw [hf]
      clear hf
      go_enter Tryz.func51, Tryz.ntmps51
      go_wp2_with fail
      all_goals first | omega | (go_ret; exact ⟨ret_bool (by simp; try omega), rfl⟩)
  · have hf : dateF y m d = false := by unfold dateF; simp; omega
    rw [hf]
    clear hf
    go_enter Tryz.func51, Tryz.ntmps51
    go_wp2_with fail
    all_goals first | omega | (go_ret; exact ⟨ret_bool (by simp; try omega), rfl⟩)

/-- The days of the first k months of a year. -/
def upF (y : Int) : Nat → Int
  | 0 => 0
  | k + 1 => upF y k + domF y (k + 1)
theorem upF_bounds (y : Int) (k : Nat) : 0 ≤ upF y k ∧ upF y k ≤ 31 * k := by
  induction k with
  | zero => simp [upF]
  | succ k ih => have := domF_bounds y (k + 1); simp only [upF]; omega
/-- The number of a date. -/
def dayF (y : Int) (m : Nat) (d : Int) : Int := -693593 + aheadF y + upF y (m - 1) + d - 1

set_option maxRecDepth 100000 in
set_option maxHeartbeats 1000000 in
theorem fromDate_any (y m d : Int) (w : World) (hT : MTab w) : Calls Tryz.prog 28 #[.int .i64 y, .int .i64 m, .int .i64 d] w fun e w' => e = .returned (if dateF y m d then .tuple #[.float .f64 (FloatKind.f64.nearest (dayF y m.toNat d)), .int .i64 0] else .tuple #[.float .f64 0, .int .i64 81]) ∧ w' = w := by
  have HD := isDate_any y m d w hT
  cases hf : dateF y m d with
  | false =>
    rw [hf] at HD
    go_enter Tryz.func28, Tryz.ntmps28
    go_wp2_with (go_at_call 51; refine HD.mono ?_; rintro e w1 ⟨rfl, rfl⟩)
    go_ret2
    exact ⟨rfl, rfl⟩
  | true =>
    rw [hf] at HD
    have hd : 1 ≤ y ∧ y ≤ 9999 ∧ 1 ≤ m ∧ m ≤ 12 ∧ 1 ≤ d ∧ d ≤ domF y m.toNat := by simpa [dateF] using hf
    obtain ⟨y1, y2, m1, m2, d1, d2⟩ := hd
    obtain ⟨k, rfl⟩ : ∃ k : Nat, m = (k : Int) + 1 := ⟨(m - 1).toNat, by omega⟩
    have hb := domF_bounds y ((k : Int) + 1).toNat
    have HA := daysAhead_any y y1 (by omega) w
    have HV : Hid (dayF y ((k : Int) + 1).toNat d = -693593 + aheadF y + d - 1 + upF y k) := by
      show _ = _
      unfold dayF
      rw [show ((k : Int) + 1).toNat - 1 = k by omega]
      omega
    have ha : 0 ≤ aheadF y ∧ aheadF y ≤ 4000000 := by unfold aheadF; omega
    have hd3 : d ≤ 31 := by omega
    have HM : Hid (∀ i : Nat, 1 ≤ i → i ≤ 12 → Calls Tryz.prog 53 #[.int .i64 y, .int .i64 (i : Int)] w fun e w' => e = .returned (.int .i64 (domF y i)) ∧ w' = w) := fun i a b => daysOfMonth_any y i (by omega) (by omega) a b w hT
    generalize aheadF y = A at *
    generalize ((k : Int) + 1).toNat = kk at *
    clear hb d2 hf hT
    go_enter Tryz.func28, Tryz.ntmps28
    go_wp2_with (first | (go_at_call 51; refine HD.mono ?_; rintro e w1 ⟨rfl, rfl⟩) | (go_at_call 52; refine HA.mono ?_; rintro e w1 ⟨rfl, rfl⟩))
    go_loop [8, 9] (fun dv mv => ∃ i : Nat, i ≤ k ∧ mv = .int .i64 ((i : Int) + 1) ∧ dv = .int .i64 (-693593 + A + d - 1 + upF y i)) (fun _ mv => 20 - (intOf mv).toNat)
    case atStart => exact ⟨0, Nat.zero_le _, rfl, by simp [upF]⟩
    case round =>
      obtain ⟨i, hi, rfl, rfl⟩ := hrel
      have hub := upF_bounds y i
      by_cases hlt : i < k
      · have H1 := HM.out (i + 1) (by omega) (by omega)
        have hb := domF_bounds y (i + 1)
        have HU : Hid (upF y (i + 1) = upF y i + domF y (i + 1)) := rfl
        generalize domF y (i + 1) = v at *
        generalize upF y i = u at *
        have c1 : (i : Int) + 1 < (k : Int) + 1 := by omega
        rw [show ((i + 1 : Nat) : Int) = (i : Int) + 1 by omega] at H1
        go_wp2_with (go_at_call 53; refine H1.mono ?_; rintro e w2 ⟨rfl, rfl⟩)
        go_round
        case rel => exact ⟨i + 1, by omega, by go_num, by rw [HU.out]; go_num⟩
        case measure => simp [intOf]; omega
      · obtain rfl : i = k := by omega
        generalize -693593 + A + d - 1 + upF y i = v at *
        go_wp2_with fail
        go_ret2
        rw [HV.out]
        exact ⟨rfl, rfl⟩
end Go.Proofs.YtjlmhbdpfncgkaaGreatDoor
