/- The calendar: the program's contracts. -/
import Derived.Test.YtnklmcmdlobicaaGreatDoorProg
import Derived.Test.YtnklmcmdlobicaaGreatDoorFrame
import Derived.Test.YtnklmcmdlobicaaGreatDoorNFl2
import Derived.WalkKit
import Derived.WalkSpells
import Derived.WalkLawsBesides
import Derived.Laws.BitsAllLaws
import Derived.Laws.Rows
import Derived.Deep.LoopGhost
import Derived.Deep.RegionHeld3
import Derived.Deep.DeepCutAuto
namespace Go.Proofs.YtnklmcmdlobicaaGreatDoor
open Go.RowKit

theorem ret_int {k : IntKind} {a b : Int} (h : a = b) : Ending.returned (.int k a) = .returned (.int k b) := by rw [h]
theorem ret_bool {a b : Bool} (h : a = b) : Ending.returned (.bool a) = .returned (.bool b) := by rw [h]

/-- The days of the months, of February in a year that is no leap year. -/
def mdays : List Int := [31, 28, 31, 30, 31, 30, 31, 31, 30, 31, 30, 31]
/-- Is it a leap year? -/
def leapF (y : Int) : Bool := (y % 4 == 0 && y % 100 != 0) || y % 400 == 0
/-- The days of a month. -/
def domF (y : Int) (m : Nat) : Int := if m = 2 ∧ leapF y = true then 29 else mdays.getD (m - 1) 0
/-- An integer value's number. -/
def intOf : Value → Int
  | .int _ n => n
  | _ => 0
/-- The table of the program lies where it should. -/
def MTab (w : World) : Prop := 13 < w.heap.size ∧ ∀ i, i < 12 → w.cell? ⟨13, i, none⟩ = some (.int .i64 (mdays.getD i 0))

set_option maxRecDepth 100000 in
theorem isLeap_any (y : Int) (h0 : 0 ≤ y) (h1 : y ≤ 100000) (w : World) : Calls Tryz.prog 249 #[.int .i64 y] w fun e w' => e = .returned (.bool (leapF y)) ∧ w' = w := by
  go_enter Tryz.func249, Tryz.ntmps249
  go_wp2_with fail
  all_goals
    go_ret
    exact ⟨ret_bool (by unfold leapF; simp_all), rfl⟩

theorem MTab.fr {w w' : World} (h : MTab w) (hF : Fr noB w w') : MTab w' := ⟨Nat.lt_of_lt_of_le h.1 hF.size, fun i hi => (hF.cell (a := ⟨13, i, none⟩) h.1 id).trans (h.2 i hi)⟩

set_option maxRecDepth 100000 in
set_option maxHeartbeats 1000000 in
theorem daysOfMonth_any (y : Int) (m : Nat) (h0 : 0 ≤ y) (h1 : y ≤ 100000) (hm : 1 ≤ m) (hm2 : m ≤ 12) (w : World) (hT : MTab w) : Calls Tryz.prog 240 #[.int .i64 y, .int .i64 (m : Int)] w fun e w' => e = .returned (.int .i64 (domF y m)) ∧ w' = w := by
  obtain ⟨i, rfl⟩ : ∃ i, m = i + 1 := ⟨m - 1, by omega⟩
  have hc := hT.2 i (by omega)
  have HL := isLeap_any y h0 h1
  unfold domF
  rw [show i + 1 - 1 = i by omega]
  generalize mdays.getD i 0 = v at *
  generalize leapF y = b at *
  by_cases h2 : i = 1
  · subst h2
    cases b with
    | true =>
      go_enter Tryz.func240, Tryz.ntmps240
      go_wp2_with (go_at_call 249; refine (HL _).mono ?_; rintro e w1 ⟨rfl, rfl⟩)
      go_ret
      exact ⟨rfl, rfl⟩
    | false =>
      go_enter Tryz.func240, Tryz.ntmps240
      go_wp2_with (go_at_call 249; refine (HL _).mono ?_; rintro e w1 ⟨rfl, rfl⟩)
      go_ret
      exact ⟨rfl, rfl⟩
  · rw [if_neg (by omega)]
    go_enter Tryz.func240, Tryz.ntmps240
    go_wp2_with (go_at_call 249; refine (HL _).mono ?_; rintro e w1 ⟨rfl, rfl⟩)
    go_ret
    exact ⟨rfl, rfl⟩

/-- The days of the years ahead of a year. -/
def aheadF (y : Int) : Int := (y - 1) * 365 + (y - 1) / 4 - (y - 1) / 100 + (y - 1) / 400
set_option maxRecDepth 100000 in
set_option maxHeartbeats 1000000 in
theorem daysAhead_any (y : Int) (h0 : 1 ≤ y) (h1 : y ≤ 100000) (w : World) : Calls Tryz.prog 239 #[.int .i64 y] w fun e w' => e = .returned (.int .i64 (aheadF y)) ∧ w' = w := by
  obtain ⟨n, rfl⟩ : ∃ n : Nat, y = (n : Int) + 1 := ⟨(y - 1).toNat, by omega⟩
  unfold aheadF
  rw [show (n : Int) + 1 - 1 = n by omega]
  go_enter Tryz.func239, Tryz.ntmps239
  go_wp2_with fail
  go_ret
  exact ⟨ret_int (by go_num), rfl⟩

/-- Is there such a date? -/
def dateF (y m d : Int) : Bool := decide (1 ≤ y ∧ y ≤ 9999 ∧ 1 ≤ m ∧ m ≤ 12 ∧ 1 ≤ d ∧ d ≤ domF y m.toNat)
theorem domF_bounds (y : Int) (m : Nat) : 0 ≤ domF y m ∧ domF y m ≤ 31 := by
  unfold domF
  split
  · omega
  · rcases Nat.lt_or_ge (m - 1) 12 with h | h
    · have : ∀ i, i < 12 → 0 ≤ mdays.getD i 0 ∧ mdays.getD i 0 ≤ 31 := by decide
      exact this _ h
    · rw [List.getD, List.getElem?_eq_none (by simp [mdays]; omega)]; simp
/-- The days of the first k months of a year. -/
def upF (y : Int) : Nat → Int
  | 0 => 0
  | k + 1 => upF y k + domF y (k + 1)
theorem upF_bounds (y : Int) (k : Nat) : 0 ≤ upF y k ∧ upF y k ≤ 31 * k := by
  induction k with
  | zero => simp [upF]
  | succ k ih => have := domF_bounds y (k + 1); simp only [upF]; omega
/-- The number of a date. -/
def dayF (y : Int) (m : Nat) (d : Int) : Int := -693593 + aheadF y + upF y (m - 1) + d - 1

end Go.Proofs.YtnklmcmdlobicaaGreatDoor
