/- The calendar: the program's contracts. -/
import Derived.Test.YtdmjbhbiehjelaaGreatDoorProg
import Derived.Test.YtdmjbhbiehjelaaGreatDoorK01
import Derived.Test.YtdmjbhbiehjelaaGreatDoorK06
import Derived.WalkKit
import Derived.WalkSpells
import Derived.WalkLawsBesides
import Derived.Laws.BitsAllLaws
import Derived.Laws.Rows
import Derived.Deep.LoopGhost
import Derived.Deep.RegionHeld3
import Derived.Deep.DeepCutAuto
namespace Go.Proofs.YtdmjbhbiehjelaaGreatDoor
open Go.RowKit

theorem ret_int {k : IntKind} {a b : Int} (h : a = b) : Ending.returned (.int k a) = .returned (.int k b) := by rw [h]
theorem ret_bool {a b : Bool} (h : a = b) : Ending.returned (.bool a) = .returned (.bool b) := by rw [h]

/-- The days of the months, of February in a year that is no leap year. -/
def mdays : List Int := [31, 28, 31, 30, 31, 30, 31, 31, 30, 31, 30, 31]
/-- Is it a leap year? -/
def leapF (y : Int) : Bool := (y % 4 == 0 && y % 100 != 0) || y % 400 == 0
/-- The days of a month. -/
def domF (y : Int) (m : Nat) : Int := if m = 2 ∧ leapF y = true then 29 else mdays.getD (m - 1) 0
/-- An integer value's number. -/
def intOf : Value → Int
  | .int _ n => n
  | _ => 0
/-- The days of the years ahead of a year. -/
def aheadF (y : Int) : Int := (y - 1) * 365 + (y - 1) / 4 - (y - 1) / 100 + (y - 1) / 400
/-- Is there such a date? -/
def dateF (y m d : Int) : Bool := decide (1 ≤ y ∧ y ≤ 9999 ∧ 1 ≤ m ∧ m ≤ 12 ∧ 1 ≤ d ∧ d ≤ domF y m.toNat)
theorem domF_bounds (y : Int) (m : Nat) : 0 ≤ domF y m ∧ domF y m ≤ 31 := by
  unfold domF
  split
  · omega
  · rcases Nat.lt_or_ge (m - 1) 12 with h | h
    · have : ∀ i, i < 12 → 0 ≤ mdays.getD i 0 ∧ mdays.getD i 0 ≤ 31 := by decide
      exact this _ h
    · rw [List.getD, List.getElem?_eq_none (by simp [mdays]; omega)]; simp
/-- The days of the first k months of a year. -/
def upF (y : Int) : Nat → Int
  | 0 => 0
  | k + 1 => upF y k + domF y (k + 1)
theorem upF_bounds (y : Int) (k : Nat) : 0 ≤ upF y k ∧ upF y k ≤ 31 * k := by
  induction k with
  | zero => simp [upF]
  | succ k ih => have := domF_bounds y (k + 1); simp only [upF]; omega
/-- The number of a date. -/
def dayF (y : Int) (m : Nat) (d : Int) : Int := -693593 + aheadF y + upF y (m - 1) + d - 1

end Go.Proofs.YtdmjbhbiehjelaaGreatDoor
