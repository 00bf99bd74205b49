/- Columns, words, names: the program's small functions. -/
import Derived.Test.YthokhnbecgkpbaaDoorCBas2
import Derived.Test.YthokhnbecgkpbaaDoorRPln
import Derived.Test.YthokhnbecgkpbaaDoorShelf
namespace Go.Proofs.YthokhnbecgkpbaaDoor
open Go.RowKit Go.Shelf

set_option maxRecDepth 100000 in
theorem isCol_any (n : Int) (w : World) : Calls Tryd.prog 83 #[.int .i64 n] w fun e w' => e = .returned (.bool (decide (0 ≤ n ∧ n < 1024))) ∧ w' = w := by
  go_enter Tryd.func83, Tryd.ntmps83
  go_wp2_with fail
  all_goals
    go_ret
    exact ⟨ret_bool (by rw [Bool.eq_iff_iff]; simp; try omega), rfl⟩

/-- The letters of the m-th column, from 1 on. -/
def ltrGo : Nat → Nat → List UInt8
  | 0, _ => []
  | f + 1, m => if m = 0 then [] else ltrGo f ((m - 1) / 26) ++ [UInt8.ofNat (65 + (m - 1) % 26)]
def ltrL (n : Nat) : List UInt8 := ltrGo 1025 (n + 1)
theorem conv_cap (k : Nat) (h : k < 26) (w : World) : (convert 21 9 (.int .i32 ((65 : Int) + (k : Int)))).run Tryd.prog w = .ok (.string (baL [UInt8.ofNat (65 + k)])) w := by
  have e : k = 0 ∨ k = 1 ∨ k = 2 ∨ k = 3 ∨ k = 4 ∨ k = 5 ∨ k = 6 ∨ k = 7 ∨ k = 8 ∨ k = 9 ∨ k = 10 ∨ k = 11 ∨ k = 12 ∨ k = 13 ∨ k = 14 ∨ k = 15 ∨ k = 16 ∨ k = 17 ∨ k = 18 ∨ k = 19 ∨ k = 20 ∨ k = 21 ∨ k = 22 ∨ k = 23 ∨ k = 24 ∨ k = 25 := by omega
  rcases e with rfl | rfl | rfl | rfl | rfl | rfl | rfl | rfl | rfl | rfl | rfl | rfl | rfl | rfl | rfl | rfl | rfl | rfl | rfl | rfl | rfl | rfl | rfl | rfl | rfl | rfl <;> (show _ = _; kernel_rfl)
theorem ltrGo_len : ∀ (g m : Nat), (ltrGo g m).length ≤ m
  | 0, m => by simp [ltrGo]
  | g + 1, m => by
    rw [ltrGo]
    split
    · simp
    · have := ltrGo_len g ((m - 1) / 26)
      simp
      omega
end Go.Proofs.YthokhnbecgkpbaaDoor
