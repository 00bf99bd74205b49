/- ParseColumn, Column, isWord, SheetName, Quote: the program's contracts. -/
import Derived.Test.YthokhnbecgkpbaaDoorRRun
import Derived.Test.YthokhnbecgkpbaaDoorRPrs
namespace Go.Proofs.YthokhnbecgkpbaaDoor
open Go.RowKit Go.Shelf

/-- What ParseColumn answers. -/
def colV (o : Option Nat) : Value := match o with
  | some n => .tuple #[.int .i64 (n : Int), .int .i64 0]
  | none => .tuple #[.int .i64 0, .int .i64 110]
theorem clone_any (s : ByteArray) (w : World) (hs : s.size ≤ 281474976710656) : Calls Tryd.prog 24 #[.string s] w fun e w' => e = .returned (.string s) ∧ Fr noB w w' := by
  have H := Any.stringslite_Clone Tryd.laysLaysMn316 s
  go_enter Tryd.func24, Tryd.ntmps24
  go_wp2_with (go_at_call 45; refine (show Calls Tryd.prog 45 _ _ _ from H _ hs).mono ?_; rintro e w1 ⟨rfl, hB⟩)
  go_ret
  exact ⟨rfl, Fr.ofBelow hB⟩
#print axioms clone_any
end Go.Proofs.YthokhnbecgkpbaaDoor
