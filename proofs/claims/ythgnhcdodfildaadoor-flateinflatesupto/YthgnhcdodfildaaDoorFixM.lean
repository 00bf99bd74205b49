/- The fixed code: plain mathematics. No Go text here. -/
import Derived.Test.YthgnhcdodfildaaDoorK03
import Derived.Test.YthgnhcdodfildaaDoorK04
namespace Go.Proofs.YthgnhcdodfildaaDoor

/-- The length of a symbol of the fixed code. -/
def fixL (i : Nat) : Nat := if i < 144 then 8 else if i < 256 then 9 else if i < 280 then 7 else 8
/-- The lengths of the fixed code. -/
def fixLit : List Nat := (List.range 288).map fixL
@[simp] theorem fixLit_length : fixLit.length = 288 := by simp [fixLit]
theorem fixLit_get (i : Nat) (h : i < fixLit.length) : fixLit[i] = fixL i := by simp [fixLit]
theorem fix_code : Code fixLit := ⟨by decide +kernel, by decide +kernel, by decide +kernel, by decide +kernel⟩
theorem fix_codes : ∀ x : Fin 257, codeN fixLit x.1 = if x.1 < 144 then 48 + x.1 else if x.1 < 256 then 256 + x.1 else 0 := by decide +kernel
#print axioms fix_codes
#print axioms fix_code
end Go.Proofs.YthgnhcdodfildaaDoor
