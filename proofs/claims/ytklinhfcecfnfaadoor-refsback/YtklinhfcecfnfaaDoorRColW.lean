/- RefsColumns: the law's walk. -/
import Derived.Test.YtklinhfcecfnfaaDoorRRfC
namespace Go.Proofs.YtklinhfcecfnfaaDoor
open Go.RowKit Go.Shelf

/-- What Column answers. -/
def clnS (n : Int) : ByteArray := if 0 ≤ n ∧ n < 1024 then baL (ltrL n.toNat) else ⟨#[]⟩
def clnE (n : Int) : Int := if 0 ≤ n ∧ n < 1024 then 0 else 110
theorem cln_is (n : Int) : (if 0 ≤ n ∧ n < 1024 then Value.tuple #[.string (baL (ltrL n.toNat)), .int .i64 0] else .tuple #[.string ⟨#[]⟩, .int .i64 110]) = .tuple #[.string (clnS n), .int .i64 (clnE n)] := by
  unfold clnS clnE
  split <;> rfl
def pclN (s : ByteArray) : Int := match colF s with
  | some n => (n : Int)
  | none => 0
def pclE (s : ByteArray) : Int := match colF s with
  | some _ => 0
  | none => 110
theorem pcl_is (s : ByteArray) : colV (colF s) = .tuple #[.int .i64 (pclN s), .int .i64 (pclE s)] := by
  unfold colV pclN pclE
  cases colF s <;> rfl
set_option maxRecDepth 100000 in
set_option maxHeartbeats 2000000 in
theorem columns_walk (n : Int) (s : ByteArray) (w : World) : Calls Tryd.prog 3 #[.int .i64 n, .string s] w fun e w' => e = .returned (.bool true) ∧ Below w.heap.size w w' := by
  have H0 := live_true
  have H1 := column_any n
  have H2 := rcolumn_any n
  have H3 := parseCol_any s
  have H4 := rparseCol_any s
  rw [cln_is] at H1 H2
  rw [pcl_is] at H3 H4
  generalize clnS n = S at *
  generalize clnE n = E at *
  generalize pclN s = N at *
  generalize pclE s = M at *
  go_enter Tryd.func3, Tryd.ntmps3
  go_wp2_with (first
    | (go_at_call 9; refine (H1 _).mono ?_; rintro e w1 ⟨rfl, rfl⟩)
    | (go_at_call 10; refine (H2 _).mono ?_; rintro e w2 ⟨rfl, hF2⟩)
    | (go_at_call 11; refine (H3 _).mono ?_; rintro e w3 ⟨rfl, hF3⟩)
    | (go_at_call 12; refine (H4 _).mono ?_; rintro e w4 ⟨rfl, rfl⟩)
    | (go_at_call 13; refine (H0 _).mono ?_; rintro e w5 ⟨rfl, hF5⟩))
  go_ret
  exact ⟨rfl, ((hF2.trans hF3).trans hF5).below (Nat.le_refl _) (fun _ h => h.elim)⟩
#print axioms columns_walk
end Go.Proofs.YtklinhfcecfnfaaDoor
