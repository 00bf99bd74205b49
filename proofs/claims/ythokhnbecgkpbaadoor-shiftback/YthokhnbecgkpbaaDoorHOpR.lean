/- References and cells among the arguments: opened and shut. -/
import Derived.Test.YthokhnbecgkpbaaDoorHOpn
namespace Go.Proofs.YthokhnbecgkpbaaDoor
open Go.ChangeShapes Go.WideShapes Go.ChangeAt Go.RowKit

section
variable {H : Type} {enc : TypeId × Value → H} {W : World}
theorem ccR : Tryd.prog.cellsOf 46 = 12 ∧ Tryd.prog.cellsOf 44 = 4 ∧ Tryd.prog.cellsOf 3 = 1 ∧ Tryd.prog.cellsOf 9 = 1 ∧ Tryd.prog.cellsOf 4 = 1 := ⟨by kernel_rfl, by kernel_rfl, by kernel_rfl, by kernel_rfl, by kernel_rfl⟩
set_option maxRecDepth 100000 in
theorem corner_trod {fuel : Nat} {v0 v1 v2 v3 : Value} {x : DataW H × List MemPlace} (h : DataW.trod enc Tryd.prog W 0 (fun _ => true) true fuel 44 [v0, v1, v2, v3] = some x) :
    ∃ (r c : Int) (a b : Bool), v0 = .int .i64 r ∧ v1 = .int .i64 c ∧ v2 = .bool a ∧ v3 = .bool b ∧ x = (.agg [.lit (.int .i64 r), .lit (.int .i64 c), .lit (.bool a), .lit (.bool b)], []) ∧ (Lit.int .i64 r).wf = true ∧ (Lit.int .i64 c).wf = true := by
  obtain ⟨_, _, c1, c3, c4⟩ := ccR
  obtain ⟨xs, k, _, hxy, _, hxl, hf⟩ := DataW.trod_struct Tryd.underlying44 h
  match xs, hxl with
  | [y0, y1, y2, y3], _ =>
    have g0 := hf 0 _ rfl
    have g1 := hf 1 _ rfl
    have g2 := hf 2 _ rfl
    have g3 := hf 3 _ rfl
    simp [c1, c4] at g0 g1 g2 g3
    obtain ⟨n0, e0, rfl, w0⟩ := DataW.trod_int Tryd.underlying3 g0
    obtain ⟨n1, e1, rfl, w1⟩ := DataW.trod_int Tryd.underlying3 g1
    obtain ⟨n2, e2, rfl⟩ := DataW.trod_bool Tryd.underlying4 g2
    obtain ⟨n3, e3, rfl⟩ := DataW.trod_bool Tryd.underlying4 g3
    simp only [List.cons.injEq, and_true] at e0 e1 e2 e3
    exact ⟨n0, n1, n2, n3, e0, e1, e2, e3, by rw [hxy]; rfl, w0, w1⟩
set_option maxRecDepth 100000 in
theorem open_ref {r : Reach} {b0 : Nat} {v : Value} {dd : DataW H} {ps : List MemPlace} (hval : Value.okWide Tryd.prog W r b0 46 v) (hd : DataW.Trod enc Tryd.prog W 0 (fun _ => true) true 46 v dd ps) :
    ∃ (t u : ByteArray) (fx ar : Bool) (r1 c1 : Int) (x1 y1 : Bool) (r2 c2 : Int) (x2 y2 : Bool), v = (.agg #[.string t, .string u, .bool fx, .bool ar, .int .i64 r1, .int .i64 c1, .bool x1, .bool y1, .int .i64 r2, .int .i64 c2, .bool x2, .bool y2]) ∧ dd = .agg [.lit (.string t.data.toList), .lit (.string u.data.toList), .lit (.bool fx), .lit (.bool ar), .agg [.lit (.int .i64 r1), .lit (.int .i64 c1), .lit (.bool x1), .lit (.bool y1)], .agg [.lit (.int .i64 r2), .lit (.int .i64 c2), .lit (.bool x2), .lit (.bool y2)]] ∧ ps = [] ∧
      t.size ≤ maxLen ∧ u.size ≤ maxLen ∧ (Lit.int .i64 r1).wf = true ∧ (Lit.int .i64 c1).wf = true ∧ (Lit.int .i64 r2).wf = true ∧ (Lit.int .i64 c2).wf = true := by
  obtain ⟨hc12, hc4, c1, c3, c4⟩ := ccR
  simp only [Value.okWide, Tryd.underlying46] at hval
  obtain ⟨cs, rfl, hs, _⟩ := hval
  rw [hc12] at hs
  obtain ⟨l⟩ := cs
  match l, hs with
  | [v0, v1, v2, v3, v4, v5, v6, v7, v8, v9, v10, v11], _ =>
    obtain ⟨fuel, hf⟩ := hd
    obtain ⟨xs, k, _, hxy, _, hxl, hf⟩ := DataW.trod_struct Tryd.underlying46 hf
    match xs, hxl with
    | [y0, y1, y2, y3, y4, y5], _ =>
      have g0 := hf 0 _ rfl
      have g1 := hf 1 _ rfl
      have g2 := hf 2 _ rfl
      have g3 := hf 3 _ rfl
      have g4 := hf 4 _ rfl
      have g5 := hf 5 _ rfl
      simp [c3, c4, hc4, Value.cells] at g0 g1 g2 g3 g4 g5
      obtain ⟨n0, e0, rfl, w0⟩ := DataW.trod_string Tryd.underlying9 g0
      obtain ⟨n1, e1, rfl, w1⟩ := DataW.trod_string Tryd.underlying9 g1
      obtain ⟨n2, e2, rfl⟩ := DataW.trod_bool Tryd.underlying4 g2
      obtain ⟨n3, e3, rfl⟩ := DataW.trod_bool Tryd.underlying4 g3
      simp only [List.cons.injEq, and_true] at e0 e1 e2 e3
      subst e0 e1 e2 e3
      obtain ⟨a0, a1, a2, a3, rfl, rfl, rfl, rfl, rfl, w4, w5⟩ := corner_trod g4
      obtain ⟨b0, b1, b2, b3, rfl, rfl, rfl, rfl, rfl, w6, w7⟩ := corner_trod g5
      simp only [Prod.mk.injEq] at hxy
      exact ⟨n0, n1, n2, n3, a0, a1, a2, a3, b0, b1, b2, b3, rfl, by rw [hxy.1]; rfl, by rw [hxy.2]; rfl, w0, w1, w4, w5, w6, w7⟩
set_option maxRecDepth 100000 in
theorem shut_ref {sp : Nat → Bool} {t u : ByteArray} {fx ar : Bool} {r1 c1 : Int} {x1 y1 : Bool} {r2 c2 : Int} {x2 y2 : Bool} (w0 : t.size ≤ maxLen) (w1 : u.size ≤ maxLen) (w2 : (Lit.int .i64 r1).wf = true) (w3 : (Lit.int .i64 c1).wf = true) (w4 : (Lit.int .i64 r2).wf = true) (w5 : (Lit.int .i64 c2).wf = true) :
    DataW.Trod enc Tryd.prog W 0 sp true 46 (.agg #[.string t, .string u, .bool fx, .bool ar, .int .i64 r1, .int .i64 c1, .bool x1, .bool y1, .int .i64 r2, .int .i64 c2, .bool x2, .bool y2]) (.agg [.lit (.string t.data.toList), .lit (.string u.data.toList), .lit (.bool fx), .lit (.bool ar), .agg [.lit (.int .i64 r1), .lit (.int .i64 c1), .lit (.bool x1), .lit (.bool y1)], .agg [.lit (.int .i64 r2), .lit (.int .i64 c2), .lit (.bool x2), .lit (.bool y2)]]) [] := by
  obtain ⟨hc12, hc4, k1, k3, k4⟩ := ccR
  exact ⟨3, by
    show DataW.trod enc Tryd.prog W 0 sp true (2 + 1) 46 [.string t, .string u, .bool fx, .bool ar, .int .i64 r1, .int .i64 c1, .bool x1, .bool y1, .int .i64 r2, .int .i64 c2, .bool x2, .bool y2] = _
    simp [DataW.trod, Tryd.underlying46, Tryd.underlying44, Tryd.underlying3, Tryd.underlying9, Tryd.underlying4, hc12, hc4, k1, k3, k4, w0, w1, w2, w3, w4, w5]⟩
end
#print axioms open_ref
#print axioms shut_ref
end Go.Proofs.YthokhnbecgkpbaaDoor
