/- What the reading of a spot says of memory: four ints. -/
import Derived.Test.YtpjbobbmldplbaaGreatDoorACuO
import Derived.Test.YtpjbobbmldplbaaGreatDoorK35
namespace Go.Proofs.YtpjbobbmldplbaaGreatDoor
open Go.ChangeShapes Go.WideShapes Go.ChangeAt Go.RowKit Go.Deep

section
variable {H : Type} {enc : TypeId × Value → H} {W : World}
set_option maxRecDepth 100000 in
theorem open_spot {r : Reach} {b0 : Nat} {v : Value} {dd : DataW H} {ps : List MemPlace} (hval : Value.okWide Tryz.prog W r b0 41 v) (hd : DataW.Trod enc Tryz.prog W 0 (fun _ => true) true 41 v dd ps) :
    ∃ (t l r c : Int), v = .agg #[.int .i64 t, .int .i64 l, .int .i64 r, .int .i64 c] ∧ (Lit.int .i64 t).wf = true ∧ (Lit.int .i64 l).wf = true ∧ (Lit.int .i64 r).wf = true ∧ (Lit.int .i64 c).wf = true := by
  obtain ⟨_, _, c1, _⟩ := ccA
  have c4 : Tryz.prog.cellsOf 41 = 4 := by kernel_rfl
  simp only [Value.okWide, Tryz.underlying41] at hval
  obtain ⟨cs, rfl, hs, _⟩ := hval
  rw [c4] at hs
  obtain ⟨l⟩ := cs
  match l, hs with
  | [v0, v1, v2, v3], _ =>
    obtain ⟨fuel, hf⟩ := hd
    obtain ⟨xs, k, _, hxy, _, hxl, hf⟩ := DataW.trod_struct Tryz.underlying41 hf
    match xs, hxl with
    | [y0, y1, y2, y3], _ =>
      have g0 := hf 0 _ rfl
      have g1 := hf 1 _ rfl
      have g2 := hf 2 _ rfl
      have g3 := hf 3 _ rfl
      simp [c1, Value.cells] at g0 g1 g2 g3
      obtain ⟨n0, e0, _, w0⟩ := DataW.trod_int Tryz.underlying3 g0
      obtain ⟨n1, e1, _, w1⟩ := DataW.trod_int Tryz.underlying3 g1
      obtain ⟨n2, e2, _, w2⟩ := DataW.trod_int Tryz.underlying3 g2
      obtain ⟨n3, e3, _, w3⟩ := DataW.trod_int Tryz.underlying3 g3
      simp only [List.cons.injEq, and_true] at e0 e1 e2 e3
      subst e0 e1 e2 e3
      exact ⟨n0, n1, n2, n3, rfl, w0, w1, w2, w3⟩
end
#print axioms open_spot
end Go.Proofs.YtpjbobbmldplbaaGreatDoor
