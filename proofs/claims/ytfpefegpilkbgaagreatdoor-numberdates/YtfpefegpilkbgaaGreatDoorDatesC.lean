/- Proved: for every date and every float the law NumberDates answers true: the number of a date, and of a float its date, its clock and its weekday are as the document's. The condition: the listed tables read as they are laid (NumberDatesCardSaid, tied to the program's text). -/
import Derived.Test.YtfpefegpilkbgaaGreatDoorNDtW
import Derived.Test.YtfpefegpilkbgaaGreatDoorNLay
namespace Go.Proofs.YtfpefegpilkbgaaGreatDoor.numberDates
open Go.ChangeShapes Go.WideShapes Go.ChangeAt Go.RowKit

section
variable {H : Type} {enc : TypeId × Value → H} {W : World}
set_option maxRecDepth 100000 in
theorem open_date {r : Reach} {b0 : Nat} {v : Value} {dd : DataW H} {ps : List MemPlace} (hval : Value.okWide Tryz.prog W r b0 24 v) (hd : DataW.Trod enc Tryz.prog W 0 (fun _ => true) true 24 v dd ps) :
    ∃ a y m d : Int, v = .agg #[.int .u64 a, .int .i64 y, .int .i64 m, .int .i64 d] ∧ dd = .agg [.lit (.int .u64 a), .lit (.int .i64 y), .lit (.int .i64 m), .lit (.int .i64 d)] ∧ ps = [] ∧ (Lit.int .u64 a).wf = true ∧ (Lit.int .i64 y).wf = true ∧ (Lit.int .i64 m).wf = true ∧ (Lit.int .i64 d).wf = true := by
  have hc4 : Tryz.prog.cellsOf 24 = 4 := by kernel_rfl
  have c1 : Tryz.prog.cellsOf 22 = 1 := by kernel_rfl
  have c2 : Tryz.prog.cellsOf 3 = 1 := by kernel_rfl
  simp only [Value.okWide, Tryz.underlying24] at hval
  obtain ⟨cs, rfl, hs, _⟩ := hval
  rw [hc4] at hs
  obtain ⟨l⟩ := cs
  match l, hs with
  | [v0, v1, v2, v3], _ =>
    obtain ⟨fuel, hf⟩ := hd
    obtain ⟨xs, k, _, hxy, _, hxl, hf⟩ := DataW.trod_struct Tryz.underlying24 hf
    match xs, hxl with
    | [y0, y1, y2, y3], _ =>
      have g0 := hf 0 _ rfl
      have g1 := hf 1 _ rfl
      have g2 := hf 2 _ rfl
      have g3 := hf 3 _ rfl
      simp [c1, c2, Value.cells] at g0 g1 g2 g3
      obtain ⟨n0, e0, rfl, w0⟩ := DataW.trod_int Tryz.underlying22 g0
      obtain ⟨n1, e1, rfl, w1⟩ := DataW.trod_int Tryz.underlying3 g1
      obtain ⟨n2, e2, rfl, w2⟩ := DataW.trod_int Tryz.underlying3 g2
      obtain ⟨n3, e3, rfl, w3⟩ := DataW.trod_int Tryz.underlying3 g3
      simp only [List.cons.injEq, and_true] at e0 e1 e2 e3
      subst e0 e1 e2 e3
      simp only [Prod.mk.injEq] at hxy
      exact ⟨n0, n1, n2, n3, rfl, by rw [hxy.1]; rfl, by rw [hxy.2]; rfl, w0, w1, w2, w3⟩
theorem shut_date {sp : Nat → Bool} {a y m d : Int} (w0 : (Lit.int .u64 a).wf = true) (w1 : (Lit.int .i64 y).wf = true) (w2 : (Lit.int .i64 m).wf = true) (w3 : (Lit.int .i64 d).wf = true) :
    DataW.Trod enc Tryz.prog W 0 sp true 24 (.agg #[.int .u64 a, .int .i64 y, .int .i64 m, .int .i64 d]) (.agg [.lit (.int .u64 a), .lit (.int .i64 y), .lit (.int .i64 m), .lit (.int .i64 d)]) [] := by
  have hc4 : Tryz.prog.cellsOf 24 = 4 := by kernel_rfl
  have c1 : Tryz.prog.cellsOf 22 = 1 := by kernel_rfl
  have c2 : Tryz.prog.cellsOf 3 = 1 := by kernel_rfl
  exact ⟨2, by
    show DataW.trod enc Tryz.prog W 0 sp true (1 + 1) 24 [.int .u64 a, .int .i64 y, .int .i64 m, .int .i64 d] = _
    simp [DataW.trod, Tryz.underlying24, Tryz.underlying22, Tryz.underlying3, hc4, c1, c2, w0, w1, w2, w3]⟩
end

set_option maxRecDepth 100000 in
theorem contract (H : Type) (enc : TypeId × Value → H) (W : World) (base : Nat) (args : Array Value) (ds gs : List (DataW H)) (before : List MemPlace)
    (hval : ∀ (j : Nat) t v, Tryz.f3.params[j]? = some t → args[j]? = some v → Value.okWide Tryz.prog W .any base t v)
    (hW : DataW.Whole enc Tryz.prog Tryz.f3.params.toList Rows.numberDatesSpec.vars false W args.toList ds gs before) (hT : NTabs W) :
    Calls Tryz.prog 3 args W fun e W' => ∃ v, e = .returned v ∧ Rows.numberDatesSpec.post enc Tryz.prog Tryz.f3 false true false false W args v W' := by
  have hW' := hW
  obtain ⟨p, q, hA0, hV, rfl, hfz, hnd⟩ := hW
  have hA : DataW.TrodAll enc Tryz.prog W 0 (fun _ => true) true Tryz.f3.params.toList args.toList ds p := hA0
  rw [Tryz.params3] at hA hval
  obtain ⟨v0, vs0, d0, ds0, p0, q0, hargs, rfl, rfl, h0, r0⟩ := trodAll_cons hA
  obtain ⟨rfl, rfl, rfl⟩ := trodAll_nil r0
  obtain rfl : args = #[v0] := by cases args; simp_all
  obtain ⟨rfl, rfl⟩ := trodVars_none hV
  obtain ⟨a, y, m, d, rfl, rfl, rfl, w0, w1, w2, w3⟩ := open_date (hval 0 24 v0 rfl rfl) h0
  have hb0 : 0 ≤ a ∧ a ≤ 18446744073709551615 := by simpa [Lit.wf, show IntKind.u64.min = 0 from rfl, show IntKind.u64.max = 18446744073709551615 from rfl] using w0
  obtain ⟨n, rfl⟩ : ∃ n : Nat, a = (n : Int) := ⟨a.toNat, by omega⟩
  clear hA0
  try simp only [List.append_nil] at hW'
  refine (dates_walk n y m d (by omega) W hT).mono fun e W' ⟨he, bel⟩ => ?_
  subst he
  exact ⟨_, rfl, _, _, _, [], _, [], hW', trodAll_mk1 (shut_bool Tryz.underlying4 _), (trodAll_cons_mk (shut_date w0 w1 w2 w3) trodAll_mk0), rfl, bel.frame _, fun h => by cases h⟩

theorem reads (os : Os) {H : Type} (enc : TypeId × Value → H) : ∃ places, DataW.whole enc Tryz.prog ((laidWorld os).forCall (fun _ _ => 0) ⟨#[], #[.agg #[.int .u64 0, .int .i64 0, .int .i64 0, .int .i64 0]], []⟩).memory Tryz.f3.params.toList Rows.numberDatesSpec.vars false #[Value.agg #[.int .u64 0, .int .i64 0, .int .i64 0, .int .i64 0]].toList 8 = some ([.agg [.lit (.int .u64 0), .lit (.int .i64 0), .lit (.int .i64 0), .lit (.int .i64 0)]], [], places) :=
  ⟨[], by kernel_rfl⟩

theorem okIn (os : Os) : Input.okWideB Tryz.prog ((laidWorld os).forCall (fun _ _ => 0) ⟨#[], #[.agg #[.int .u64 0, .int .i64 0, .int .i64 0, .int .i64 0]], []⟩) 3 ⟨#[], #[.agg #[.int .u64 0, .int .i64 0, .int .i64 0, .int .i64 0]], []⟩ = true := by kernel_rfl
theorem sized (os : Os) {H : Type} (enc : TypeId × Value → H) : (OpenSpec.ofChange Rows.numberDatesSpec).bare.sizedB enc Tryz.prog Tryz.f3 false ((laidWorld os).forCall (fun _ _ => 0) ⟨#[], #[.agg #[.int .u64 0, .int .i64 0, .int .i64 0, .int .i64 0]], []⟩).memory #[.agg #[.int .u64 0, .int .i64 0, .int .i64 0, .int .i64 0]] 8 = true := by kernel_rfl

theorem pre0 (os : Os) {H : Type} (enc : TypeId × Value → H) : (OpenSpec.ofChange Rows.numberDatesSpec).preRow enc Tryz.prog Tryz.f3 Rows.numberDatesRow.domain false Rows.numberDatesRow.laid ((laidWorld os).forCall (fun _ _ => 0) ⟨#[], #[.agg #[.int .u64 0, .int .i64 0, .int .i64 0, .int .i64 0]], []⟩).memory #[.agg #[.int .u64 0, .int .i64 0, .int .i64 0, .int .i64 0]] := by
  obtain ⟨places, hx⟩ := reads os enc
  exact OpenSpec.preRow_of_cond 8 hx (by kernel_rfl) (fun k hk => by cases hk) (sized os enc) (laid_met0 os _)

set_option maxRecDepth 100000 in
theorem lifted (os : Os) (started : os.Started) (H : Type) (enc : TypeId × Value → H) (F : Stop.Interp) :
    ReturnsInHanded {} Tryz.checked os 3 .any ((OpenSpec.ofChange Rows.numberDatesSpec).preRow enc Tryz.prog Tryz.f3 Rows.numberDatesRow.domain false Rows.numberDatesRow.laid) (((OpenSpec.ofChange Rows.numberDatesSpec).at F).post enc Tryz.prog Tryz.f3 false true false false) := by
  refine returnsInHanded_of_row (C := Tryz.checked) (s := OpenSpec.ofChange Rows.numberDatesSpec) own started (by kernel_rfl) Tryz.func3 (witness_laid false #[.agg #[.int .u64 0, .int .i64 0, .int .i64 0, .int .i64 0]] (okIn os) (pre0 os enc)) ?_
  intro W base args ds gs before hval hW _ _ _ hlaid hopen _
  exact contract H enc W base args ds gs before hval hW (tabs_of hlaid hopen)

theorem said : Rows.NumberDatesSaid :=
  OpenClaim.holds_of_cond 3 Tryz.f3 rfl rfl rfl rfl rfl rfl rfl ⟨rfl, rfl, rfl, rfl, rfl⟩ rfl rfl rfl rfl rfl (by kernel_rfl) Tryz.func3 (by kernel_rfl)
    (of_decide_eq_true (by kernel_rfl)) (by unfold Func.isWrapper; first | (rw [if_pos (by decide +kernel)]; kernel_rfl) | (rw [if_neg (by decide +kernel)]; exact ⟨rfl, rfl⟩))
    (fun os started H enc _ F => by rw [OpenClaim.pre_eq_preRow]; exact lifted os started H enc F)

theorem plain (f : FuncId) (fn : Func) (hf : Tryz.pinned.checked.prog.funcNamed "gridiron/gridironlaw08.NumberDates" = some f) (hfn : Tryz.pinned.checked.prog.funcs[f]? = some fn) :
    true = Tryz.pinned.checked.prog.looks [] ∧ ∀ (j : Nat) t, fn.params[j]? = some t → Tryz.pinned.checked.prog.wantsStandIn t = false := by
  obtain rfl : f = 3 := Option.some.inj ((show Tryz.prog.funcNamed "gridiron/gridironlaw08.NumberDates" = some 3 by kernel_rfl).symm.trans hf) |>.symm
  obtain rfl : fn = Tryz.f3 := (Option.some.inj (Tryz.func3.symm.trans hfn)).symm
  refine ⟨by kernel_rfl, fun j t ht => ?_⟩
  rw [Tryz.params3] at ht
  obtain rfl : t = 24 := by simpa using Array.mem_of_getElem? ht
  exact (show Tryz.prog.wantsStandIn 24 = false by kernel_rfl)

theorem card : Rows.NumberDatesCardSaid :=
  Claim7.holds_tied_plain_at .later [] _ _ _ _ said (fun _ h => by cases h) (by kernel_rfl) (fun _ h => by cases h) numberDates_row_tie rfl ⟨rfl, rfl⟩ (by kernel_rfl) rfl plain (by kernel_rfl)
end Go.Proofs.YtfpefegpilkbgaaGreatDoor.numberDates
namespace Go.Proofs.YtfpefegpilkbgaaGreatDoor
theorem numberDates_holds : Rows.NumberDatesCardSaid := numberDates.card
#print axioms numberDates_holds
end Go.Proofs.YtfpefegpilkbgaaGreatDoor
