/- The tables, as the card lays them. -/
import Derived.Test.YtkohohjpnlhioaaGreatDoorCards
import Derived.Test.YtkohohjpnlhioaaGreatDoorTie
import Derived.Test.YtkohohjpnlhioaaGreatDoorLLw
import Derived.Deep.DeepHandedRow
import Derived.Lib.LaidTab
import Derived.Lib.LaidU8T
import Derived.SevenTiedAt
import Derived.JoinedCond
import Derived.ProofKit
import Derived.OpenShut
import Derived.SizedLaws
import Derived.ChangeOld
import Derived.ChangeMaps5
namespace Go.Proofs.YtkohohjpnlhioaaGreatDoor
open Go.ChangeShapes Go.WideShapes Go.ChangeAt Go.RowKit Go.Shelf

theorem own : ownKnob Tryz.prog.godebug = none := by kernel_rfl
theorem laidOut : laidOutB Tryz.prog = true := by kernel_rfl
theorem var_lt {P : Program} {w : World} {n : String} {g : Nat} {cs : Array Value} (hg : P.globalNamed n = some g) (h : w.var? P n = some cs) : g < w.heap.size := by
  unfold World.var? at h
  rw [hg] at h
  simp only [Option.bind_some] at h
  split at h
  · rename_i hb
    exact lt_of_block hb
  · cases h
theorem utab_of {w : World} (h : Go.Lib.VarReads Tryz.prog w "internal/strconv.uint64pow10" Rows.laid_internal_strconv_uint64pow10) : UTab w := by
  obtain ⟨g, t, cs, fuel, p, hg, hty, hvar, hd⟩ := h
  obtain rfl := Option.some.inj ((show Tryz.prog.globalNamed "internal/strconv.uint64pow10" = some 9 by kernel_rfl).symm.trans hg)
  obtain rfl := Option.some.inj ((show (Tryz.prog.globals[9]?).map (·.type) = some 190 by kernel_rfl).symm.trans hty)
  rw [show (Rows.laid_internal_strconv_uint64pow10 : DataW Unit) = Go.Lib.tabData .u64 Lib.pow10Tab by kernel_rfl] at hd
  have hcs := Go.Lib.cells_of_tab (k := .u64) (zs := Lib.pow10Tab) (show Tryz.prog.underlying 190 = some (.array 20 82) by kernel_rfl) Tryz.underlying82 (by kernel_rfl) (by kernel_rfl) hd
  refine ⟨var_lt hg hvar, ?_⟩
  unfold Lib.TabIs
  rw [hvar, ← hcs]
theorem ptab_of {w : World} (h : Go.Lib.VarReads Tryz.prog w "internal/strconv.pow10Tab" Rows.laid_internal_strconv_pow10Tab) : PTab w := by
  obtain ⟨g, t, cs, fuel, p, hg, hty, hvar, hd⟩ := h
  obtain rfl := Option.some.inj ((show Tryz.prog.globalNamed "internal/strconv.pow10Tab" = some 10 by kernel_rfl).symm.trans hg)
  obtain rfl := Option.some.inj ((show (Tryz.prog.globals[10]?).map (·.type) = some 223 by kernel_rfl).symm.trans hty)
  refine ⟨var_lt hg hvar, fun i hi => ?_⟩
  obtain ⟨fuel', d, q, hdi, he⟩ := Go.Lib.array_elem (show Tryz.prog.underlying 223 = some (.array 696 222) by kernel_rfl) hd i hi
  have hl : i < Pinned.pow10Rows.length := by rw [rows_len]; exact hi
  simp only [List.getElem?_map, List.getElem?_eq_getElem hl, Option.map_some, Option.some.injEq] at hdi
  subst hdi
  have c2 : Tryz.prog.cellsOf 222 = 2 := by kernel_rfl
  rw [c2] at he
  have hgd : Pinned.pow10Rows.getD i (0, 0) = Pinned.pow10Rows[i] := by simp [List.getD, hl]
  have hcs := Go.Lib.ints_of_struct (k := .u64) (zs := [((Pinned.pow10Rows[i].1 : Nat) : Int), ((Pinned.pow10Rows[i].2 : Nat) : Int)]) Tryz.underlying222 (fun j f hj => by
      match j, hj with
      | 0, hj => simp at hj; subst hj; exact ⟨Tryz.underlying82, rfl, by kernel_rfl⟩
      | 1, hj => simp at hj; subst hj; exact ⟨Tryz.underlying82, rfl, by kernel_rfl⟩
      | j + 2, hj => simp at hj) (by rw [c2]; rfl) he
  have e0 := congrArg (·[0]?) hcs
  have e1 := congrArg (·[1]?) hcs
  simp only [List.getElem?_take, List.getElem?_drop] at e0 e1
  rw [hgd]
  constructor
  · rw [World.var?_cell hg hvar (i * 2), ← Array.getElem?_toList]
    simpa using e0
  · rw [World.var?_cell hg hvar (i * 2 + 1), ← Array.getElem?_toList]
    simpa using e1
theorem trod_float {H : Type} {enc : TypeId × Value → H} {P : Program} {w : World} {base : Nat} {spare : Nat → Bool} {held : Bool} {fuel : Nat} {t : TypeId} {cs : List Value} {x : DataW H × List MemPlace} {k : FloatKind} (ht : P.underlying t = some (.float k)) (h : DataW.trod enc P w base spare held fuel t cs = some x) : ∃ n, cs = [.float k n] ∧ x = (.lit (.float k n), []) ∧ (Lit.float k n).wf = true := by
  cases fuel with
  | zero => simp [DataW.trod] at h
  | succ n =>
    unfold DataW.trod at h
    rw [ht] at h
    split at h <;> simp_all
theorem etab_of {w : World} (h : Go.Lib.VarReads Tryz.prog w "gridiron/value.errTexts" Rows.laid_gridiron_value_errTexts) : EvTab w := by
  obtain ⟨g, t, cs, fuel, p, hg, hty, hvar, hd⟩ := h
  obtain rfl := Option.some.inj ((show Tryz.prog.globalNamed "gridiron/value.errTexts" = some 1 by kernel_rfl).symm.trans hg)
  obtain rfl := Option.some.inj ((show (Tryz.prog.globals[1]?).map (·.type) = some 86 by kernel_rfl).symm.trans hty)
  refine ⟨var_lt hg hvar, fun i hi => ?_⟩
  rw [show (Rows.laid_gridiron_value_errTexts : DataW Unit) = .agg (errL.map fun t => .lit (.string t.data.toList)) by kernel_rfl] at hd
  obtain ⟨fuel', d, q, hdi, he⟩ := Go.Lib.array_elem (show Tryz.prog.underlying 86 = some (.array 9 9) by kernel_rfl) hd i hi
  have hl : i < errL.length := hi
  simp only [List.getElem?_map, List.getElem?_eq_getElem hl, Option.map_some, Option.some.injEq] at hdi
  subst hdi
  have c1 : Tryz.prog.cellsOf 9 = 1 := by kernel_rfl
  rw [c1] at he
  obtain ⟨b, hb, hx, _⟩ := DataW.trod_string Tryz.underlying9 he
  have hx' := congrArg Prod.fst hx
  simp only [DataW.lit.injEq, Lit.string.injEq] at hx'
  have hbe : b = errL[i] := by
    have := Array.toList_inj.1 hx'
    cases b
    cases h2 : errL[i]
    rw [h2] at this
    simp at this
    rw [this]
  have e0 := congrArg (·[0]?) hb
  simp only [List.getElem?_take, List.getElem?_drop] at e0
  rw [World.var?_cell hg hvar i, ← Array.getElem?_toList]
  rw [show errL.getD i ⟨#[]⟩ = errL[i] by simp [List.getD, hl], ← hbe]
  simpa using e0
set_option maxRecDepth 100000 in
theorem patab_of {w : World} (h1 : Go.Lib.VarReads Tryz.prog w "internal/strconv.optimize" Rows.laid_internal_strconv_optimize) (h2 : Go.Lib.VarReads Tryz.prog w "internal/strconv.float64info" Rows.laid_internal_strconv_float64info) : PaTab w where
  o := by
    obtain ⟨g, t, cs, fuel, p, hg, hty, hvar, hd⟩ := h1
    obtain rfl := Option.some.inj ((show Tryz.prog.globalNamed "internal/strconv.optimize" = some 6 by kernel_rfl).symm.trans hg)
    obtain rfl := Option.some.inj ((show (Tryz.prog.globals[6]?).map (·.type) = some 4 by kernel_rfl).symm.trans hty)
    refine ⟨var_lt hg hvar, ?_⟩
    obtain ⟨b, hb, hx⟩ := DataW.trod_bool Tryz.underlying4 hd
    have hx' := congrArg Prod.fst hx
    simp only [Rows.laid_internal_strconv_optimize, DataW.lit.injEq, Lit.bool.injEq] at hx'
    rw [World.var?_cell hg hvar 0, ← Array.getElem?_toList, hb, ← hx']
    rfl
  i := by
    obtain ⟨g, t, cs, fuel, p, hg, hty, hvar, hd⟩ := h2
    obtain rfl := Option.some.inj ((show Tryz.prog.globalNamed "internal/strconv.float64info" = some 15 by kernel_rfl).symm.trans hg)
    obtain rfl := Option.some.inj ((show (Tryz.prog.globals[15]?).map (·.type) = some 246 by kernel_rfl).symm.trans hty)
    refine ⟨var_lt hg hvar, ?_⟩
    obtain ⟨xs, n, rfl, hx, hl, hxl, hall⟩ := DataW.trod_struct Tryz.underlying246 hd
    have h0 := hall 0 _ rfl
    obtain ⟨b, hb⟩ : ∃ b, xs[0]? = some b := ⟨xs[0]'(by rw [hxl]; decide), List.getElem?_eq_getElem (by rw [hxl]; decide)⟩
    rw [hb] at h0
    have c1 : Tryz.prog.cellsOf 106 = 1 := by kernel_rfl
    simp [c1] at h0
    obtain ⟨z, hcz, rfl, _⟩ := DataW.trod_int (k := .u64) Tryz.underlying106 h0
    have hx' := congrArg Prod.fst hx
    have hxs : xs.map (·.1) = [.lit (.int .u64 52), .lit (.int .u64 11), .lit (.int .i64 (-1023))] := by
      simpa [Rows.laid_internal_strconv_float64info] using hx'.symm
    have h3 : (xs.map (·.1))[0]? = some (DataW.lit (.int .u64 z)) := by simp [hb]
    rw [hxs] at h3
    simp at h3
    subst h3
    have e0 := congrArg (·[0]?) hcz
    simp only [List.getElem?_take] at e0
    rw [World.var?_cell hg hvar 0, ← Array.getElem?_toList]
    simpa using e0
theorem sgn_lit : (#[.string ⟨#[40]⟩, .string ⟨#[41]⟩, .string ⟨#[123]⟩, .string ⟨#[125]⟩, .string ⟨#[59]⟩, .string ⟨#[124]⟩, .string ⟨#[126]⟩, .string ⟨#[33]⟩, .string ⟨#[94]⟩, .string ⟨#[42]⟩, .string ⟨#[47]⟩, .string ⟨#[43]⟩, .string ⟨#[45]⟩, .string ⟨#[38]⟩, .string ⟨#[61]⟩, .string ⟨#[60, 62]⟩, .string ⟨#[60]⟩, .string ⟨#[60, 61]⟩, .string ⟨#[62]⟩, .string ⟨#[62, 61]⟩, .string ⟨#[37]⟩] : Array Value) = (sgnL.map Value.string).toArray := rfl
set_option maxRecDepth 100000 in
theorem stab_of {w : World} (h : Go.Lib.VarReads Tryz.prog w "gridiron/lexis.signs" Rows.laid_gridiron_lexis_signs) (hO : w.ShapedOpen Tryz.prog) : STab w := by
  obtain ⟨cs0, hb, hsz, _⟩ := hO.1 2 #[.string ⟨#[]⟩, .string ⟨#[]⟩, .string ⟨#[]⟩, .string ⟨#[]⟩, .string ⟨#[]⟩, .string ⟨#[]⟩, .string ⟨#[]⟩, .string ⟨#[]⟩, .string ⟨#[]⟩, .string ⟨#[]⟩, .string ⟨#[]⟩, .string ⟨#[]⟩, .string ⟨#[]⟩, .string ⟨#[]⟩, .string ⟨#[]⟩, .string ⟨#[]⟩, .string ⟨#[]⟩, .string ⟨#[]⟩, .string ⟨#[]⟩, .string ⟨#[]⟩, .string ⟨#[]⟩] 87 (by rw [show Tryz.prog.globals.size = 19 by kernel_rfl]; decide) (by kernel_rfl)
  have hsz : cs0.size = 21 := hsz
  obtain ⟨g, t, cs, fuel, p, hg, hty, hvar, hd⟩ := h
  obtain rfl := Option.some.inj ((show Tryz.prog.globalNamed "gridiron/lexis.signs" = some 2 by kernel_rfl).symm.trans hg)
  obtain rfl := Option.some.inj ((show (Tryz.prog.globals[2]?).map (·.type) = some 87 by kernel_rfl).symm.trans hty)
  rw [show (Rows.laid_gridiron_lexis_signs : DataW Unit) = .agg (sgnL.map fun t => .lit (.string t.data.toList)) by kernel_rfl] at hd
  have hc : ∀ i, (hi : i < 21) → cs0[i]? = some (.string (sgnL[i]'hi)) := fun i hi => by
    obtain ⟨fuel', d, q, hdi, he⟩ := Go.Lib.array_elem (show Tryz.prog.underlying 87 = some (.array 21 9) by kernel_rfl) hd i hi
    have hl : i < sgnL.length := hi
    simp only [List.getElem?_map, List.getElem?_eq_getElem hl, Option.map_some, Option.some.injEq] at hdi
    subst hdi
    have c1 : Tryz.prog.cellsOf 9 = 1 := by kernel_rfl
    rw [c1] at he
    obtain ⟨b, hbb, hx, _⟩ := DataW.trod_string Tryz.underlying9 he
    have hx' := congrArg Prod.fst hx
    simp only [DataW.lit.injEq, Lit.string.injEq] at hx'
    have hbe : b = sgnL[i] := ByteArray.ext (Array.ext' hx'.symm)
    have e0 := congrArg (·[0]?) hbb
    simp only [List.getElem?_take, List.getElem?_drop] at e0
    have e1 : w.cell? ⟨2, i, none⟩ = some (.string b) := by
      rw [World.var?_cell hg hvar i, ← Array.getElem?_toList]
      simpa using e0
    rw [cell_of_row w 2 i cs0 _ _ hb, hbe] at e1
    exact e1
  refine ⟨(0, 0), ?_⟩
  rw [hb, sgn_lit]
  congr 2
  apply Array.ext
  · rw [hsz]; rfl
  · intro i h1 h2
    have := hc i (by omega)
    rw [Array.getElem?_eq_getElem h1] at this
    rw [Option.some.inj this]
    simp
    rfl
section
variable {H : Type} {enc : TypeId × Value → H} {W : World}
theorem cc : Tryz.prog.cellsOf 28 = 17 ∧ Tryz.prog.cellsOf 26 = 12 ∧ Tryz.prog.cellsOf 24 = 4 ∧ Tryz.prog.cellsOf 3 = 1 ∧ Tryz.prog.cellsOf 9 = 1 ∧ Tryz.prog.cellsOf 4 = 1 ∧ Tryz.prog.cellsOf 22 = 1 := ⟨by kernel_rfl, by kernel_rfl, by kernel_rfl, by kernel_rfl, by kernel_rfl, by kernel_rfl, by kernel_rfl⟩
set_option maxRecDepth 100000 in
theorem corner_trod {fuel : Nat} {v0 v1 v2 v3 : Value} {x : DataW H × List MemPlace} (h : DataW.trod enc Tryz.prog W 0 (fun _ => true) true fuel 24 [v0, v1, v2, v3] = some x) :
    ∃ (r c : Int) (a b : Bool), v0 = .int .i64 r ∧ v1 = .int .i64 c ∧ v2 = .bool a ∧ v3 = .bool b ∧ x = (.agg [.lit (.int .i64 r), .lit (.int .i64 c), .lit (.bool a), .lit (.bool b)], []) ∧ (Lit.int .i64 r).wf = true ∧ (Lit.int .i64 c).wf = true := by
  obtain ⟨_, _, _, c1, c3, c4, _⟩ := cc
  obtain ⟨xs, k, _, hxy, _, hxl, hf⟩ := DataW.trod_struct Tryz.underlying24 h
  match xs, hxl with
  | [y0, y1, y2, y3], _ =>
    have g0 := hf 0 _ rfl
    have g1 := hf 1 _ rfl
    have g2 := hf 2 _ rfl
    have g3 := hf 3 _ rfl
    simp [c1, c4] at g0 g1 g2 g3
    obtain ⟨n0, e0, rfl, w0⟩ := DataW.trod_int Tryz.underlying3 g0
    obtain ⟨n1, e1, rfl, w1⟩ := DataW.trod_int Tryz.underlying3 g1
    obtain ⟨n2, e2, rfl⟩ := DataW.trod_bool Tryz.underlying4 g2
    obtain ⟨n3, e3, rfl⟩ := DataW.trod_bool Tryz.underlying4 g3
    simp only [List.cons.injEq, and_true] at e0 e1 e2 e3
    exact ⟨n0, n1, n2, n3, e0, e1, e2, e3, by rw [hxy]; rfl, w0, w1⟩
set_option maxRecDepth 100000 in
theorem ref_trod {fuel : Nat} {v0 v1 v2 v3 v4 v5 v6 v7 v8 v9 v10 v11 : Value} {x : DataW H × List MemPlace} (h : DataW.trod enc Tryz.prog W 0 (fun _ => true) true fuel 26 [v0, v1, v2, v3, v4, v5, v6, v7, v8, v9, v10, v11] = some x) :
    ∃ (t u : ByteArray) (fx ar : Bool) (r1 c1 : Int) (x1 y1 : Bool) (r2 c2 : Int) (x2 y2 : Bool), [v0, v1, v2, v3, v4, v5, v6, v7, v8, v9, v10, v11] = [.string t, .string u, .bool fx, .bool ar, .int .i64 r1, .int .i64 c1, .bool x1, .bool y1, .int .i64 r2, .int .i64 c2, .bool x2, .bool y2] ∧ x = (.agg [.lit (.string t.data.toList), .lit (.string u.data.toList), .lit (.bool fx), .lit (.bool ar), .agg [.lit (.int .i64 r1), .lit (.int .i64 c1), .lit (.bool x1), .lit (.bool y1)], .agg [.lit (.int .i64 r2), .lit (.int .i64 c2), .lit (.bool x2), .lit (.bool y2)]], []) ∧
      t.size ≤ maxLen ∧ u.size ≤ maxLen ∧ (Lit.int .i64 r1).wf = true ∧ (Lit.int .i64 c1).wf = true ∧ (Lit.int .i64 r2).wf = true ∧ (Lit.int .i64 c2).wf = true := by
  obtain ⟨_, _, hc4, c1, c3, c4, _⟩ := cc
  obtain ⟨xs, k, _, hxy, _, hxl, hf⟩ := DataW.trod_struct Tryz.underlying26 h
  match xs, hxl with
  | [y0, y1, y2, y3, y4, y5], _ =>
    have g0 := hf 0 _ rfl
    have g1 := hf 1 _ rfl
    have g2 := hf 2 _ rfl
    have g3 := hf 3 _ rfl
    have g4 := hf 4 _ rfl
    have g5 := hf 5 _ rfl
    simp [c3, c4, hc4] at g0 g1 g2 g3 g4 g5
    obtain ⟨n0, e0, rfl, w0⟩ := DataW.trod_string Tryz.underlying9 g0
    obtain ⟨n1, e1, rfl, w1⟩ := DataW.trod_string Tryz.underlying9 g1
    obtain ⟨n2, e2, rfl⟩ := DataW.trod_bool Tryz.underlying4 g2
    obtain ⟨n3, e3, rfl⟩ := DataW.trod_bool Tryz.underlying4 g3
    simp only [List.cons.injEq, and_true] at e0 e1 e2 e3
    subst e0 e1 e2 e3
    obtain ⟨a0, a1, a2, a3, rfl, rfl, rfl, rfl, rfl, w4, w5⟩ := corner_trod g4
    obtain ⟨b0, b1, b2, b3, rfl, rfl, rfl, rfl, rfl, w6, w7⟩ := corner_trod g5
    exact ⟨n0, n1, n2, n3, a0, a1, a2, a3, b0, b1, b2, b3, rfl, by rw [hxy]; rfl, w0, w1, w4, w5, w6, w7⟩
set_option maxRecDepth 100000 in
theorem open_lex {r : Reach} {b0 : Nat} {v : Value} {dd : DataW H} {ps : List MemPlace} (hval : Value.okWide Tryz.prog W r b0 28 v) (hd : DataW.Trod enc Tryz.prog W 0 (fun _ => true) true 28 v dd ps) :
    ∃ (k : Int) (nm : Nat) (tx : ByteArray) (t u : ByteArray) (fx ar : Bool) (r1 c1 : Int) (x1 y1 : Bool) (r2 c2 : Int) (x2 y2 : Bool) (er pl : Int), v = (.agg #[.int .i64 k, .float .f64 nm, .string tx, .string t, .string u, .bool fx, .bool ar, .int .i64 r1, .int .i64 c1, .bool x1, .bool y1, .int .i64 r2, .int .i64 c2, .bool x2, .bool y2, .int .i64 er, .int .i64 pl]) ∧ dd = .agg [.lit (.int .i64 k), .lit (.float .f64 nm), .lit (.string tx.data.toList), .agg [.lit (.string t.data.toList), .lit (.string u.data.toList), .lit (.bool fx), .lit (.bool ar), .agg [.lit (.int .i64 r1), .lit (.int .i64 c1), .lit (.bool x1), .lit (.bool y1)], .agg [.lit (.int .i64 r2), .lit (.int .i64 c2), .lit (.bool x2), .lit (.bool y2)]], .lit (.int .i64 er), .lit (.int .i64 pl)] ∧ ps = [] ∧
      (Lit.int .i64 k).wf = true ∧ (Lit.float .f64 nm).wf = true ∧ tx.size ≤ maxLen ∧ (t.size ≤ maxLen ∧ u.size ≤ maxLen ∧ (Lit.int .i64 r1).wf = true ∧ (Lit.int .i64 c1).wf = true ∧ (Lit.int .i64 r2).wf = true ∧ (Lit.int .i64 c2).wf = true) ∧ (Lit.int .i64 er).wf = true ∧ (Lit.int .i64 pl).wf = true := by
  obtain ⟨hc17, hc12, hc4, c1, c3, c4, c5⟩ := cc
  simp only [Value.okWide, Tryz.underlying28] at hval
  obtain ⟨cs, rfl, hs, _⟩ := hval
  rw [hc17] at hs
  obtain ⟨l⟩ := cs
  match l, hs with
  | [v0, v1, v2, v3, v4, v5, v6, v7, v8, v9, v10, v11, v12, v13, v14, v15, v16], _ =>
    obtain ⟨fuel, hf⟩ := hd
    obtain ⟨xs, k, _, hxy, _, hxl, hf⟩ := DataW.trod_struct Tryz.underlying28 hf
    match xs, hxl with
    | [y0, y1, y2, y3, y4, y5], _ =>
      have g0 := hf 0 _ rfl
      have g1 := hf 1 _ rfl
      have g2 := hf 2 _ rfl
      have g3 := hf 3 _ rfl
      have g4 := hf 4 _ rfl
      have g5 := hf 5 _ rfl
      simp [c1, c3, c5, hc12, Value.cells] at g0 g1 g2 g3 g4 g5
      obtain ⟨n0, e0, rfl, w0⟩ := DataW.trod_int Tryz.underlying3 g0
      obtain ⟨n1, e1, rfl, w1⟩ := trod_float Tryz.underlying22 g1
      obtain ⟨n2, e2, rfl, w2⟩ := DataW.trod_string Tryz.underlying9 g2
      obtain ⟨t, u, fx, ar, r1, k1, x1, y1, r2, k2, x2, y2, e3, rfl, w3⟩ := ref_trod g3
      obtain ⟨n4, e4, rfl, w4⟩ := DataW.trod_int Tryz.underlying3 g4
      obtain ⟨n5, e5, rfl, w5⟩ := DataW.trod_int Tryz.underlying3 g5
      simp only [List.cons.injEq, and_true] at e0 e1 e2 e3 e4 e5
      obtain ⟨rfl, rfl, rfl, rfl, rfl, rfl, rfl, rfl, rfl, rfl, rfl, rfl⟩ := e3
      subst e0 e1 e2 e4 e5
      simp only [Prod.mk.injEq] at hxy
      exact ⟨n0, n1, n2, t, u, fx, ar, r1, k1, x1, y1, r2, k2, x2, y2, n4, n5, rfl, by rw [hxy.1]; rfl, by rw [hxy.2]; rfl, w0, w1, w2, w3, w4, w5⟩
set_option maxRecDepth 100000 in
theorem shut_lex {sp : Nat → Bool} {k : Int} {nm : Nat} {tx : ByteArray} {t u : ByteArray} {fx ar : Bool} {r1 c1 : Int} {x1 y1 : Bool} {r2 c2 : Int} {x2 y2 : Bool} {er pl : Int} (a0 : (Lit.int .i64 k).wf = true) (a1 : (Lit.float .f64 nm).wf = true) (a2 : tx.size ≤ maxLen) (a3 : t.size ≤ maxLen ∧ u.size ≤ maxLen ∧ (Lit.int .i64 r1).wf = true ∧ (Lit.int .i64 c1).wf = true ∧ (Lit.int .i64 r2).wf = true ∧ (Lit.int .i64 c2).wf = true) (a4 : (Lit.int .i64 er).wf = true) (a5 : (Lit.int .i64 pl).wf = true) :
    DataW.Trod enc Tryz.prog W 0 sp true 28 (.agg #[.int .i64 k, .float .f64 nm, .string tx, .string t, .string u, .bool fx, .bool ar, .int .i64 r1, .int .i64 c1, .bool x1, .bool y1, .int .i64 r2, .int .i64 c2, .bool x2, .bool y2, .int .i64 er, .int .i64 pl]) (.agg [.lit (.int .i64 k), .lit (.float .f64 nm), .lit (.string tx.data.toList), .agg [.lit (.string t.data.toList), .lit (.string u.data.toList), .lit (.bool fx), .lit (.bool ar), .agg [.lit (.int .i64 r1), .lit (.int .i64 c1), .lit (.bool x1), .lit (.bool y1)], .agg [.lit (.int .i64 r2), .lit (.int .i64 c2), .lit (.bool x2), .lit (.bool y2)]], .lit (.int .i64 er), .lit (.int .i64 pl)]) [] := by
  obtain ⟨hc17, hc12, hc4, k1, k3, k4, k5⟩ := cc
  obtain ⟨w0, w1, w2, w3, w4, w5⟩ := a3
  exact ⟨4, by
    show DataW.trod enc Tryz.prog W 0 sp true (3 + 1) 28 [.int .i64 k, .float .f64 nm, .string tx, .string t, .string u, .bool fx, .bool ar, .int .i64 r1, .int .i64 c1, .bool x1, .bool y1, .int .i64 r2, .int .i64 c2, .bool x2, .bool y2, .int .i64 er, .int .i64 pl] = _
    simp [DataW.trod, Tryz.underlying28, Tryz.underlying26, Tryz.underlying24, Tryz.underlying3, Tryz.underlying9, Tryz.underlying4, Tryz.underlying22, hc17, hc12, hc4, k1, k3, k4, k5, w0, w1, w2, w3, w4, w5, a0, a1, a2, a4, a5]⟩
end
theorem u8T : U8Types Tryz.prog Tryz.laysLaysn197_ren := { Tryz.laysLaysn197 with }
theorem u8X : U8Extra Tryz.prog Tryz.laysLaysn197_ren where
  n3 := by kernel_rfl
  y3 := by kernel_rfl
  n4 := by kernel_rfl
  y4 := by kernel_rfl
  c5 := by kernel_rfl
  c119 := by kernel_rfl
  c138 := by kernel_rfl
/-- The rows' variables, in their order. -/
def laidVars : List (String × DataW Unit) := [("math/bits.deBruijn32tab", Rows.laid_math_bits_deBruijn32tab), ("math/bits.deBruijn64tab", Rows.laid_math_bits_deBruijn64tab), ("internal/strconv.float32info", Rows.laid_internal_strconv_float32info), ("internal/strconv.float64info", Rows.laid_internal_strconv_float64info), ("internal/strconv.optimize", Rows.laid_internal_strconv_optimize), ("internal/strconv.powtab", Rows.laid_internal_strconv_powtab), ("internal/strconv.float64pow10", Rows.laid_internal_strconv_float64pow10), ("internal/strconv.float32pow10", Rows.laid_internal_strconv_float32pow10), ("internal/strconv.uint64pow10", Rows.laid_internal_strconv_uint64pow10), ("unicode/utf8.acceptRanges", Rows.laid_unicode_utf8_acceptRanges), ("strconv.ErrRange", Rows.laid_strconv_ErrRange), ("strconv.ErrSyntax", Rows.laid_strconv_ErrSyntax), ("gridiron/value.errTexts", Rows.laid_gridiron_value_errTexts), ("gridiron/lexis.signs", Rows.laid_gridiron_lexis_signs), ("internal/strconv.leftcheats", Rows.laid_internal_strconv_leftcheats), ("internal/strconv.pow10Tab", Rows.laid_internal_strconv_pow10Tab), ("unicode/utf8.first", Rows.laid_unicode_utf8_first)]
theorem lt_cellX {w : World} {b o : Nat} {v : Value} (h : w.cell? ⟨b, o, none⟩ = some v) : b < w.heap.size := by
  rcases Nat.lt_or_ge b w.heap.size with h' | h'
  · exact h'
  · simp [World.cell?, Array.getElem?_eq_none h'] at h
theorem xtab_of {w : World} (hO : w.ShapedOpen Tryz.prog) : XTab w := by
  obtain ⟨m, hm⟩ := Tryz.laysLaysMn145.s1_3 w hO
  exact ⟨lt_cellX (show w.cell? ⟨5, 0, none⟩ = some (.int .i64 m) from hm), m, hm⟩
theorem u8_of {w : World} (h : laidMet Tryz.prog laidVars w) : Tabs w :=
  utf8Tabs_of_readsT u8T u8X (Go.Lib.laidMet.reads h (n := "unicode/utf8.first") (d := Go.Lib.firstData) (by
      rw [show Go.Lib.firstData = Rows.laid_unicode_utf8_first by kernel_rfl]
      unfold laidVars
      simp))
    (Go.Lib.laidMet.reads h (n := "unicode/utf8.acceptRanges") (d := Go.Lib.acceptData) (by
      rw [show Go.Lib.acceptData = Rows.laid_unicode_utf8_acceptRanges by kernel_rfl]
      unfold laidVars
      simp))
theorem tabs_of {w : World} (h : laidMet Tryz.prog laidVars w) (hO : w.ShapedOpen Tryz.prog) : AllT w where
  l := {
    t := u8_of h
    s := stab_of (Go.Lib.laidMet.reads h (by unfold laidVars; simp)) hO
    x := xtab_of hO
    p := patab_of (Go.Lib.laidMet.reads h (by unfold laidVars; simp)) (Go.Lib.laidMet.reads h (by unfold laidVars; simp)) }
  n := {
    p := ptab_of (Go.Lib.laidMet.reads h (by unfold laidVars; simp))
    u := utab_of (Go.Lib.laidMet.reads h (by unfold laidVars; simp))
    x := xtab_of hO }
  u := ⟨(utab_of (Go.Lib.laidMet.reads h (by unfold laidVars; simp))).1, (utab_of (Go.Lib.laidMet.reads h (by unfold laidVars; simp))).2⟩
  e := etab_of (Go.Lib.laidMet.reads h (by unfold laidVars; simp))
/-- A block with other cells. -/
def putCells (cs : Array Value) : Obj → Obj
  | .cells _ t frozen => .cells cs t frozen
  | o => o
/-- The cells of a datum that is flat: a number, or a struct of such. -/
def flat0 : DataW Unit → List Value
  | .lit (.int k n) => [.int k n]
  | .lit (.bool b) => [.bool b]
  | .lit (.float k n) => [.float k n]
  | .lit (.string bs) => [.string ⟨bs.toArray⟩]
  | _ => []
def flat1 : DataW Unit → List Value
  | .agg l => l.flatMap flat0
  | d => flat0 d
def flatRow : DataW Unit → Array Value
  | .slice l _ => (l.flatMap flat1).toArray
  | .agg l => (l.flatMap flat1).toArray
  | d => (flat0 d).toArray
/-- A world in which the tables read as they are laid. -/
noncomputable def laidWorld (os : Os) : World :=
  let H := World.holding Tryz.prog os ⟨#[], #[], []⟩
  let n := H.heap.size
  { H with
    heap := ((((((((((((((((((H.heap.modify 12 (putCells (flatRow Rows.laid_math_bits_deBruijn32tab))).modify 13 (putCells (flatRow Rows.laid_math_bits_deBruijn64tab))).modify 14 (putCells (flatRow Rows.laid_internal_strconv_float32info))).modify 15 (putCells (flatRow Rows.laid_internal_strconv_float64info))).modify 6 (putCells (flatRow Rows.laid_internal_strconv_optimize))).modify 17 (putCells #[.slice (some ⟨n + 3, 0, none⟩) 9 9])).modify 18 (putCells #[.slice (some ⟨n + 4, 0, none⟩) 23 23])).modify 16 (putCells #[.slice (some ⟨n + 5, 0, none⟩) 11 11])).modify 9 (putCells (flatRow Rows.laid_internal_strconv_uint64pow10))).modify 4 (putCells (flatRow Rows.laid_unicode_utf8_acceptRanges))).modify 8 (putCells #[.iface 217 (.pointer (some ⟨n, 0, none⟩))])).modify 7 (putCells #[.iface 217 (.pointer (some ⟨n + 1, 0, none⟩))])).modify 1 (putCells (flatRow Rows.laid_gridiron_value_errTexts))).modify 2 (putCells (flatRow Rows.laid_gridiron_lexis_signs))).modify 11 (putCells #[.slice (some ⟨n + 2, 0, none⟩) 61 61])).modify 10 (putCells (flatRow Rows.laid_internal_strconv_pow10Tab))).modify 3 (putCells (flatRow Rows.laid_unicode_utf8_first)))
      ++ #[.cells #[.string ⟨#[118, 97, 108, 117, 101, 32, 111, 117, 116, 32, 111, 102, 32, 114, 97, 110, 103, 101]⟩] 219 (0, 0), .cells #[.string ⟨#[105, 110, 118, 97, 108, 105, 100, 32, 115, 121, 110, 116, 97, 120]⟩] 219 (0, 0), .cells (flatRow Rows.laid_internal_strconv_leftcheats) 227 (0, 0), .cells (flatRow Rows.laid_internal_strconv_powtab) 3 (0, 0), .cells (flatRow Rows.laid_internal_strconv_float64pow10) 22 (0, 0), .cells (flatRow Rows.laid_internal_strconv_float32pow10) 140 (0, 0)]) }
/-- The places of the tables: of each block so many. -/
def segs : List (Nat × Nat) := [(12, 32), (13, 64), (14, 3), (15, 3), (6, 1), (17, 1), (27, 9), (18, 1), (28, 23), (16, 1), (29, 11), (9, 20), (4, 32), (8, 1), (24, 1), (7, 1), (25, 1), (1, 9), (2, 21), (11, 1), (26, 122), (10, 1392), (3, 256)]
def placesOf (l : List (Nat × Nat)) : List MemPlace := l.flatMap fun x => (List.range x.2).map (MemPlace.cell x.1)
theorem places_block {l : List (Nat × Nat)} {p : MemPlace} (h : p ∈ placesOf l) : ∃ b o, p = .cell b o ∧ b ∈ l.map (·.1) := by
  unfold placesOf at h
  obtain ⟨x, hx, hp⟩ := List.mem_flatMap.1 h
  obtain ⟨o, _, rfl⟩ := List.mem_map.1 hp
  exact ⟨x.1, o, rfl, List.mem_map.2 ⟨x, hx, rfl⟩⟩
theorem places_nodup : ∀ l : List (Nat × Nat), (l.map (·.1)).Nodup → (placesOf l).Nodup
  | [], _ => List.nodup_nil
  | x :: l, h => by
    rw [List.map_cons, List.nodup_cons] at h
    show ((List.range x.2).map (MemPlace.cell x.1) ++ placesOf l).Nodup
    rw [List.nodup_append]
    refine ⟨?_, places_nodup l h.2, fun a ha b hb e => ?_⟩
    · rw [List.nodup_iff_pairwise_ne, List.pairwise_map]
      refine List.Pairwise.imp ?_ (List.nodup_iff_pairwise_ne.1 List.nodup_range)
      intro a b hab e
      injection e with _ e2
      exact hab e2
    · obtain ⟨o, _, rfl⟩ := List.mem_map.1 ha
      obtain ⟨b', o', rfl, hb'⟩ := places_block hb
      injection e with e1 _
      rw [← e1] at hb'
      exact h.1 hb'
theorem laid_run0 (os : Os) (args : Array Value) : DataW.laidRun Tryz.prog ((laidWorld os).forCall (fun _ _ => 0) ⟨#[], args, []⟩).memory 2000 (laidVars.map (·.1)) = some (laidVars, placesOf segs) := by kernel_rfl
/-- A block's cells can be read, and what interfaces lie there are whole. -/
noncomputable def blockOk (w : World) (b : Nat) : Bool :=
  match w.heap[b]? with
  | some (.cells c _ (0, 0)) => c.toList.all fun v => match v with
    | .iface u v => Value.okWideB Tryz.prog w u v
    | _ => true
  | _ => false
set_option maxRecDepth 100000 in
theorem met_of {w : World} {fuel : Nat} (h1 : DataW.laidRun Tryz.prog w fuel (laidVars.map (·.1)) = some (laidVars, placesOf segs)) (h2 : (segs.map (·.1)).all (blockOk w) = true) : laidMet Tryz.prog laidVars w := by
  refine ⟨_, DataW.LaidVars_of_laidRun h1, places_nodup segs (by decide), fun b off hp => ?_⟩
  obtain ⟨b', o', e, hb⟩ := places_block hp
  injection e with e1 e2
  subst e1 e2
  have hk := List.all_eq_true.1 h2 _ hb
  unfold blockOk at hk
  split at hk
  · rename_i c t hh
    refine ⟨⟨c, t, hh⟩, fun u v hc => ?_⟩
    have hcell : c[off]? = some (.iface u v) := by
      unfold World.cell? at hc
      rw [hh] at hc
      simpa using hc
    have hq : Value.okWideB Tryz.prog w u v = true := List.all_eq_true.1 hk (.iface u v) (List.mem_of_getElem? (by rw [Array.getElem?_toList]; exact hcell))
    exact Value.okWide_of_okWideB (P := Tryz.prog) (w := w) hq
  · cases hk
theorem laid_rows0 (os : Os) (args : Array Value) : (segs.map (·.1)).all (blockOk ((laidWorld os).forCall (fun _ _ => 0) ⟨#[], args, []⟩).memory) = true := by kernel_rfl
theorem laid_met0 (os : Os) (args : Array Value) : laidMet Tryz.prog laidVars ((laidWorld os).forCall (fun _ _ => 0) ⟨#[], args, []⟩).memory :=
  met_of (laid_run0 os args) (laid_rows0 os args)
/-- The cells of a row, each fitting its type, in one walk. -/
def pairsB (P : Program) (w : World) : List TypeId → List Value → Bool
  | [], [] => true
  | u :: us, v :: vs => Cell.okRefB P w u v && pairsB P w us vs
  | _, _ => false
theorem pairs_get {P : Program} {w : World} : ∀ {ts : List TypeId} {vs : List Value}, pairsB P w ts vs = true → vs.length = ts.length ∧ ∀ (i : Nat) v, vs[i]? = some v → ∃ u, ts[i]? = some u ∧ Cell.okRefB P w u v = true
  | [], [], _ => ⟨rfl, fun i v h => by simp at h⟩
  | [], _ :: _, h => by simp [pairsB] at h
  | _ :: _, [], h => by simp [pairsB] at h
  | u :: us, v :: vs, h => by
    simp only [pairsB, Bool.and_eq_true] at h
    obtain ⟨h1, h2⟩ := pairs_get h.2
    refine ⟨by simp [h1], fun i x hx => ?_⟩
    cases i with
    | zero => simp at hx; subst hx; exact ⟨u, rfl, h.1⟩
    | succ i => simp at hx; obtain ⟨y, hy, hk⟩ := h2 i x hx; exact ⟨y, by simpa using hy, hk⟩
def rowPairsB (P : Program) (w : World) (t : TypeId) (cs : Array Value) : Bool :=
  match P.cellTypes P.depth t with
  | some ts => pairsB P w ts cs.toList
  | none => false
theorem row_of_pairs {P : Program} {w : World} {base : Nat} {t : TypeId} {cs : Array Value} (h : rowPairsB P w t cs = true) : Row.ok P w .any base t cs := by
  unfold rowPairsB at h
  split at h
  · rename_i ts hts
    obtain ⟨h1, h2⟩ := pairs_get h
    have hl : cs.size = ts.length := by simpa using h1
    refine ⟨ts, hts, ⟨1, by omega⟩, fun i v hv => ?_⟩
    have hi : i < cs.size := (Array.getElem?_eq_some_iff.1 hv).1
    obtain ⟨u, hu, hk⟩ := h2 i v (by rw [Array.getElem?_toList]; exact hv)
    exact ⟨u, by rw [Nat.mod_eq_of_lt (by omega)]; exact hu, Cell.ok_of_okRefB hk⟩
  · cases h
noncomputable def varB (P : Program) (w : World) (g : Nat) : Bool :=
  match ((begin P (fun _ _ => 0) default).world.heap[g]?).bind Obj.row? with
  | none => true
  | some (zero, t) =>
    match w.heap[g]? with
    | some (.cells cs t' (0, 0)) => decide (t' = t) && cs.size == zero.size && (!P.buildable t || rowPairsB P w t cs)
    | _ => false
theorem shaped_of_vars {P : Program} {w : World} (hv : (List.range P.globals.size).all (varB P w) = true)
    (hr : (w.heap.toList.drop P.globals.size).take ((begin P (fun _ _ => 0) default).world.heap.size - P.globals.size) =
      (begin P (fun _ _ => 0) default).world.heap.toList.drop P.globals.size) : w.Shaped P := by
  refine ⟨fun g zero t hg hz => ?_, fun k h1 h2 => ?_⟩
  case refine_2 =>
    have := congrArg (·[k - P.globals.size]?) hr
    simp only [List.getElem?_take, List.getElem?_drop, Array.getElem?_toList] at this
    rw [if_pos (by omega), Nat.add_sub_cancel' h1] at this
    exact this
  have := List.all_eq_true.1 hv g (List.mem_range.2 hg)
  unfold varB at this
  rw [hz] at this
  simp only at this
  split at this
  · rename_i cs t' hw
    simp only [Bool.and_eq_true, decide_eq_true_eq, beq_iff_eq, Bool.or_eq_true, Bool.not_eq_true'] at this
    obtain ⟨⟨rfl, hs⟩, hb⟩ := this
    refine ⟨cs, hw, hs, fun hbuild => ?_⟩
    rcases hb with hb | hb
    · rw [hbuild] at hb; cases hb
    · exact row_of_pairs hb
  · cases this
theorem laid_vars (os : Os) (args : Array Value) : (List.range Tryz.prog.globals.size).all (varB Tryz.prog ((laidWorld os).forCall (fun _ _ => 0) ⟨#[], args, []⟩)) = true := by kernel_rfl
theorem laid_rest (os : Os) (args : Array Value) : (((laidWorld os).forCall (fun _ _ => 0) ⟨#[], args, []⟩).heap.toList.drop Tryz.prog.globals.size).take ((begin Tryz.prog (fun _ _ => 0) default).world.heap.size - Tryz.prog.globals.size) =
      (begin Tryz.prog (fun _ _ => 0) default).world.heap.toList.drop Tryz.prog.globals.size := by kernel_rfl
theorem laid_shaped (os : Os) (args : Array Value) : ((laidWorld os).forCall (fun _ _ => 0) ⟨#[], args, []⟩).Shaped Tryz.prog := shaped_of_vars (laid_vars os args) (laid_rest os args)
/-- There is an input that fits, at the world in which the tables are laid. -/
theorem witness_laid {H : Type} {enc : TypeId × Value → H} {os : Os} {f : FuncId} {fn : Func} {s : OpenSpec} {conds : List PathCond} {apart : Bool} {laid : List (String × DataW Unit)} (modest : Bool) (args : Array Value)
    (hok : Input.okWideB Tryz.prog ((laidWorld os).forCall (fun _ _ => 0) ⟨#[], args, []⟩) f ⟨#[], args, []⟩ = true)
    (hrow : s.preRow enc Tryz.prog fn conds apart laid ((laidWorld os).forCall (fun _ _ => 0) ⟨#[], args, []⟩).memory args) :
    ∃ (w : World) (tape : Tape) (i : Input), w.os = os ∧ (w.forCall tape i).Shaped Tryz.prog ∧ i.vars = [] ∧ Input.okWide Tryz.prog (w.forCall tape i) .any w.heap.size f i ∧
      s.preRow enc Tryz.prog fn conds apart laid (w.forCall tape i).memory i.args ∧ ({ modest := modest } : Assume).holds Tryz.prog (lone (Frame.enter Tryz.prog f i.args .normal) [] (w.forCall tape i)) :=
  ⟨laidWorld os, fun _ _ => 0, ⟨#[], args, []⟩, rfl, laid_shaped os args, (Input.okWide_of_okWideB (base := 0) hok).1, (Input.okWide_of_okWideB hok).2, hrow, by
    simp only [Assume.holds]
    exact ⟨by simp, by simp, fun _ => Modest.zero, by simp, by simp⟩⟩
#print axioms tabs_of
#print axioms witness_laid
#print axioms laid_met0
end Go.Proofs.YtkohohjpnlhioaaGreatDoor
/- Proved: for every text and every token the law LexisNames answers true: which texts are names, how a text is quoted, and each token's text, is as the document has it. The condition: the listed tables read as they are laid (LexisNamesCardSaid, tied to the program's text). -/
namespace Go.Proofs.YtkohohjpnlhioaaGreatDoor.lexisNames
open Go.ChangeShapes Go.WideShapes Go.ChangeAt Go.RowKit Go.ChangeMaps

set_option maxRecDepth 100000 in
theorem contract (H : Type) (enc : TypeId × Value → H) (W : World) (base : Nat) (args : Array Value) (ds gs : List (DataW H)) (before : List MemPlace)
    (hval : ∀ (j : Nat) t v, Tryz.f3.params[j]? = some t → args[j]? = some v → Value.okWide Tryz.prog W .any base t v)
    (hW : DataW.Whole enc Tryz.prog Tryz.f3.params.toList Rows.lexisNamesSpec.vars false W args.toList ds gs before)
    (hsz : (DataW.weightsEach Tryz.prog (Tryz.f3.params.toList ++ Rows.lexisNamesSpec.plain.varTypes Tryz.prog) (ds ++ gs)).all (· ≤ reachBytes) = true) (hT : AllT W) :
    Calls Tryz.prog 3 args W fun e W' => ∃ v, e = .returned v ∧ Rows.lexisNamesSpec.post enc Tryz.prog Tryz.f3 false true false false W args v W' := by
  have hW' := hW
  obtain ⟨p, q, hA0, hV, rfl, hfz, hnd⟩ := hW
  have hA : DataW.TrodAll enc Tryz.prog W 0 (fun _ => true) true Tryz.f3.params.toList args.toList ds p := hA0
  rw [Tryz.params3] at hA hval hsz
  obtain ⟨v0, vs0, d0, ds0, p0, q0, hargs, rfl, rfl, h0, r0⟩ := trodAll_cons hA
  obtain ⟨v1, vs1, d1, ds1, p1, q1, rfl, rfl, rfl, h1, r1⟩ := trodAll_cons r0
  obtain ⟨rfl, rfl, rfl⟩ := trodAll_nil r1
  obtain rfl : args = #[v0, v1] := by cases args; simp_all
  obtain ⟨rfl, rfl⟩ := trodVars_none hV
  obtain ⟨a0, rfl, rfl, rfl, w0⟩ := open_string Tryz.underlying9 (hval 0 9 v0 rfl rfl) h0
  have hl0 : a0.size ≤ 140737488355328 := by
    have h := List.all_eq_true.1 hsz _ (DataW.weights_mem_each (j := 0) (t := 9) rfl rfl a0.data.toList.length (by simp [DataW.weights]))
    have h : a0.data.toList.length ≤ reachBytes := of_decide_eq_true h
    simp only [reachBytes] at h
    have e : a0.data.toList.length = a0.size := by simp
    omega
  obtain ⟨k1, n1, s1, t1, u1, fx1, ar1, r1a, c1a, x1a, y1a, r1b, c1b, x1b, y1b, er1, pl1, rfl, rfl, rfl, m0, m1, m2, m3, m4, m5⟩ := open_lex (hval 1 28 v1 rfl rfl) h1
  have hb1 : n1 < 18446744073709551616 := by simpa [Lit.wf] using m1
  have hl1 : s1.size ≤ 140737488355328 := by
    have h := List.all_eq_true.1 hsz _ (DataW.weights_mem_each (j := 1) (t := 28) rfl rfl s1.data.toList.length (by simp [DataW.weights, DataW.weightsEach, Tryz.underlying28, Tryz.underlying26]))
    have h : s1.data.toList.length ≤ reachBytes := of_decide_eq_true h
    simp only [reachBytes] at h
    have e : s1.data.toList.length = s1.size := by simp
    omega
  have hl1t : t1.size ≤ 140737488355328 := by
    have h := List.all_eq_true.1 hsz _ (DataW.weights_mem_each (j := 1) (t := 28) rfl rfl t1.data.toList.length (by simp [DataW.weights, DataW.weightsEach, Tryz.underlying28, Tryz.underlying26]))
    have h : t1.data.toList.length ≤ reachBytes := of_decide_eq_true h
    simp only [reachBytes] at h
    have e : t1.data.toList.length = t1.size := by simp
    omega
  have hl1u : u1.size ≤ 140737488355328 := by
    have h := List.all_eq_true.1 hsz _ (DataW.weights_mem_each (j := 1) (t := 28) rfl rfl u1.data.toList.length (by simp [DataW.weights, DataW.weightsEach, Tryz.underlying28, Tryz.underlying26]))
    have h : u1.data.toList.length ≤ reachBytes := of_decide_eq_true h
    simp only [reachBytes] at h
    have e : u1.data.toList.length = u1.size := by simp
    omega
  clear hA0 hsz
  try simp only [List.append_nil] at hW'
  refine (names_walk_lx a0 k1 n1 s1 t1 u1 fx1 ar1 r1a c1a x1a y1a r1b c1b x1b y1b er1 pl1 W hT hl0 hb1 hl1 hl1t hl1u).mono fun e W' ⟨he, bel⟩ => ?_
  subst he
  exact ⟨_, rfl, _, _, _, [], _, [], hW', trodAll_mk1 (shut_bool Tryz.underlying4 _), (trodAll_cons_mk (shut_string Tryz.underlying9 w0) (trodAll_cons_mk (shut_lex m0 m1 m2 m3 m4 m5) trodAll_mk0)), rfl, bel.frame _, fun h => by cases h⟩

theorem reads (os : Os) {H : Type} (enc : TypeId × Value → H) : ∃ places, DataW.whole enc Tryz.prog ((laidWorld os).forCall (fun _ _ => 0) ⟨#[], #[.string ⟨#[]⟩, (.agg #[.int .i64 0, .float .f64 0, .string ⟨#[]⟩, .string ⟨#[]⟩, .string ⟨#[]⟩, .bool false, .bool false, .int .i64 0, .int .i64 0, .bool false, .bool false, .int .i64 0, .int .i64 0, .bool false, .bool false, .int .i64 0, .int .i64 0])], []⟩).memory Tryz.f3.params.toList Rows.lexisNamesSpec.vars false (#[.string ⟨#[]⟩, (.agg #[.int .i64 0, .float .f64 0, .string ⟨#[]⟩, .string ⟨#[]⟩, .string ⟨#[]⟩, .bool false, .bool false, .int .i64 0, .int .i64 0, .bool false, .bool false, .int .i64 0, .int .i64 0, .bool false, .bool false, .int .i64 0, .int .i64 0])] : Array Value).toList 8 = some ([.lit (.string []), .agg [.lit (.int .i64 0), .lit (.float .f64 0), .lit (.string []), .agg [.lit (.string []), .lit (.string []), .lit (.bool false), .lit (.bool false), .agg [.lit (.int .i64 0), .lit (.int .i64 0), .lit (.bool false), .lit (.bool false)], .agg [.lit (.int .i64 0), .lit (.int .i64 0), .lit (.bool false), .lit (.bool false)]], .lit (.int .i64 0), .lit (.int .i64 0)]], [], places) :=
  ⟨[], by kernel_rfl⟩

theorem okIn (os : Os) : Input.okWideB Tryz.prog ((laidWorld os).forCall (fun _ _ => 0) ⟨#[], #[.string ⟨#[]⟩, (.agg #[.int .i64 0, .float .f64 0, .string ⟨#[]⟩, .string ⟨#[]⟩, .string ⟨#[]⟩, .bool false, .bool false, .int .i64 0, .int .i64 0, .bool false, .bool false, .int .i64 0, .int .i64 0, .bool false, .bool false, .int .i64 0, .int .i64 0])], []⟩) 3 ⟨#[], #[.string ⟨#[]⟩, (.agg #[.int .i64 0, .float .f64 0, .string ⟨#[]⟩, .string ⟨#[]⟩, .string ⟨#[]⟩, .bool false, .bool false, .int .i64 0, .int .i64 0, .bool false, .bool false, .int .i64 0, .int .i64 0, .bool false, .bool false, .int .i64 0, .int .i64 0])], []⟩ = true := by kernel_rfl
theorem sized (os : Os) {H : Type} (enc : TypeId × Value → H) : (OpenSpec.ofChange Rows.lexisNamesSpec).bare.sizedB enc Tryz.prog Tryz.f3 false ((laidWorld os).forCall (fun _ _ => 0) ⟨#[], #[.string ⟨#[]⟩, (.agg #[.int .i64 0, .float .f64 0, .string ⟨#[]⟩, .string ⟨#[]⟩, .string ⟨#[]⟩, .bool false, .bool false, .int .i64 0, .int .i64 0, .bool false, .bool false, .int .i64 0, .int .i64 0, .bool false, .bool false, .int .i64 0, .int .i64 0])], []⟩).memory #[.string ⟨#[]⟩, (.agg #[.int .i64 0, .float .f64 0, .string ⟨#[]⟩, .string ⟨#[]⟩, .string ⟨#[]⟩, .bool false, .bool false, .int .i64 0, .int .i64 0, .bool false, .bool false, .int .i64 0, .int .i64 0, .bool false, .bool false, .int .i64 0, .int .i64 0])] 8 = true := by kernel_rfl

theorem pre0 (os : Os) {H : Type} (enc : TypeId × Value → H) : (OpenSpec.ofChange Rows.lexisNamesSpec).preRow enc Tryz.prog Tryz.f3 Rows.lexisNamesRow.domain false Rows.lexisNamesRow.laid ((laidWorld os).forCall (fun _ _ => 0) ⟨#[], #[.string ⟨#[]⟩, (.agg #[.int .i64 0, .float .f64 0, .string ⟨#[]⟩, .string ⟨#[]⟩, .string ⟨#[]⟩, .bool false, .bool false, .int .i64 0, .int .i64 0, .bool false, .bool false, .int .i64 0, .int .i64 0, .bool false, .bool false, .int .i64 0, .int .i64 0])], []⟩).memory #[.string ⟨#[]⟩, (.agg #[.int .i64 0, .float .f64 0, .string ⟨#[]⟩, .string ⟨#[]⟩, .string ⟨#[]⟩, .bool false, .bool false, .int .i64 0, .int .i64 0, .bool false, .bool false, .int .i64 0, .int .i64 0, .bool false, .bool false, .int .i64 0, .int .i64 0])] := by
  obtain ⟨places, hx⟩ := reads os enc
  exact OpenSpec.preRow_of_cond 8 hx (by kernel_rfl) (fun k hk => by cases hk) (sized os enc) (laid_met0 os _)

set_option maxRecDepth 100000 in
theorem lifted (os : Os) (started : os.Started) (H : Type) (enc : TypeId × Value → H) (F : Stop.Interp) :
    ReturnsInHanded {} Tryz.checked os 3 .any ((OpenSpec.ofChange Rows.lexisNamesSpec).preRow enc Tryz.prog Tryz.f3 Rows.lexisNamesRow.domain false Rows.lexisNamesRow.laid) (((OpenSpec.ofChange Rows.lexisNamesSpec).at F).post enc Tryz.prog Tryz.f3 false true false false) := by
  refine returnsInHanded_of_row (C := Tryz.checked) (s := OpenSpec.ofChange Rows.lexisNamesSpec) own started (by kernel_rfl) Tryz.func3 (witness_laid false #[.string ⟨#[]⟩, (.agg #[.int .i64 0, .float .f64 0, .string ⟨#[]⟩, .string ⟨#[]⟩, .string ⟨#[]⟩, .bool false, .bool false, .int .i64 0, .int .i64 0, .bool false, .bool false, .int .i64 0, .int .i64 0, .bool false, .bool false, .int .i64 0, .int .i64 0])] (okIn os) (pre0 os enc)) ?_
  intro W base args ds gs before hval hW _ _ hsz hlaid hopen _
  exact contract H enc W base args ds gs before hval hW hsz (tabs_of hlaid hopen)

theorem said : Rows.LexisNamesSaid :=
  OpenClaim.holds_of_cond 3 Tryz.f3 rfl rfl rfl rfl rfl rfl rfl ⟨rfl, rfl, rfl, rfl, rfl⟩ rfl rfl rfl rfl rfl (by kernel_rfl) Tryz.func3 (by kernel_rfl)
    (of_decide_eq_true (by kernel_rfl)) (by unfold Func.isWrapper; first | (rw [if_pos (by decide +kernel)]; kernel_rfl) | (rw [if_neg (by decide +kernel)]; exact ⟨rfl, rfl⟩))
    (fun os started H enc _ F => by rw [OpenClaim.pre_eq_preRow]; exact lifted os started H enc F)

theorem plain (f : FuncId) (fn : Func) (hf : Tryz.pinned.checked.prog.funcNamed "gridiron/gridironlaw12.LexisNames" = some f) (hfn : Tryz.pinned.checked.prog.funcs[f]? = some fn) :
    true = Tryz.pinned.checked.prog.looks [] ∧ ∀ (j : Nat) t, fn.params[j]? = some t → Tryz.pinned.checked.prog.wantsStandIn t = false := by
  obtain rfl : f = 3 := Option.some.inj ((show Tryz.prog.funcNamed "gridiron/gridironlaw12.LexisNames" = some 3 by kernel_rfl).symm.trans hf) |>.symm
  obtain rfl : fn = Tryz.f3 := (Option.some.inj (Tryz.func3.symm.trans hfn)).symm
  refine ⟨by kernel_rfl, fun j t ht => ?_⟩
  rw [Tryz.params3] at ht
  have hm := Array.mem_of_getElem? ht
  simp at hm
  rcases hm with rfl | rfl
  · exact (show Tryz.prog.wantsStandIn 9 = false by kernel_rfl)
  · exact (show Tryz.prog.wantsStandIn 28 = false by kernel_rfl)

theorem card : Rows.LexisNamesCardSaid :=
  Claim7.holds_tied_plain_at .later [] _ _ _ _ said (fun _ h => by cases h) (by kernel_rfl) (fun _ h => by cases h) lexisNames_row_tie rfl ⟨rfl, rfl⟩ (by kernel_rfl) rfl plain (by kernel_rfl)
end Go.Proofs.YtkohohjpnlhioaaGreatDoor.lexisNames
namespace Go.Proofs.YtkohohjpnlhioaaGreatDoor
theorem lexisNames_holds : Rows.LexisNamesCardSaid := lexisNames.card
#print axioms lexisNames_holds
end Go.Proofs.YtkohohjpnlhioaaGreatDoor
