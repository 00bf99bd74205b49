/- The tables, as the card lays them. -/
import Derived.Test.YtpjbobbmldplbaaGreatDoorCards
import Derived.Test.YtpjbobbmldplbaaGreatDoorTie
import Derived.Test.YtpjbobbmldplbaaGreatDoorK13
import Derived.Deep.DeepHandedRow
import Derived.Lib.LaidTab
import Derived.Lib.LaidU8T
import Derived.SevenTiedAt
import Derived.JoinedCond
import Derived.ProofKit
import Derived.OpenShut
import Derived.SizedLaws
import Derived.ChangeOld
import Derived.ChangeMaps5
namespace Go.Proofs.YtpjbobbmldplbaaGreatDoor
open Go.ChangeShapes Go.WideShapes Go.ChangeAt Go.RowKit Go.Shelf

theorem own : ownKnob Tryz.prog.godebug = none := by kernel_rfl
theorem laidOut : laidOutB Tryz.prog = true := by kernel_rfl
theorem var_lt {P : Program} {w : World} {n : String} {g : Nat} {cs : Array Value} (hg : P.globalNamed n = some g) (h : w.var? P n = some cs) : g < w.heap.size := by
  unfold World.var? at h
  rw [hg] at h
  simp only [Option.bind_some] at h
  split at h
  · rename_i hb
    exact lt_of_block hb
  · cases h
theorem trod_float {H : Type} {enc : TypeId × Value → H} {P : Program} {w : World} {base : Nat} {spare : Nat → Bool} {held : Bool} {fuel : Nat} {t : TypeId} {cs : List Value} {x : DataW H × List MemPlace} {k : FloatKind} (ht : P.underlying t = some (.float k)) (h : DataW.trod enc P w base spare held fuel t cs = some x) : ∃ n, cs = [.float k n] ∧ x = (.lit (.float k n), []) ∧ (Lit.float k n).wf = true := by
  cases fuel with
  | zero => simp [DataW.trod] at h
  | succ n =>
    unfold DataW.trod at h
    rw [ht] at h
    split at h <;> simp_all
section
variable {H : Type} {enc : TypeId × Value → H} {W : World}
set_option maxRecDepth 100000 in
theorem open_value {r : Reach} {b0 : Nat} {v : Value} {dd : DataW H} {ps : List MemPlace} (hval : Value.okWide Tryz.prog W r b0 37 v) (hd : DataW.Trod enc Tryz.prog W 0 (fun _ => true) true 37 v dd ps) :
    ∃ (k : Int) (n : Nat) (s : ByteArray) (y : Bool) (c : Int), v = (.agg #[.int .i64 k, .float .f64 n, .string s, .bool y, .int .i64 c]) ∧ dd = .agg [.lit (.int .i64 k), .lit (.float .f64 n), .lit (.string s.data.toList), .lit (.bool y), .lit (.int .i64 c)] ∧ ps = [] ∧ (Lit.int .i64 k).wf = true ∧ (Lit.float .f64 n).wf = true ∧ s.size ≤ maxLen ∧ (Lit.int .i64 c).wf = true := by
  have hc5 : Tryz.prog.cellsOf 37 = 5 := by kernel_rfl
  have c1 : Tryz.prog.cellsOf 3 = 1 := by kernel_rfl
  have c2 : Tryz.prog.cellsOf 35 = 1 := by kernel_rfl
  have c3 : Tryz.prog.cellsOf 9 = 1 := by kernel_rfl
  have c4 : Tryz.prog.cellsOf 4 = 1 := by kernel_rfl
  simp only [Value.okWide, Tryz.underlying37] at hval
  obtain ⟨cs, rfl, hs, _⟩ := hval
  rw [hc5] at hs
  obtain ⟨l⟩ := cs
  match l, hs with
  | [v0, v1, v2, v3, v4], _ =>
    obtain ⟨fuel, hf⟩ := hd
    obtain ⟨xs, k, _, hxy, _, hxl, hf⟩ := DataW.trod_struct Tryz.underlying37 hf
    match xs, hxl with
    | [y0, y1, y2, y3, y4], _ =>
      have g0 := hf 0 _ rfl
      have g1 := hf 1 _ rfl
      have g2 := hf 2 _ rfl
      have g3 := hf 3 _ rfl
      have g4 := hf 4 _ rfl
      simp [c1, c2, c3, c4, Value.cells] at g0 g1 g2 g3 g4
      obtain ⟨n0, e0, rfl, w0⟩ := DataW.trod_int Tryz.underlying3 g0
      obtain ⟨n1, e1, rfl, w1⟩ := trod_float Tryz.underlying35 g1
      obtain ⟨n2, e2, rfl, w2⟩ := DataW.trod_string Tryz.underlying9 g2
      obtain ⟨n3, e3, rfl⟩ := DataW.trod_bool Tryz.underlying4 g3
      obtain ⟨n4, e4, rfl, w4⟩ := DataW.trod_int Tryz.underlying3 g4
      simp only [List.cons.injEq, and_true] at e0 e1 e2 e3 e4
      subst e0 e1 e2 e3 e4
      simp only [Prod.mk.injEq] at hxy
      exact ⟨n0, n1, n2, n3, n4, rfl, by rw [hxy.1]; rfl, by rw [hxy.2]; rfl, w0, w1, w2, w4⟩
theorem shut_value {sp : Nat → Bool} {k : Int} {n : Nat} {s : ByteArray} {y : Bool} {c : Int} (w0 : (Lit.int .i64 k).wf = true) (w1 : (Lit.float .f64 n).wf = true) (w2 : s.size ≤ maxLen) (w3 : (Lit.int .i64 c).wf = true) :
    DataW.Trod enc Tryz.prog W 0 sp true 37 (.agg #[.int .i64 k, .float .f64 n, .string s, .bool y, .int .i64 c]) (.agg [.lit (.int .i64 k), .lit (.float .f64 n), .lit (.string s.data.toList), .lit (.bool y), .lit (.int .i64 c)]) [] := by
  have hc5 : Tryz.prog.cellsOf 37 = 5 := by kernel_rfl
  have c1 : Tryz.prog.cellsOf 3 = 1 := by kernel_rfl
  have c2 : Tryz.prog.cellsOf 35 = 1 := by kernel_rfl
  have c3 : Tryz.prog.cellsOf 9 = 1 := by kernel_rfl
  have c4 : Tryz.prog.cellsOf 4 = 1 := by kernel_rfl
  exact ⟨2, by
    show DataW.trod enc Tryz.prog W 0 sp true (1 + 1) 37 [.int .i64 k, .float .f64 n, .string s, .bool y, .int .i64 c] = _
    simp [DataW.trod, Tryz.underlying37, Tryz.underlying3, Tryz.underlying35, Tryz.underlying9, Tryz.underlying4, hc5, c1, c2, c3, c4, w0, w1, w2, w3]⟩
end
theorem u8T : U8Types Tryz.prog Tryz.laysLaysn196_ren := { Tryz.laysLaysn196 with }
theorem u8X : U8Extra Tryz.prog Tryz.laysLaysn196_ren where
  n3 := by kernel_rfl
  y3 := by kernel_rfl
  n4 := by kernel_rfl
  y4 := by kernel_rfl
  c5 := by kernel_rfl
  c119 := by kernel_rfl
  c138 := by kernel_rfl
/-- The rows' variables, in their order. -/
def laidVars : List (String × DataW Unit) := [("math/bits.deBruijn32tab", Rows.laid_math_bits_deBruijn32tab), ("math/bits.deBruijn64tab", Rows.laid_math_bits_deBruijn64tab), ("internal/strconv.float32info", Rows.laid_internal_strconv_float32info), ("internal/strconv.float64info", Rows.laid_internal_strconv_float64info), ("internal/strconv.optimize", Rows.laid_internal_strconv_optimize), ("internal/strconv.powtab", Rows.laid_internal_strconv_powtab), ("internal/strconv.float64pow10", Rows.laid_internal_strconv_float64pow10), ("internal/strconv.float32pow10", Rows.laid_internal_strconv_float32pow10), ("internal/strconv.uint64pow10", Rows.laid_internal_strconv_uint64pow10), ("unicode/utf8.acceptRanges", Rows.laid_unicode_utf8_acceptRanges), ("strconv.ErrRange", Rows.laid_strconv_ErrRange), ("strconv.ErrSyntax", Rows.laid_strconv_ErrSyntax), ("internal/strconv.leftcheats", Rows.laid_internal_strconv_leftcheats), ("internal/strconv.pow10Tab", Rows.laid_internal_strconv_pow10Tab), ("unicode/utf8.first", Rows.laid_unicode_utf8_first)]
theorem u8_of {w : World} (h : laidMet Tryz.prog laidVars w) : U8 w :=
  utf8Tabs_of_readsT u8T u8X (Go.Lib.laidMet.reads h (n := "unicode/utf8.first") (d := Go.Lib.firstData) (by
      rw [show Go.Lib.firstData = Rows.laid_unicode_utf8_first by kernel_rfl]
      unfold laidVars
      simp))
    (Go.Lib.laidMet.reads h (n := "unicode/utf8.acceptRanges") (d := Go.Lib.acceptData) (by
      rw [show Go.Lib.acceptData = Rows.laid_unicode_utf8_acceptRanges by kernel_rfl]
      unfold laidVars
      simp))
/-- A block with other cells. -/
def putCells (cs : Array Value) : Obj → Obj
  | .cells _ t frozen => .cells cs t frozen
  | o => o
/-- The cells of a datum that is flat: a number, or a struct of such. -/
def flat0 : DataW Unit → List Value
  | .lit (.int k n) => [.int k n]
  | .lit (.bool b) => [.bool b]
  | .lit (.float k n) => [.float k n]
  | .lit (.string bs) => [.string ⟨bs.toArray⟩]
  | _ => []
def flat1 : DataW Unit → List Value
  | .agg l => l.flatMap flat0
  | d => flat0 d
def flatRow : DataW Unit → Array Value
  | .slice l _ => (l.flatMap flat1).toArray
  | .agg l => (l.flatMap flat1).toArray
  | d => (flat0 d).toArray
/-- A world in which the tables read as they are laid. -/
noncomputable def laidWorld (os : Os) : World :=
  let H := World.holding Tryz.prog os ⟨#[], #[], []⟩
  let n := H.heap.size
  { H with
    heap := ((((((((((((((((H.heap.modify 15 (putCells (flatRow Rows.laid_math_bits_deBruijn32tab))).modify 16 (putCells (flatRow Rows.laid_math_bits_deBruijn64tab))).modify 7 (putCells (flatRow Rows.laid_internal_strconv_float32info))).modify 8 (putCells (flatRow Rows.laid_internal_strconv_float64info))).modify 6 (putCells (flatRow Rows.laid_internal_strconv_optimize))).modify 11 (putCells #[.slice (some ⟨n + 3, 0, none⟩) 9 9])).modify 12 (putCells #[.slice (some ⟨n + 4, 0, none⟩) 23 23])).modify 10 (putCells #[.slice (some ⟨n + 5, 0, none⟩) 11 11])).modify 9 (putCells (flatRow Rows.laid_internal_strconv_uint64pow10))).modify 2 (putCells (flatRow Rows.laid_unicode_utf8_acceptRanges))).modify 5 (putCells #[.iface 234 (.pointer (some ⟨n, 0, none⟩))])).modify 4 (putCells #[.iface 234 (.pointer (some ⟨n + 1, 0, none⟩))])).modify 14 (putCells #[.slice (some ⟨n + 2, 0, none⟩) 61 61])).modify 13 (putCells (flatRow Rows.laid_internal_strconv_pow10Tab))).modify 1 (putCells (flatRow Rows.laid_unicode_utf8_first)))
      ++ #[.cells #[.string ⟨#[118, 97, 108, 117, 101, 32, 111, 117, 116, 32, 111, 102, 32, 114, 97, 110, 103, 101]⟩] 236 (0, 0), .cells #[.string ⟨#[105, 110, 118, 97, 108, 105, 100, 32, 115, 121, 110, 116, 97, 120]⟩] 236 (0, 0), .cells (flatRow Rows.laid_internal_strconv_leftcheats) 267 (0, 0), .cells (flatRow Rows.laid_internal_strconv_powtab) 3 (0, 0), .cells (flatRow Rows.laid_internal_strconv_float64pow10) 35 (0, 0), .cells (flatRow Rows.laid_internal_strconv_float32pow10) 174 (0, 0)]) }
/-- The places of the tables: of each block so many. -/
def segs : List (Nat × Nat) := [(15, 32), (16, 64), (7, 3), (8, 3), (6, 1), (11, 1), (25, 9), (12, 1), (26, 23), (10, 1), (27, 11), (9, 20), (2, 32), (5, 1), (22, 1), (4, 1), (23, 1), (14, 1), (24, 122), (13, 1392), (1, 256)]
def placesOf (l : List (Nat × Nat)) : List MemPlace := l.flatMap fun x => (List.range x.2).map (MemPlace.cell x.1)
theorem places_block {l : List (Nat × Nat)} {p : MemPlace} (h : p ∈ placesOf l) : ∃ b o, p = .cell b o ∧ b ∈ l.map (·.1) := by
  unfold placesOf at h
  obtain ⟨x, hx, hp⟩ := List.mem_flatMap.1 h
  obtain ⟨o, _, rfl⟩ := List.mem_map.1 hp
  exact ⟨x.1, o, rfl, List.mem_map.2 ⟨x, hx, rfl⟩⟩
theorem places_nodup : ∀ l : List (Nat × Nat), (l.map (·.1)).Nodup → (placesOf l).Nodup
  | [], _ => List.nodup_nil
  | x :: l, h => by
    rw [List.map_cons, List.nodup_cons] at h
    show ((List.range x.2).map (MemPlace.cell x.1) ++ placesOf l).Nodup
    rw [List.nodup_append]
    refine ⟨?_, places_nodup l h.2, fun a ha b hb e => ?_⟩
    · rw [List.nodup_iff_pairwise_ne, List.pairwise_map]
      refine List.Pairwise.imp ?_ (List.nodup_iff_pairwise_ne.1 List.nodup_range)
      intro a b hab e
      injection e with _ e2
      exact hab e2
    · obtain ⟨o, _, rfl⟩ := List.mem_map.1 ha
      obtain ⟨b', o', rfl, hb'⟩ := places_block hb
      injection e with e1 _
      rw [← e1] at hb'
      exact h.1 hb'
theorem laid_run0 (os : Os) (args : Array Value) : DataW.laidRun Tryz.prog ((laidWorld os).forCall (fun _ _ => 0) ⟨#[], args, []⟩).memory 2000 (laidVars.map (·.1)) = some (laidVars, placesOf segs) := by kernel_rfl
/-- A block's cells can be read, and what interfaces lie there are whole. -/
noncomputable def blockOk (w : World) (b : Nat) : Bool :=
  match w.heap[b]? with
  | some (.cells c _ (0, 0)) => c.toList.all fun v => match v with
    | .iface u v => Value.okWideB Tryz.prog w u v
    | _ => true
  | _ => false
set_option maxRecDepth 100000 in
theorem met_of {w : World} {fuel : Nat} (h1 : DataW.laidRun Tryz.prog w fuel (laidVars.map (·.1)) = some (laidVars, placesOf segs)) (h2 : (segs.map (·.1)).all (blockOk w) = true) : laidMet Tryz.prog laidVars w := by
  refine ⟨_, DataW.LaidVars_of_laidRun h1, places_nodup segs (by decide), fun b off hp => ?_⟩
  obtain ⟨b', o', e, hb⟩ := places_block hp
  injection e with e1 e2
  subst e1 e2
  have hk := List.all_eq_true.1 h2 _ hb
  unfold blockOk at hk
  split at hk
  · rename_i c t hh
    refine ⟨⟨c, t, hh⟩, fun u v hc => ?_⟩
    have hcell : c[off]? = some (.iface u v) := by
      unfold World.cell? at hc
      rw [hh] at hc
      simpa using hc
    have hq : Value.okWideB Tryz.prog w u v = true := List.all_eq_true.1 hk (.iface u v) (List.mem_of_getElem? (by rw [Array.getElem?_toList]; exact hcell))
    exact Value.okWide_of_okWideB (P := Tryz.prog) (w := w) hq
  · cases hk
theorem laid_rows0 (os : Os) (args : Array Value) : (segs.map (·.1)).all (blockOk ((laidWorld os).forCall (fun _ _ => 0) ⟨#[], args, []⟩).memory) = true := by kernel_rfl
theorem laid_met0 (os : Os) (args : Array Value) : laidMet Tryz.prog laidVars ((laidWorld os).forCall (fun _ _ => 0) ⟨#[], args, []⟩).memory :=
  met_of (laid_run0 os args) (laid_rows0 os args)
/-- The cells of a row, each fitting its type, in one walk. -/
def pairsB (P : Program) (w : World) : List TypeId → List Value → Bool
  | [], [] => true
  | u :: us, v :: vs => Cell.okRefB P w u v && pairsB P w us vs
  | _, _ => false
theorem pairs_get {P : Program} {w : World} : ∀ {ts : List TypeId} {vs : List Value}, pairsB P w ts vs = true → vs.length = ts.length ∧ ∀ (i : Nat) v, vs[i]? = some v → ∃ u, ts[i]? = some u ∧ Cell.okRefB P w u v = true
  | [], [], _ => ⟨rfl, fun i v h => by simp at h⟩
  | [], _ :: _, h => by simp [pairsB] at h
  | _ :: _, [], h => by simp [pairsB] at h
  | u :: us, v :: vs, h => by
    simp only [pairsB, Bool.and_eq_true] at h
    obtain ⟨h1, h2⟩ := pairs_get h.2
    refine ⟨by simp [h1], fun i x hx => ?_⟩
    cases i with
    | zero => simp at hx; subst hx; exact ⟨u, rfl, h.1⟩
    | succ i => simp at hx; obtain ⟨y, hy, hk⟩ := h2 i x hx; exact ⟨y, by simpa using hy, hk⟩
def rowPairsB (P : Program) (w : World) (t : TypeId) (cs : Array Value) : Bool :=
  match P.cellTypes P.depth t with
  | some ts => pairsB P w ts cs.toList
  | none => false
theorem row_of_pairs {P : Program} {w : World} {base : Nat} {t : TypeId} {cs : Array Value} (h : rowPairsB P w t cs = true) : Row.ok P w .any base t cs := by
  unfold rowPairsB at h
  split at h
  · rename_i ts hts
    obtain ⟨h1, h2⟩ := pairs_get h
    have hl : cs.size = ts.length := by simpa using h1
    refine ⟨ts, hts, ⟨1, by omega⟩, fun i v hv => ?_⟩
    have hi : i < cs.size := (Array.getElem?_eq_some_iff.1 hv).1
    obtain ⟨u, hu, hk⟩ := h2 i v (by rw [Array.getElem?_toList]; exact hv)
    exact ⟨u, by rw [Nat.mod_eq_of_lt (by omega)]; exact hu, Cell.ok_of_okRefB hk⟩
  · cases h
noncomputable def varB (P : Program) (w : World) (g : Nat) : Bool :=
  match ((begin P (fun _ _ => 0) default).world.heap[g]?).bind Obj.row? with
  | none => true
  | some (zero, t) =>
    match w.heap[g]? with
    | some (.cells cs t' (0, 0)) => decide (t' = t) && cs.size == zero.size && (!P.buildable t || rowPairsB P w t cs)
    | _ => false
theorem shaped_of_vars {P : Program} {w : World} (hv : (List.range P.globals.size).all (varB P w) = true)
    (hr : (w.heap.toList.drop P.globals.size).take ((begin P (fun _ _ => 0) default).world.heap.size - P.globals.size) =
      (begin P (fun _ _ => 0) default).world.heap.toList.drop P.globals.size) : w.Shaped P := by
  refine ⟨fun g zero t hg hz => ?_, fun k h1 h2 => ?_⟩
  case refine_2 =>
    have := congrArg (·[k - P.globals.size]?) hr
    simp only [List.getElem?_take, List.getElem?_drop, Array.getElem?_toList] at this
    rw [if_pos (by omega), Nat.add_sub_cancel' h1] at this
    exact this
  have := List.all_eq_true.1 hv g (List.mem_range.2 hg)
  unfold varB at this
  rw [hz] at this
  simp only at this
  split at this
  · rename_i cs t' hw
    simp only [Bool.and_eq_true, decide_eq_true_eq, beq_iff_eq, Bool.or_eq_true, Bool.not_eq_true'] at this
    obtain ⟨⟨rfl, hs⟩, hb⟩ := this
    refine ⟨cs, hw, hs, fun hbuild => ?_⟩
    rcases hb with hb | hb
    · rw [hbuild] at hb; cases hb
    · exact row_of_pairs hb
  · cases this
theorem laid_vars (os : Os) (args : Array Value) : (List.range Tryz.prog.globals.size).all (varB Tryz.prog ((laidWorld os).forCall (fun _ _ => 0) ⟨#[], args, []⟩)) = true := by kernel_rfl
theorem laid_rest (os : Os) (args : Array Value) : (((laidWorld os).forCall (fun _ _ => 0) ⟨#[], args, []⟩).heap.toList.drop Tryz.prog.globals.size).take ((begin Tryz.prog (fun _ _ => 0) default).world.heap.size - Tryz.prog.globals.size) =
      (begin Tryz.prog (fun _ _ => 0) default).world.heap.toList.drop Tryz.prog.globals.size := by kernel_rfl
theorem laid_shaped (os : Os) (args : Array Value) : ((laidWorld os).forCall (fun _ _ => 0) ⟨#[], args, []⟩).Shaped Tryz.prog := shaped_of_vars (laid_vars os args) (laid_rest os args)
/-- There is an input that fits, at the world in which the tables are laid. -/
theorem witness_laid {H : Type} {enc : TypeId × Value → H} {os : Os} {f : FuncId} {fn : Func} {s : OpenSpec} {conds : List PathCond} {apart : Bool} {laid : List (String × DataW Unit)} (modest : Bool) (args : Array Value)
    (hok : Input.okWideB Tryz.prog ((laidWorld os).forCall (fun _ _ => 0) ⟨#[], args, []⟩) f ⟨#[], args, []⟩ = true)
    (hrow : s.preRow enc Tryz.prog fn conds apart laid ((laidWorld os).forCall (fun _ _ => 0) ⟨#[], args, []⟩).memory args) :
    ∃ (w : World) (tape : Tape) (i : Input), w.os = os ∧ (w.forCall tape i).Shaped Tryz.prog ∧ i.vars = [] ∧ Input.okWide Tryz.prog (w.forCall tape i) .any w.heap.size f i ∧
      s.preRow enc Tryz.prog fn conds apart laid (w.forCall tape i).memory i.args ∧ ({ modest := modest } : Assume).holds Tryz.prog (lone (Frame.enter Tryz.prog f i.args .normal) [] (w.forCall tape i)) :=
  ⟨laidWorld os, fun _ _ => 0, ⟨#[], args, []⟩, rfl, laid_shaped os args, (Input.okWide_of_okWideB (base := 0) hok).1, (Input.okWide_of_okWideB hok).2, hrow, by
    simp only [Assume.holds]
    exact ⟨by simp, by simp, fun _ => Modest.zero, by simp, by simp⟩⟩
#print axioms u8_of
#print axioms witness_laid
#print axioms laid_met0
end Go.Proofs.YtpjbobbmldplbaaGreatDoor
