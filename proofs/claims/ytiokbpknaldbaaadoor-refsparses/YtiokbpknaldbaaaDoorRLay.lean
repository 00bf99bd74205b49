/- The tables, as the cards lay them. -/
import Derived.Test.YtiokbpknaldbaaaDoorCards
import Derived.Test.YtiokbpknaldbaaaDoorTie
import Derived.Test.YtiokbpknaldbaaaDoorRTab
import Derived.Deep.DeepHandedRow
import Derived.Lib.LaidTab
import Derived.Lib.LaidU8T
import Derived.SevenTiedAt
import Derived.JoinedCond
import Derived.ProofKit
import Derived.OpenShut
import Derived.SizedLaws
import Derived.ChangeOld
import Derived.ChangeMaps5
namespace Go.Proofs.YtiokbpknaldbaaaDoor
open Go.ChangeShapes Go.WideShapes Go.ChangeAt Go.RowKit Go.Shelf

theorem own : ownKnob Tryd.prog.godebug = none := by kernel_rfl
theorem laidOut : laidOutB Tryd.prog = true := by kernel_rfl
theorem var_lt {P : Program} {w : World} {n : String} {g : Nat} {cs : Array Value} (hg : P.globalNamed n = some g) (h : w.var? P n = some cs) : g < w.heap.size := by
  unfold World.var? at h
  rw [hg] at h
  simp only [Option.bind_some] at h
  split at h
  · rename_i hb
    exact lt_of_block hb
  · cases h
/-- The rows' variables, in their order. -/
def laidVarsA : List (String × DataW Unit) := [("math/bits.deBruijn32tab", Rows.laid_math_bits_deBruijn32tab), ("math/bits.deBruijn64tab", Rows.laid_math_bits_deBruijn64tab), ("internal/strconv.uint64pow10", Rows.laid_internal_strconv_uint64pow10), ("strconv.ErrRange", Rows.laid_strconv_ErrRange), ("strconv.ErrSyntax", Rows.laid_strconv_ErrSyntax)]
/-- The rows' variables, in their order. -/
def laidVarsB : List (String × DataW Unit) := [("math/bits.deBruijn32tab", Rows.laid_math_bits_deBruijn32tab), ("math/bits.deBruijn64tab", Rows.laid_math_bits_deBruijn64tab), ("internal/strconv.uint64pow10", Rows.laid_internal_strconv_uint64pow10), ("unicode/utf8.acceptRanges", Rows.laid_unicode_utf8_acceptRanges), ("strconv.ErrRange", Rows.laid_strconv_ErrRange), ("strconv.ErrSyntax", Rows.laid_strconv_ErrSyntax), ("unicode/utf8.first", Rows.laid_unicode_utf8_first)]
theorem lt_cell {w : World} {b o : Nat} {v : Value} (h : w.cell? ⟨b, o, none⟩ = some v) : b < w.heap.size := by
  rcases Nat.lt_or_ge b w.heap.size with h' | h'
  · exact h'
  · simp [World.cell?, Array.getElem?_eq_none h'] at h
theorem utab_of {w : World} (h : Go.Lib.VarReads Tryd.prog w "internal/strconv.uint64pow10" Rows.laid_internal_strconv_uint64pow10) : UTab w := by
  obtain ⟨g, t, cs, fuel, p, hg, hty, hvar, hd⟩ := h
  obtain rfl := Option.some.inj ((show Tryd.prog.globalNamed "internal/strconv.uint64pow10" = some 5 by kernel_rfl).symm.trans hg)
  obtain rfl := Option.some.inj ((show (Tryd.prog.globals[5]?).map (·.type) = some 122 by kernel_rfl).symm.trans hty)
  rw [show (Rows.laid_internal_strconv_uint64pow10 : DataW Unit) = Go.Lib.tabData .u64 Lib.pow10Tab by kernel_rfl] at hd
  have hcs := Go.Lib.cells_of_tab (k := .u64) (zs := Lib.pow10Tab) (show Tryd.prog.underlying 122 = some (.array 20 105) by kernel_rfl) Tryd.underlying105 (by kernel_rfl) (by kernel_rfl) hd
  refine ⟨var_lt hg hvar, ?_⟩
  unfold Lib.TabIs
  rw [hvar, ← hcs]
theorem errSyntax_of {w : World} (h : Go.Lib.VarReads Tryd.prog w "strconv.ErrSyntax" Rows.laid_strconv_ErrSyntax) : ∃ te pe, w.cell? ⟨2, 0, none⟩ = some (.iface te pe) := by
  obtain ⟨g, t, cs, fuel, p, hg, hty, hvar, hd⟩ := h
  obtain rfl := Option.some.inj ((show Tryd.prog.globalNamed "strconv.ErrSyntax" = some 2 by kernel_rfl).symm.trans hg)
  obtain rfl := Option.some.inj ((show (Tryd.prog.globals[2]?).map (·.type) = some 78 by kernel_rfl).symm.trans hty)
  obtain ⟨_, te, pe, hc, _⟩ := iface_of_trod Tryd.underlying78 hd
  exact ⟨te, pe, by rw [World.var?_cell hg hvar 0, ← Array.getElem?_toList, hc]; rfl⟩
theorem errRange_of {w : World} (h : Go.Lib.VarReads Tryd.prog w "strconv.ErrRange" Rows.laid_strconv_ErrRange) : ∃ te pe, w.cell? ⟨3, 0, none⟩ = some (.iface te pe) := by
  obtain ⟨g, t, cs, fuel, p, hg, hty, hvar, hd⟩ := h
  obtain rfl := Option.some.inj ((show Tryd.prog.globalNamed "strconv.ErrRange" = some 3 by kernel_rfl).symm.trans hg)
  obtain rfl := Option.some.inj ((show (Tryd.prog.globals[3]?).map (·.type) = some 78 by kernel_rfl).symm.trans hty)
  obtain ⟨_, te, pe, hc, _⟩ := iface_of_trod Tryd.underlying78 hd
  exact ⟨te, pe, by rw [World.var?_cell hg hvar 0, ← Array.getElem?_toList, hc]; rfl⟩
theorem u8T : U8Types Tryd.prog Tryd.laysLaysn197_ren := { Tryd.laysLaysn197 with }
theorem u8X : U8Extra Tryd.prog Tryd.laysLaysn197_ren where
  n3 := by kernel_rfl
  y3 := by kernel_rfl
  n4 := by kernel_rfl
  y4 := by kernel_rfl
  c5 := by kernel_rfl
  c119 := by kernel_rfl
  c138 := by kernel_rfl
theorem u8_of {w : World} (h : laidMet Tryd.prog laidVarsB w) : Tabs w :=
  utf8Tabs_of_readsT u8T u8X (Go.Lib.laidMet.reads h (n := "unicode/utf8.first") (d := Go.Lib.firstData) (by
      rw [show Go.Lib.firstData = Rows.laid_unicode_utf8_first by kernel_rfl]
      unfold laidVarsB
      simp))
    (Go.Lib.laidMet.reads h (n := "unicode/utf8.acceptRanges") (d := Go.Lib.acceptData) (by
      rw [show Go.Lib.acceptData = Rows.laid_unicode_utf8_acceptRanges by kernel_rfl]
      unfold laidVarsB
      simp))
theorem u_of {w : World} (h : laidMet Tryd.prog laidVarsB w) : UTab w := utab_of (Go.Lib.laidMet.reads h (by unfold laidVarsB; simp))
theorem e_of {w : World} (h : laidMet Tryd.prog laidVarsB w) : ETab w := ⟨errSyntax_of (Go.Lib.laidMet.reads h (by unfold laidVarsB; simp)), errRange_of (Go.Lib.laidMet.reads h (by unfold laidVarsB; simp))⟩
/-- A block with other cells. -/
def putCells (cs : Array Value) : Obj → Obj
  | .cells _ t frozen => .cells cs t frozen
  | o => o
/-- The cells of a datum that is flat: a number, or a struct of such. -/
def flat0 : DataW Unit → List Value
  | .lit (.int k n) => [.int k n]
  | .lit (.bool b) => [.bool b]
  | .lit (.string bs) => [.string ⟨bs.toArray⟩]
  | _ => []
def flat1 : DataW Unit → List Value
  | .agg l => l.flatMap flat0
  | d => flat0 d
def flatRow : DataW Unit → Array Value
  | .slice l _ => (l.flatMap flat1).toArray
  | .agg l => (l.flatMap flat1).toArray
  | d => (flat0 d).toArray
/-- A world in which the tables read as they are laid. -/
noncomputable def laidWorld (os : Os) : World :=
  let H := World.holding Tryd.prog os ⟨#[], #[], []⟩
  let n := H.heap.size
  { H with
    heap := ((((((((H.heap.modify 6 (putCells (flatRow Rows.laid_math_bits_deBruijn32tab))).modify 7 (putCells (flatRow Rows.laid_math_bits_deBruijn64tab))).modify 5 (putCells (flatRow Rows.laid_internal_strconv_uint64pow10))).modify 1 (putCells (flatRow Rows.laid_unicode_utf8_acceptRanges))).modify 3 (putCells #[.iface 112 (.pointer (some ⟨n + 0, 0, none⟩))])).modify 2 (putCells #[.iface 112 (.pointer (some ⟨n + 1, 0, none⟩))])).modify 0 (putCells (flatRow Rows.laid_unicode_utf8_first)))
      ++ #[.cells #[.string ⟨#[118, 97, 108, 117, 101, 32, 111, 117, 116, 32, 111, 102, 32, 114, 97, 110, 103, 101]⟩] 114 (0, 0), .cells #[.string ⟨#[105, 110, 118, 97, 108, 105, 100, 32, 115, 121, 110, 116, 97, 120]⟩] 114 (0, 0)]) }
/-- The places of the tables: of each block so many. -/
def segsA : List (Nat × Nat) := [(6, 32), (7, 64), (5, 20), (3, 1), (13, 1), (2, 1), (14, 1)]
/-- The places of the tables: of each block so many. -/
def segsB : List (Nat × Nat) := [(6, 32), (7, 64), (5, 20), (1, 32), (3, 1), (13, 1), (2, 1), (14, 1), (0, 256)]
def placesOf (l : List (Nat × Nat)) : List MemPlace := l.flatMap fun x => (List.range x.2).map (MemPlace.cell x.1)
theorem places_block {l : List (Nat × Nat)} {p : MemPlace} (h : p ∈ placesOf l) : ∃ b o, p = .cell b o ∧ b ∈ l.map (·.1) := by
  unfold placesOf at h
  obtain ⟨x, hx, hp⟩ := List.mem_flatMap.1 h
  obtain ⟨o, _, rfl⟩ := List.mem_map.1 hp
  exact ⟨x.1, o, rfl, List.mem_map.2 ⟨x, hx, rfl⟩⟩
theorem places_nodup : ∀ l : List (Nat × Nat), (l.map (·.1)).Nodup → (placesOf l).Nodup
  | [], _ => List.nodup_nil
  | x :: l, h => by
    rw [List.map_cons, List.nodup_cons] at h
    show ((List.range x.2).map (MemPlace.cell x.1) ++ placesOf l).Nodup
    rw [List.nodup_append]
    refine ⟨?_, places_nodup l h.2, fun a ha b hb e => ?_⟩
    · rw [List.nodup_iff_pairwise_ne, List.pairwise_map]
      refine List.Pairwise.imp ?_ (List.nodup_iff_pairwise_ne.1 List.nodup_range)
      intro a b hab e
      injection e with _ e2
      exact hab e2
    · obtain ⟨o, _, rfl⟩ := List.mem_map.1 ha
      obtain ⟨b', o', rfl, hb'⟩ := places_block hb
      injection e with e1 _
      rw [← e1] at hb'
      exact h.1 hb'
/-- A block's cells can be read, and what interfaces lie there are whole. -/
noncomputable def blockOk (w : World) (b : Nat) : Bool :=
  match w.heap[b]? with
  | some (.cells c _ (0, 0)) => c.toList.all fun v => match v with
    | .iface u v => Value.okWideB Tryd.prog w u v
    | _ => true
  | _ => false
theorem laid_runA (os : Os) (args : Array Value) : DataW.laidRun Tryd.prog ((laidWorld os).forCall (fun _ _ => 0) ⟨#[], args, []⟩).memory 2000 (laidVarsA.map (·.1)) = some (laidVarsA, placesOf segsA) := by kernel_rfl
set_option maxRecDepth 100000 in
theorem met_ofA {w : World} {fuel : Nat} (h1 : DataW.laidRun Tryd.prog w fuel (laidVarsA.map (·.1)) = some (laidVarsA, placesOf segsA)) (h2 : (segsA.map (·.1)).all (blockOk w) = true) : laidMet Tryd.prog laidVarsA w := by
  refine ⟨_, DataW.LaidVars_of_laidRun h1, places_nodup segsA (by decide), fun b off hp => ?_⟩
  obtain ⟨b', o', e, hb⟩ := places_block hp
  injection e with e1 e2
  subst e1 e2
  have hk := List.all_eq_true.1 h2 _ hb
  unfold blockOk at hk
  split at hk
  · rename_i c t hh
    refine ⟨⟨c, t, hh⟩, fun u v hc => ?_⟩
    have hcell : c[off]? = some (.iface u v) := by
      unfold World.cell? at hc
      rw [hh] at hc
      simpa using hc
    have hq : Value.okWideB Tryd.prog w u v = true := List.all_eq_true.1 hk (.iface u v) (List.mem_of_getElem? (by rw [Array.getElem?_toList]; exact hcell))
    exact Value.okWide_of_okWideB (P := Tryd.prog) (w := w) hq
  · cases hk
theorem laid_rowsA (os : Os) (args : Array Value) : (segsA.map (·.1)).all (blockOk ((laidWorld os).forCall (fun _ _ => 0) ⟨#[], args, []⟩).memory) = true := by kernel_rfl
theorem laid_metA (os : Os) (args : Array Value) : laidMet Tryd.prog laidVarsA ((laidWorld os).forCall (fun _ _ => 0) ⟨#[], args, []⟩).memory :=
  met_ofA (laid_runA os args) (laid_rowsA os args)
theorem laid_runB (os : Os) (args : Array Value) : DataW.laidRun Tryd.prog ((laidWorld os).forCall (fun _ _ => 0) ⟨#[], args, []⟩).memory 2000 (laidVarsB.map (·.1)) = some (laidVarsB, placesOf segsB) := by kernel_rfl
set_option maxRecDepth 100000 in
theorem met_ofB {w : World} {fuel : Nat} (h1 : DataW.laidRun Tryd.prog w fuel (laidVarsB.map (·.1)) = some (laidVarsB, placesOf segsB)) (h2 : (segsB.map (·.1)).all (blockOk w) = true) : laidMet Tryd.prog laidVarsB w := by
  refine ⟨_, DataW.LaidVars_of_laidRun h1, places_nodup segsB (by decide), fun b off hp => ?_⟩
  obtain ⟨b', o', e, hb⟩ := places_block hp
  injection e with e1 e2
  subst e1 e2
  have hk := List.all_eq_true.1 h2 _ hb
  unfold blockOk at hk
  split at hk
  · rename_i c t hh
    refine ⟨⟨c, t, hh⟩, fun u v hc => ?_⟩
    have hcell : c[off]? = some (.iface u v) := by
      unfold World.cell? at hc
      rw [hh] at hc
      simpa using hc
    have hq : Value.okWideB Tryd.prog w u v = true := List.all_eq_true.1 hk (.iface u v) (List.mem_of_getElem? (by rw [Array.getElem?_toList]; exact hcell))
    exact Value.okWide_of_okWideB (P := Tryd.prog) (w := w) hq
  · cases hk
theorem laid_rowsB (os : Os) (args : Array Value) : (segsB.map (·.1)).all (blockOk ((laidWorld os).forCall (fun _ _ => 0) ⟨#[], args, []⟩).memory) = true := by kernel_rfl
theorem laid_metB (os : Os) (args : Array Value) : laidMet Tryd.prog laidVarsB ((laidWorld os).forCall (fun _ _ => 0) ⟨#[], args, []⟩).memory :=
  met_ofB (laid_runB os args) (laid_rowsB os args)
/-- The cells of a row, each fitting its type, in one walk. -/
def pairsB (P : Program) (w : World) : List TypeId → List Value → Bool
  | [], [] => true
  | u :: us, v :: vs => Cell.okRefB P w u v && pairsB P w us vs
  | _, _ => false
theorem pairs_get {P : Program} {w : World} : ∀ {ts : List TypeId} {vs : List Value}, pairsB P w ts vs = true → vs.length = ts.length ∧ ∀ (i : Nat) v, vs[i]? = some v → ∃ u, ts[i]? = some u ∧ Cell.okRefB P w u v = true
  | [], [], _ => ⟨rfl, fun i v h => by simp at h⟩
  | [], _ :: _, h => by simp [pairsB] at h
  | _ :: _, [], h => by simp [pairsB] at h
  | u :: us, v :: vs, h => by
    simp only [pairsB, Bool.and_eq_true] at h
    obtain ⟨h1, h2⟩ := pairs_get h.2
    refine ⟨by simp [h1], fun i x hx => ?_⟩
    cases i with
    | zero => simp at hx; subst hx; exact ⟨u, rfl, h.1⟩
    | succ i => simp at hx; obtain ⟨y, hy, hk⟩ := h2 i x hx; exact ⟨y, by simpa using hy, hk⟩
def rowPairsB (P : Program) (w : World) (t : TypeId) (cs : Array Value) : Bool :=
  match P.cellTypes P.depth t with
  | some ts => pairsB P w ts cs.toList
  | none => false
theorem row_of_pairs {P : Program} {w : World} {base : Nat} {t : TypeId} {cs : Array Value} (h : rowPairsB P w t cs = true) : Row.ok P w .any base t cs := by
  unfold rowPairsB at h
  split at h
  · rename_i ts hts
    obtain ⟨h1, h2⟩ := pairs_get h
    have hl : cs.size = ts.length := by simpa using h1
    refine ⟨ts, hts, ⟨1, by omega⟩, fun i v hv => ?_⟩
    have hi : i < cs.size := (Array.getElem?_eq_some_iff.1 hv).1
    obtain ⟨u, hu, hk⟩ := h2 i v (by rw [Array.getElem?_toList]; exact hv)
    exact ⟨u, by rw [Nat.mod_eq_of_lt (by omega)]; exact hu, Cell.ok_of_okRefB hk⟩
  · cases h
noncomputable def varB (P : Program) (w : World) (g : Nat) : Bool :=
  match ((begin P (fun _ _ => 0) default).world.heap[g]?).bind Obj.row? with
  | none => true
  | some (zero, t) =>
    match w.heap[g]? with
    | some (.cells cs t' (0, 0)) => decide (t' = t) && cs.size == zero.size && (!P.buildable t || rowPairsB P w t cs)
    | _ => false
theorem shaped_of_vars {P : Program} {w : World} (hv : (List.range P.globals.size).all (varB P w) = true)
    (hr : (w.heap.toList.drop P.globals.size).take ((begin P (fun _ _ => 0) default).world.heap.size - P.globals.size) =
      (begin P (fun _ _ => 0) default).world.heap.toList.drop P.globals.size) : w.Shaped P := by
  refine ⟨fun g zero t hg hz => ?_, fun k h1 h2 => ?_⟩
  case refine_2 =>
    have := congrArg (·[k - P.globals.size]?) hr
    simp only [List.getElem?_take, List.getElem?_drop, Array.getElem?_toList] at this
    rw [if_pos (by omega), Nat.add_sub_cancel' h1] at this
    exact this
  have := List.all_eq_true.1 hv g (List.mem_range.2 hg)
  unfold varB at this
  rw [hz] at this
  simp only at this
  split at this
  · rename_i cs t' hw
    simp only [Bool.and_eq_true, decide_eq_true_eq, beq_iff_eq, Bool.or_eq_true, Bool.not_eq_true'] at this
    obtain ⟨⟨rfl, hs⟩, hb⟩ := this
    refine ⟨cs, hw, hs, fun hbuild => ?_⟩
    rcases hb with hb | hb
    · rw [hbuild] at hb; cases hb
    · exact row_of_pairs hb
  · cases this
theorem laid_vars (os : Os) (args : Array Value) : (List.range Tryd.prog.globals.size).all (varB Tryd.prog ((laidWorld os).forCall (fun _ _ => 0) ⟨#[], args, []⟩)) = true := by kernel_rfl
theorem laid_rest (os : Os) (args : Array Value) : (((laidWorld os).forCall (fun _ _ => 0) ⟨#[], args, []⟩).heap.toList.drop Tryd.prog.globals.size).take ((begin Tryd.prog (fun _ _ => 0) default).world.heap.size - Tryd.prog.globals.size) =
      (begin Tryd.prog (fun _ _ => 0) default).world.heap.toList.drop Tryd.prog.globals.size := by kernel_rfl
theorem laid_shaped (os : Os) (args : Array Value) : ((laidWorld os).forCall (fun _ _ => 0) ⟨#[], args, []⟩).Shaped Tryd.prog := shaped_of_vars (laid_vars os args) (laid_rest os args)
/-- There is an input that fits, at the world in which the tables are laid. -/
theorem witness_laid {H : Type} {enc : TypeId × Value → H} {os : Os} {f : FuncId} {fn : Func} {s : OpenSpec} {conds : List PathCond} {apart : Bool} {laid : List (String × DataW Unit)} (modest : Bool) (args : Array Value)
    (hok : Input.okWideB Tryd.prog ((laidWorld os).forCall (fun _ _ => 0) ⟨#[], args, []⟩) f ⟨#[], args, []⟩ = true)
    (hrow : s.preRow enc Tryd.prog fn conds apart laid ((laidWorld os).forCall (fun _ _ => 0) ⟨#[], args, []⟩).memory args) :
    ∃ (w : World) (tape : Tape) (i : Input), w.os = os ∧ (w.forCall tape i).Shaped Tryd.prog ∧ i.vars = [] ∧ Input.okWide Tryd.prog (w.forCall tape i) .any w.heap.size f i ∧
      s.preRow enc Tryd.prog fn conds apart laid (w.forCall tape i).memory i.args ∧ ({ modest := modest } : Assume).holds Tryd.prog (lone (Frame.enter Tryd.prog f i.args .normal) [] (w.forCall tape i)) :=
  ⟨laidWorld os, fun _ _ => 0, ⟨#[], args, []⟩, rfl, laid_shaped os args, (Input.okWide_of_okWideB (base := 0) hok).1, (Input.okWide_of_okWideB hok).2, hrow, by
    simp only [Assume.holds]
    exact ⟨by simp, by simp, fun _ => Modest.zero, by simp, by simp⟩⟩
#print axioms witness_laid
#print axioms laid_metA
#print axioms laid_metB
end Go.Proofs.YtiokbpknaldbaaaDoor
