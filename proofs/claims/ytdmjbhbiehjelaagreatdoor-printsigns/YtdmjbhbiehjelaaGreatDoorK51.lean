/- The tables, as the card lays them. -/
import Derived.Test.YtdmjbhbiehjelaaGreatDoorCards
import Derived.Test.YtdmjbhbiehjelaaGreatDoorTie
import Derived.Test.YtdmjbhbiehjelaaGreatDoorK48
import Derived.Lib.LaidCaseMet
import Derived.Deep.DeepHandedRow
import Derived.Lib.LaidTab
import Derived.Lib.LaidU8T
import Derived.SevenTiedAt
import Derived.JoinedCond
import Derived.ProofKit
import Derived.OpenShut
import Derived.SizedLaws
import Derived.ChangeOld
import Derived.ChangeMaps5
namespace Go.Proofs.YtdmjbhbiehjelaaGreatDoor
open Go.ChangeShapes Go.WideShapes Go.ChangeAt Go.RowKit Go.Shelf

theorem own : ownKnob Tryz.prog.godebug = none := by kernel_rfl
theorem laidOut : laidOutB Tryz.prog = true := by kernel_rfl
theorem var_lt {P : Program} {w : World} {n : String} {g : Nat} {cs : Array Value} (hg : P.globalNamed n = some g) (h : w.var? P n = some cs) : g < w.heap.size := by
  unfold World.var? at h
  rw [hg] at h
  simp only [Option.bind_some] at h
  split at h
  · rename_i hb
    exact lt_of_block hb
  · cases h
theorem utab_of {w : World} (h : Go.Lib.VarReads Tryz.prog w "internal/strconv.uint64pow10" Rows.laid_internal_strconv_uint64pow10) : UTab w := by
  obtain ⟨g, t, cs, fuel, p, hg, hty, hvar, hd⟩ := h
  obtain rfl := Option.some.inj ((show Tryz.prog.globalNamed "internal/strconv.uint64pow10" = some 9 by kernel_rfl).symm.trans hg)
  obtain rfl := Option.some.inj ((show (Tryz.prog.globals[9]?).map (·.type) = some 203 by kernel_rfl).symm.trans hty)
  rw [show (Rows.laid_internal_strconv_uint64pow10 : DataW Unit) = Go.Lib.tabData .u64 Lib.pow10Tab by kernel_rfl] at hd
  have hcs := Go.Lib.cells_of_tab (k := .u64) (zs := Lib.pow10Tab) (show Tryz.prog.underlying 203 = some (.array 20 133) by kernel_rfl) Tryz.underlying133 (by kernel_rfl) (by kernel_rfl) hd
  refine ⟨var_lt hg hvar, ?_⟩
  unfold Lib.TabIs
  rw [hvar, ← hcs]
theorem ptab_of {w : World} (h : Go.Lib.VarReads Tryz.prog w "internal/strconv.pow10Tab" Rows.laid_internal_strconv_pow10Tab) : PTab w := by
  obtain ⟨g, t, cs, fuel, p, hg, hty, hvar, hd⟩ := h
  obtain rfl := Option.some.inj ((show Tryz.prog.globalNamed "internal/strconv.pow10Tab" = some 13 by kernel_rfl).symm.trans hg)
  obtain rfl := Option.some.inj ((show (Tryz.prog.globals[13]?).map (·.type) = some 239 by kernel_rfl).symm.trans hty)
  refine ⟨var_lt hg hvar, fun i hi => ?_⟩
  obtain ⟨fuel', d, q, hdi, he⟩ := Go.Lib.array_elem (show Tryz.prog.underlying 239 = some (.array 696 238) by kernel_rfl) hd i hi
  have hl : i < Pinned.pow10Rows.length := by rw [rows_len]; exact hi
  simp only [List.getElem?_map, List.getElem?_eq_getElem hl, Option.map_some, Option.some.injEq] at hdi
  subst hdi
  have c2 : Tryz.prog.cellsOf 238 = 2 := by kernel_rfl
  rw [c2] at he
  have hgd : Pinned.pow10Rows.getD i (0, 0) = Pinned.pow10Rows[i] := by simp [List.getD, hl]
  have hcs := Go.Lib.ints_of_struct (k := .u64) (zs := [((Pinned.pow10Rows[i].1 : Nat) : Int), ((Pinned.pow10Rows[i].2 : Nat) : Int)]) Tryz.underlying238 (fun j f hj => by
      match j, hj with
      | 0, hj => simp at hj; subst hj; exact ⟨Tryz.underlying133, rfl, by kernel_rfl⟩
      | 1, hj => simp at hj; subst hj; exact ⟨Tryz.underlying133, rfl, by kernel_rfl⟩
      | j + 2, hj => simp at hj) (by rw [c2]; rfl) he
  have e0 := congrArg (·[0]?) hcs
  have e1 := congrArg (·[1]?) hcs
  simp only [List.getElem?_take, List.getElem?_drop] at e0 e1
  rw [hgd]
  constructor
  · rw [World.var?_cell hg hvar (i * 2), ← Array.getElem?_toList]
    simpa using e0
  · rw [World.var?_cell hg hvar (i * 2 + 1), ← Array.getElem?_toList]
    simpa using e1
theorem trod_float {H : Type} {enc : TypeId × Value → H} {P : Program} {w : World} {base : Nat} {spare : Nat → Bool} {held : Bool} {fuel : Nat} {t : TypeId} {cs : List Value} {x : DataW H × List MemPlace} {k : FloatKind} (ht : P.underlying t = some (.float k)) (h : DataW.trod enc P w base spare held fuel t cs = some x) : ∃ n, cs = [.float k n] ∧ x = (.lit (.float k n), []) ∧ (Lit.float k n).wf = true := by
  cases fuel with
  | zero => simp [DataW.trod] at h
  | succ n =>
    unfold DataW.trod at h
    rw [ht] at h
    split at h <;> simp_all
theorem etab_of {w : World} (h : Go.Lib.VarReads Tryz.prog w "gridiron/value.errTexts" Rows.laid_gridiron_value_errTexts) : EvTab w := by
  obtain ⟨g, t, cs, fuel, p, hg, hty, hvar, hd⟩ := h
  obtain rfl := Option.some.inj ((show Tryz.prog.globalNamed "gridiron/value.errTexts" = some 1 by kernel_rfl).symm.trans hg)
  obtain rfl := Option.some.inj ((show (Tryz.prog.globals[1]?).map (·.type) = some 95 by kernel_rfl).symm.trans hty)
  refine ⟨var_lt hg hvar, fun i hi => ?_⟩
  rw [show (Rows.laid_gridiron_value_errTexts : DataW Unit) = .agg (errL.map fun t => .lit (.string t.data.toList)) by kernel_rfl] at hd
  obtain ⟨fuel', d, q, hdi, he⟩ := Go.Lib.array_elem (show Tryz.prog.underlying 95 = some (.array 9 9) by kernel_rfl) hd i hi
  have hl : i < errL.length := hi
  simp only [List.getElem?_map, List.getElem?_eq_getElem hl, Option.map_some, Option.some.injEq] at hdi
  subst hdi
  have c1 : Tryz.prog.cellsOf 9 = 1 := by kernel_rfl
  rw [c1] at he
  obtain ⟨b, hb, hx, _⟩ := DataW.trod_string Tryz.underlying9 he
  have hx' := congrArg Prod.fst hx
  simp only [DataW.lit.injEq, Lit.string.injEq] at hx'
  have hbe : b = errL[i] := by
    have := Array.toList_inj.1 hx'
    cases b
    cases h2 : errL[i]
    rw [h2] at this
    simp at this
    rw [this]
  have e0 := congrArg (·[0]?) hb
  simp only [List.getElem?_take, List.getElem?_drop] at e0
  rw [World.var?_cell hg hvar i, ← Array.getElem?_toList]
  rw [show errL.getD i ⟨#[]⟩ = errL[i] by simp [List.getD, hl], ← hbe]
  simpa using e0
/-- A struct of a number, a text, a number, read. -/
theorem trod_iti {w : World} {fuel : Nat} {v0 v1 v2 : Value} {a c : Int} {s : List UInt8} {q : List MemPlace} (h : DataW.trod (fun _ => ()) Tryz.prog w 0 (fun _ => true) false fuel 110 [v0, v1, v2] = some (.agg [.lit (.int .i64 a), .lit (.string s), .lit (.int .i64 c)], q)) : v0 = .int .i64 a ∧ v1 = .string ⟨s.toArray⟩ ∧ v2 = .int .i64 c := by
  have c1 : Tryz.prog.cellsOf 3 = 1 := by kernel_rfl
  have c3 : Tryz.prog.cellsOf 9 = 1 := by kernel_rfl
  obtain ⟨xs, k, _, hxy, _, hxl, hf⟩ := DataW.trod_struct Tryz.underlying110 h
  match xs, hxl with
  | [y0, y1, y2], _ =>
    have g0 := hf 0 _ rfl
    have g1 := hf 1 _ rfl
    have g2 := hf 2 _ rfl
    simp [c1, c3] at g0 g1 g2
    obtain ⟨n0, e0, rfl, _⟩ := DataW.trod_int Tryz.underlying3 g0
    obtain ⟨n1, e1, rfl, _⟩ := DataW.trod_string Tryz.underlying9 g1
    obtain ⟨n2, e2, rfl, _⟩ := DataW.trod_int Tryz.underlying3 g2
    simp only [List.cons.injEq, and_true] at e0 e1 e2
    have hx' := congrArg Prod.fst hxy
    simp at hx'
    obtain ⟨rfl, hs, rfl⟩ := hx'
    refine ⟨e0, ?_, e2⟩
    rw [e1, hs]
theorem trod_ti {w : World} {fuel : Nat} {v1 v2 : Value} {c : Int} {s : List UInt8} {q : List MemPlace} (h : DataW.trod (fun _ => ()) Tryz.prog w 0 (fun _ => true) false fuel 44 [v1, v2] = some (.agg [.lit (.string s), .lit (.int .i64 c)], q)) : v1 = .string ⟨s.toArray⟩ ∧ v2 = .int .i64 c := by
  have c1 : Tryz.prog.cellsOf 3 = 1 := by kernel_rfl
  have c3 : Tryz.prog.cellsOf 9 = 1 := by kernel_rfl
  obtain ⟨xs, k, _, hxy, _, hxl, hf⟩ := DataW.trod_struct Tryz.underlying44 h
  match xs, hxl with
  | [y1, y2], _ =>
    have g1 := hf 0 _ rfl
    have g2 := hf 1 _ rfl
    simp [c1, c3] at g1 g2
    obtain ⟨n1, e1, rfl, _⟩ := DataW.trod_string Tryz.underlying9 g1
    obtain ⟨n2, e2, rfl, _⟩ := DataW.trod_int Tryz.underlying3 g2
    simp only [List.cons.injEq, and_true] at e1 e2
    have hx' := congrArg Prod.fst hxy
    simp at hx'
    obtain ⟨hs, rfl⟩ := hx'
    refine ⟨?_, e2⟩
    rw [e1, hs]
theorem take3 (l : List Value) (n : Nat) (h : n + 3 ≤ l.length) : ∃ a b c, (l.drop n).take 3 = [a, b, c] ∧ l[n]? = some a ∧ l[n + 1]? = some b ∧ l[n + 2]? = some c := by
  refine ⟨l[n], l[n + 1], l[n + 2], ?_, List.getElem?_eq_getElem _, List.getElem?_eq_getElem _, List.getElem?_eq_getElem _⟩
  apply List.ext_getElem?
  intro i
  match i with
  | 0 => simp [List.getElem?_drop]
  | 1 => simp [List.getElem?_drop]
  | 2 => simp [List.getElem?_drop]
  | i + 3 => rw [List.getElem?_take, if_neg (by omega)]; simp
theorem take2 (l : List Value) (n : Nat) (h : n + 2 ≤ l.length) : ∃ a b, (l.drop n).take 2 = [a, b] ∧ l[n]? = some a ∧ l[n + 1]? = some b := by
  refine ⟨l[n], l[n + 1], ?_, List.getElem?_eq_getElem _, List.getElem?_eq_getElem _⟩
  apply List.ext_getElem?
  intro i
  match i with
  | 0 => simp [List.getElem?_drop]
  | 1 => simp [List.getElem?_drop]
  | i + 2 => rw [List.getElem?_take, if_neg (by omega)]; simp
def opsLit : Array Value := #[.int .i64 1, .string ⟨#[61]⟩, .int .i64 18, .int .i64 1, .string ⟨#[60, 62]⟩, .int .i64 19, .int .i64 1, .string ⟨#[60]⟩, .int .i64 20, .int .i64 1, .string ⟨#[60, 61]⟩, .int .i64 21, .int .i64 1, .string ⟨#[62]⟩, .int .i64 22, .int .i64 1, .string ⟨#[62, 61]⟩, .int .i64 23, .int .i64 2, .string ⟨#[38]⟩, .int .i64 17, .int .i64 3, .string ⟨#[43]⟩, .int .i64 15, .int .i64 3, .string ⟨#[45]⟩, .int .i64 16, .int .i64 4, .string ⟨#[42]⟩, .int .i64 13, .int .i64 4, .string ⟨#[47]⟩, .int .i64 14, .int .i64 5, .string ⟨#[94]⟩, .int .i64 12, .int .i64 8, .string ⟨#[126]⟩, .int .i64 24, .int .i64 9, .string ⟨#[33]⟩, .int .i64 25]
def rvO (k : Nat) : Value := if k % 3 = 0 then .int .i64 (oLn (k / 3) : Int) else if k % 3 = 1 then .string (oSg (k / 3)) else .int .i64 (oOp (k / 3))
theorem ops_at (k : Nat) (h : k < 42) : opsLit[k]? = some (rvO k) := by
  obtain rfl | rfl | rfl | rfl | rfl | rfl | rfl | rfl | rfl | rfl | rfl | rfl | rfl | rfl | rfl | rfl | rfl | rfl | rfl | rfl | rfl | rfl | rfl | rfl | rfl | rfl | rfl | rfl | rfl | rfl | rfl | rfl | rfl | rfl | rfl | rfl | rfl | rfl | rfl | rfl | rfl | rfl : k = 0 ∨ k = 1 ∨ k = 2 ∨ k = 3 ∨ k = 4 ∨ k = 5 ∨ k = 6 ∨ k = 7 ∨ k = 8 ∨ k = 9 ∨ k = 10 ∨ k = 11 ∨ k = 12 ∨ k = 13 ∨ k = 14 ∨ k = 15 ∨ k = 16 ∨ k = 17 ∨ k = 18 ∨ k = 19 ∨ k = 20 ∨ k = 21 ∨ k = 22 ∨ k = 23 ∨ k = 24 ∨ k = 25 ∨ k = 26 ∨ k = 27 ∨ k = 28 ∨ k = 29 ∨ k = 30 ∨ k = 31 ∨ k = 32 ∨ k = 33 ∨ k = 34 ∨ k = 35 ∨ k = 36 ∨ k = 37 ∨ k = 38 ∨ k = 39 ∨ k = 40 ∨ k = 41 := by omega
  all_goals rfl
theorem ops_row (i : Nat) (hi : i < 14) : (oprL[i]?) = some (oLn i, oSg i, oOp i) := by
  obtain rfl | rfl | rfl | rfl | rfl | rfl | rfl | rfl | rfl | rfl | rfl | rfl | rfl | rfl : i = 0 ∨ i = 1 ∨ i = 2 ∨ i = 3 ∨ i = 4 ∨ i = 5 ∨ i = 6 ∨ i = 7 ∨ i = 8 ∨ i = 9 ∨ i = 10 ∨ i = 11 ∨ i = 12 ∨ i = 13 := by omega
  all_goals rfl
set_option maxRecDepth 100000 in
theorem optab_of {w : World} (h : Go.Lib.VarReads Tryz.prog w "gridiron/syntax.operators" Rows.laid_gridiron_syntax_operators) (hO : w.ShapedOpen Tryz.prog) : OpT w := by
  obtain ⟨cs0, hb, hsz, _⟩ := hO.1 2 #[.int .i64 0, .string ⟨#[]⟩, .int .i64 0, .int .i64 0, .string ⟨#[]⟩, .int .i64 0, .int .i64 0, .string ⟨#[]⟩, .int .i64 0, .int .i64 0, .string ⟨#[]⟩, .int .i64 0, .int .i64 0, .string ⟨#[]⟩, .int .i64 0, .int .i64 0, .string ⟨#[]⟩, .int .i64 0, .int .i64 0, .string ⟨#[]⟩, .int .i64 0, .int .i64 0, .string ⟨#[]⟩, .int .i64 0, .int .i64 0, .string ⟨#[]⟩, .int .i64 0, .int .i64 0, .string ⟨#[]⟩, .int .i64 0, .int .i64 0, .string ⟨#[]⟩, .int .i64 0, .int .i64 0, .string ⟨#[]⟩, .int .i64 0, .int .i64 0, .string ⟨#[]⟩, .int .i64 0, .int .i64 0, .string ⟨#[]⟩, .int .i64 0] 111 (by rw [show Tryz.prog.globals.size = 17 by kernel_rfl]; decide) (by kernel_rfl)
  have hsz : cs0.size = 42 := hsz
  obtain ⟨g, t, cs, fuel, p, hg, hty, hvar, hd⟩ := h
  obtain rfl := Option.some.inj ((show Tryz.prog.globalNamed "gridiron/syntax.operators" = some 2 by kernel_rfl).symm.trans hg)
  obtain rfl := Option.some.inj ((show (Tryz.prog.globals[2]?).map (·.type) = some 111 by kernel_rfl).symm.trans hty)
  rw [show (Rows.laid_gridiron_syntax_operators : DataW Unit) = .agg (oprL.map fun x => .agg [.lit (.int .i64 (x.1 : Int)), .lit (.string x.2.1.data.toList), .lit (.int .i64 x.2.2)]) by kernel_rfl] at hd
  have hcs : cs = cs0 := by
    have e := hvar
    unfold World.var? at e
    rw [hg] at e
    simp only [Option.bind_some] at e
    rw [hb] at e
    simpa using e.symm
  subst hcs
  have hc : ∀ i, i < 14 → cs[3 * i]? = some (.int .i64 (oLn i : Int)) ∧ cs[3 * i + 1]? = some (.string (oSg i)) ∧ cs[3 * i + 2]? = some (.int .i64 (oOp i)) := fun i hi => by
    obtain ⟨fuel', d, q, hdi, he⟩ := Go.Lib.array_elem (show Tryz.prog.underlying 111 = some (.array 14 110) by kernel_rfl) hd i hi
    rw [List.getElem?_map, ops_row i hi] at hdi
    simp only [Option.map_some, Option.some.injEq] at hdi
    subst hdi
    have c3 : Tryz.prog.cellsOf 110 = 3 := by kernel_rfl
    rw [c3] at he
    obtain ⟨a, b, c, htk, ga, gb, gc⟩ := take3 cs.toList (i * 3) (by rw [Array.length_toList]; omega)
    rw [htk] at he
    obtain ⟨rfl, rfl, rfl⟩ := trod_iti he
    rw [Array.getElem?_toList] at ga gb gc
    rw [show 3 * i = i * 3 by omega]
    exact ⟨ga, gb, gc⟩
  refine ⟨(0, 0), ?_⟩
  rw [hb]
  congr 2
  show cs = opsLit
  apply Array.ext
  · rw [hsz]; rfl
  · intro k h1 h2
    have hk : k < 42 := by omega
    have e1 := ops_at k hk
    rw [Array.getElem?_eq_getElem h2] at e1
    have e2 : cs[k]? = some (rvO k) := by
      obtain ⟨a0, a1, a2⟩ := hc (k / 3) (by omega)
      unfold rvO
      by_cases m0 : k % 3 = 0
      · rw [if_pos m0, ← a0]
        congr 1
        omega
      · rw [if_neg m0]
        by_cases m1 : k % 3 = 1
        · rw [if_pos m1, ← a1]
          congr 1
          omega
        · rw [if_neg m1, ← a2]
          congr 1
          omega
    rw [Array.getElem?_eq_getElem h1] at e2
    exact Option.some.inj (e2.trans e1.symm)
def prnL : List (ByteArray × Nat) := [(⟨#[]⟩, 0), (⟨#[]⟩, 10), (⟨#[]⟩, 10), (⟨#[]⟩, 10), (⟨#[]⟩, 10), (⟨#[]⟩, 10), (⟨#[]⟩, 10), (⟨#[]⟩, 10), (⟨#[]⟩, 10), (⟨#[43]⟩, 7), (⟨#[45]⟩, 7), (⟨#[37]⟩, 6), (⟨#[94]⟩, 5), (⟨#[42]⟩, 4), (⟨#[47]⟩, 4), (⟨#[43]⟩, 3), (⟨#[45]⟩, 3), (⟨#[38]⟩, 2), (⟨#[61]⟩, 1), (⟨#[60, 62]⟩, 1), (⟨#[60]⟩, 1), (⟨#[60, 61]⟩, 1), (⟨#[62]⟩, 1), (⟨#[62, 61]⟩, 1), (⟨#[126]⟩, 8), (⟨#[33]⟩, 9)]
theorem prn_row (i : Nat) (hi : i < 26) : prnL[i]? = some (sgF i, lnF i) := by
  obtain rfl | rfl | rfl | rfl | rfl | rfl | rfl | rfl | rfl | rfl | rfl | rfl | rfl | rfl | rfl | rfl | rfl | rfl | rfl | rfl | rfl | rfl | rfl | rfl | rfl | rfl : i = 0 ∨ i = 1 ∨ i = 2 ∨ i = 3 ∨ i = 4 ∨ i = 5 ∨ i = 6 ∨ i = 7 ∨ i = 8 ∨ i = 9 ∨ i = 10 ∨ i = 11 ∨ i = 12 ∨ i = 13 ∨ i = 14 ∨ i = 15 ∨ i = 16 ∨ i = 17 ∨ i = 18 ∨ i = 19 ∨ i = 20 ∨ i = 21 ∨ i = 22 ∨ i = 23 ∨ i = 24 ∨ i = 25 := by omega
  all_goals rfl
def prnLit : Array Value := #[.string ⟨#[]⟩, .int .i64 0, .string ⟨#[]⟩, .int .i64 10, .string ⟨#[]⟩, .int .i64 10, .string ⟨#[]⟩, .int .i64 10, .string ⟨#[]⟩, .int .i64 10, .string ⟨#[]⟩, .int .i64 10, .string ⟨#[]⟩, .int .i64 10, .string ⟨#[]⟩, .int .i64 10, .string ⟨#[]⟩, .int .i64 10, .string ⟨#[43]⟩, .int .i64 7, .string ⟨#[45]⟩, .int .i64 7, .string ⟨#[37]⟩, .int .i64 6, .string ⟨#[94]⟩, .int .i64 5, .string ⟨#[42]⟩, .int .i64 4, .string ⟨#[47]⟩, .int .i64 4, .string ⟨#[43]⟩, .int .i64 3, .string ⟨#[45]⟩, .int .i64 3, .string ⟨#[38]⟩, .int .i64 2, .string ⟨#[61]⟩, .int .i64 1, .string ⟨#[60, 62]⟩, .int .i64 1, .string ⟨#[60]⟩, .int .i64 1, .string ⟨#[60, 61]⟩, .int .i64 1, .string ⟨#[62]⟩, .int .i64 1, .string ⟨#[62, 61]⟩, .int .i64 1, .string ⟨#[126]⟩, .int .i64 8, .string ⟨#[33]⟩, .int .i64 9]
def rvP (k : Nat) : Value := if k % 2 = 0 then .string (sgF (k / 2 : Nat)) else .int .i64 (lnF (k / 2 : Nat) : Int)
theorem prn_at (k : Nat) (h : k < 52) : prnLit[k]? = some (rvP k) := by
  obtain rfl | rfl | rfl | rfl | rfl | rfl | rfl | rfl | rfl | rfl | rfl | rfl | rfl | rfl | rfl | rfl | rfl | rfl | rfl | rfl | rfl | rfl | rfl | rfl | rfl | rfl | rfl | rfl | rfl | rfl | rfl | rfl | rfl | rfl | rfl | rfl | rfl | rfl | rfl | rfl | rfl | rfl | rfl | rfl | rfl | rfl | rfl | rfl | rfl | rfl | rfl | rfl : k = 0 ∨ k = 1 ∨ k = 2 ∨ k = 3 ∨ k = 4 ∨ k = 5 ∨ k = 6 ∨ k = 7 ∨ k = 8 ∨ k = 9 ∨ k = 10 ∨ k = 11 ∨ k = 12 ∨ k = 13 ∨ k = 14 ∨ k = 15 ∨ k = 16 ∨ k = 17 ∨ k = 18 ∨ k = 19 ∨ k = 20 ∨ k = 21 ∨ k = 22 ∨ k = 23 ∨ k = 24 ∨ k = 25 ∨ k = 26 ∨ k = 27 ∨ k = 28 ∨ k = 29 ∨ k = 30 ∨ k = 31 ∨ k = 32 ∨ k = 33 ∨ k = 34 ∨ k = 35 ∨ k = 36 ∨ k = 37 ∨ k = 38 ∨ k = 39 ∨ k = 40 ∨ k = 41 ∨ k = 42 ∨ k = 43 ∨ k = 44 ∨ k = 45 ∨ k = 46 ∨ k = 47 ∨ k = 48 ∨ k = 49 ∨ k = 50 ∨ k = 51 := by omega
  all_goals rfl
set_option maxRecDepth 100000 in
theorem prtab_of {w : World} (h : Go.Lib.VarReads Tryz.prog w "gridiron/print.operations" Rows.laid_gridiron_print_operations) (hO : w.ShapedOpen Tryz.prog) : PrT w := by
  obtain ⟨cs0, hb, hsz, _⟩ := hO.1 0 #[.string ⟨#[]⟩, .int .i64 0, .string ⟨#[]⟩, .int .i64 0, .string ⟨#[]⟩, .int .i64 0, .string ⟨#[]⟩, .int .i64 0, .string ⟨#[]⟩, .int .i64 0, .string ⟨#[]⟩, .int .i64 0, .string ⟨#[]⟩, .int .i64 0, .string ⟨#[]⟩, .int .i64 0, .string ⟨#[]⟩, .int .i64 0, .string ⟨#[]⟩, .int .i64 0, .string ⟨#[]⟩, .int .i64 0, .string ⟨#[]⟩, .int .i64 0, .string ⟨#[]⟩, .int .i64 0, .string ⟨#[]⟩, .int .i64 0, .string ⟨#[]⟩, .int .i64 0, .string ⟨#[]⟩, .int .i64 0, .string ⟨#[]⟩, .int .i64 0, .string ⟨#[]⟩, .int .i64 0, .string ⟨#[]⟩, .int .i64 0, .string ⟨#[]⟩, .int .i64 0, .string ⟨#[]⟩, .int .i64 0, .string ⟨#[]⟩, .int .i64 0, .string ⟨#[]⟩, .int .i64 0, .string ⟨#[]⟩, .int .i64 0, .string ⟨#[]⟩, .int .i64 0, .string ⟨#[]⟩, .int .i64 0] 67 (by rw [show Tryz.prog.globals.size = 17 by kernel_rfl]; decide) (by kernel_rfl)
  have hsz : cs0.size = 52 := hsz
  obtain ⟨g, t, cs, fuel, p, hg, hty, hvar, hd⟩ := h
  obtain rfl := Option.some.inj ((show Tryz.prog.globalNamed "gridiron/print.operations" = some 0 by kernel_rfl).symm.trans hg)
  obtain rfl := Option.some.inj ((show (Tryz.prog.globals[0]?).map (·.type) = some 67 by kernel_rfl).symm.trans hty)
  rw [show (Rows.laid_gridiron_print_operations : DataW Unit) = .agg (prnL.map fun x => .agg [.lit (.string x.1.data.toList), .lit (.int .i64 (x.2 : Int))]) by kernel_rfl] at hd
  have hcs : cs = cs0 := by
    have e := hvar
    unfold World.var? at e
    rw [hg] at e
    simp only [Option.bind_some] at e
    rw [hb] at e
    simpa using e.symm
  subst hcs
  have hc : ∀ i, i < 26 → cs[2 * i]? = some (.string (sgF (i : Nat))) ∧ cs[2 * i + 1]? = some (.int .i64 (lnF (i : Nat) : Int)) := fun i hi => by
    obtain ⟨fuel', d, q, hdi, he⟩ := Go.Lib.array_elem (show Tryz.prog.underlying 67 = some (.array 26 44) by kernel_rfl) hd i hi
    rw [List.getElem?_map, prn_row i hi] at hdi
    simp only [Option.map_some, Option.some.injEq] at hdi
    subst hdi
    have c2 : Tryz.prog.cellsOf 44 = 2 := by kernel_rfl
    rw [c2] at he
    obtain ⟨a, b, htk, ga, gb⟩ := take2 cs.toList (i * 2) (by rw [Array.length_toList]; omega)
    rw [htk] at he
    obtain ⟨rfl, rfl⟩ := trod_ti he
    rw [Array.getElem?_toList] at ga gb
    rw [show 2 * i = i * 2 by omega]
    exact ⟨ga, gb⟩
  refine ⟨(0, 0), ?_⟩
  rw [hb]
  congr 2
  show cs = prnLit
  apply Array.ext
  · rw [hsz]; rfl
  · intro k h1 h2
    have hk : k < 52 := by omega
    have e1 := prn_at k hk
    rw [Array.getElem?_eq_getElem h2] at e1
    have e2 : cs[k]? = some (rvP k) := by
      obtain ⟨a0, a1⟩ := hc (k / 2) (by omega)
      unfold rvP
      by_cases m0 : k % 2 = 0
      · rw [if_pos m0, ← a0]
        congr 1
        omega
      · rw [if_neg m0, ← a1]
        congr 1
        omega
    rw [Array.getElem?_eq_getElem h1] at e2
    exact Option.some.inj (e2.trans e1.symm)
theorem u8T : U8Types Tryz.prog Tryz.laysLaysn197_ren := { Tryz.laysLaysn197 with }
theorem u8X : U8Extra Tryz.prog Tryz.laysLaysn197_ren where
  n3 := by kernel_rfl
  y3 := by kernel_rfl
  n4 := by kernel_rfl
  y4 := by kernel_rfl
  c5 := by kernel_rfl
  c119 := by kernel_rfl
  c138 := by kernel_rfl
/-- The rows' variables, in their order. -/
def laidVars : List (String × DataW Unit) := [("math/bits.deBruijn32tab", Rows.laid_math_bits_deBruijn32tab), ("math/bits.deBruijn64tab", Rows.laid_math_bits_deBruijn64tab), ("internal/strconv.optimize", Rows.laid_internal_strconv_optimize), ("internal/strconv.uint64pow10", Rows.laid_internal_strconv_uint64pow10), ("unicode/utf8.acceptRanges", Rows.laid_unicode_utf8_acceptRanges), ("strconv.ErrRange", Rows.laid_strconv_ErrRange), ("strconv.ErrSyntax", Rows.laid_strconv_ErrSyntax), ("gridiron/value.errTexts", Rows.laid_gridiron_value_errTexts), ("gridiron/lexis.signs", Rows.laid_gridiron_lexis_signs), ("gridiron/syntax.operators", Rows.laid_gridiron_syntax_operators), ("gridiron/print.operations", Rows.laid_gridiron_print_operations), ("internal/strconv.leftcheats", Rows.laid_internal_strconv_leftcheats), ("internal/strconv.pow10Tab", Rows.laid_internal_strconv_pow10Tab), ("unicode.CaseRanges", Rows.laid_unicode_CaseRanges), ("unicode/utf8.first", Rows.laid_unicode_utf8_first)]
theorem lt_cellX {w : World} {b o : Nat} {v : Value} (h : w.cell? ⟨b, o, none⟩ = some v) : b < w.heap.size := by
  rcases Nat.lt_or_ge b w.heap.size with h' | h'
  · exact h'
  · simp [World.cell?, Array.getElem?_eq_none h'] at h
theorem xtab_of {w : World} (hO : w.ShapedOpen Tryz.prog) : XTab w := by
  obtain ⟨m, hm⟩ := Tryz.laysLaysMn145.s1_3 w hO
  exact ⟨lt_cellX (show w.cell? ⟨10, 0, none⟩ = some (.int .i64 m) from hm), m, hm⟩
theorem u8_of {w : World} (h : laidMet Tryz.prog laidVars w) : Tabs w :=
  utf8Tabs_of_readsT u8T u8X (Go.Lib.laidMet.reads h (n := "unicode/utf8.first") (d := Go.Lib.firstData) (by
      rw [show Go.Lib.firstData = Rows.laid_unicode_utf8_first by kernel_rfl]
      unfold laidVars
      simp))
    (Go.Lib.laidMet.reads h (n := "unicode/utf8.acceptRanges") (d := Go.Lib.acceptData) (by
      rw [show Go.Lib.acceptData = Rows.laid_unicode_utf8_acceptRanges by kernel_rfl]
      unfold laidVars
      simp))
theorem tabs_of {w : World} (h : laidMet Tryz.prog laidVars w) (hO : w.ShapedOpen Tryz.prog) : PT w where
  n := {
    p := ptab_of (Go.Lib.laidMet.reads h (by unfold laidVars; simp))
    u := utab_of (Go.Lib.laidMet.reads h (by unfold laidVars; simp))
    x := xtab_of hO }
  u := ⟨(utab_of (Go.Lib.laidMet.reads h (by unfold laidVars; simp))).1, (utab_of (Go.Lib.laidMet.reads h (by unfold laidVars; simp))).2⟩
  e := etab_of (Go.Lib.laidMet.reads h (by unfold laidVars; simp))
  x := xtab_of hO
  t := u8_of h
  o := optab_of (Go.Lib.laidMet.reads h (by unfold laidVars; simp)) hO
  p := prtab_of (Go.Lib.laidMet.reads h (by unfold laidVars; simp)) hO
/-- A block with other cells. -/
def putCells (cs : Array Value) : Obj → Obj
  | .cells _ t frozen => .cells cs t frozen
  | o => o
/-- The cells of a datum that is flat: a number, or a struct of such. -/
def flat0 : DataW Unit → List Value
  | .lit (.int k n) => [.int k n]
  | .lit (.bool b) => [.bool b]
  | .lit (.float k n) => [.float k n]
  | .lit (.string bs) => [.string ⟨bs.toArray⟩]
  | _ => []
def flat1 : DataW Unit → List Value
  | .agg l => l.flatMap flat0
  | d => flat0 d
def flatRow : DataW Unit → Array Value
  | .slice l _ => (l.flatMap flat1).toArray
  | .agg l => (l.flatMap flat1).toArray
  | d => (flat0 d).toArray
/-- A world in which the tables read as they are laid. -/
noncomputable def laidWorld (os : Os) : World :=
  let H := World.holding Tryz.prog os ⟨#[], #[], []⟩
  let n := H.heap.size
  { H with
    heap := (((((((((((((((H.heap.modify 15 (putCells (flatRow Rows.laid_math_bits_deBruijn32tab))).modify 16 (putCells (flatRow Rows.laid_math_bits_deBruijn64tab))).modify 6 (putCells (flatRow Rows.laid_internal_strconv_optimize))).modify 9 (putCells (flatRow Rows.laid_internal_strconv_uint64pow10))).modify 5 (putCells (flatRow Rows.laid_unicode_utf8_acceptRanges))).modify 1 (putCells (flatRow Rows.laid_gridiron_value_errTexts))).modify 12 (putCells (flatRow Rows.laid_gridiron_lexis_signs))).modify 2 (putCells (flatRow Rows.laid_gridiron_syntax_operators))).modify 0 (putCells (flatRow Rows.laid_gridiron_print_operations))).modify 13 (putCells (flatRow Rows.laid_internal_strconv_pow10Tab))).modify 4 (putCells (flatRow Rows.laid_unicode_utf8_first))).modify 8 (putCells #[.iface 227 (.pointer (some ⟨n, 0, none⟩))])).modify 7 (putCells #[.iface 227 (.pointer (some ⟨n + 1, 0, none⟩))])).modify 14 (putCells #[.slice (some ⟨n + 2, 0, none⟩) 61 61])).modify 11 (putCells #[.slice (some ⟨n + 3, 0, none⟩) 336 336]))
      ++ #[.cells #[.string ⟨#[118, 97, 108, 117, 101, 32, 111, 117, 116, 32, 111, 102, 32, 114, 97, 110, 103, 101]⟩] 229 (0, 0), .cells #[.string ⟨#[105, 110, 118, 97, 108, 105, 100, 32, 115, 121, 110, 116, 97, 120]⟩] 229 (0, 0), .cells (flatRow Rows.laid_internal_strconv_leftcheats) 243 (0, 0), .cells Go.Lib.caseCells5 253 (0, 0)] }
/-- The places of the tables: of each block so many. -/
def segs1 : List (Nat × Nat) := [(15, 32), (16, 64), (6, 1), (9, 20), (5, 32), (8, 1), (22, 1), (7, 1), (23, 1), (1, 9), (12, 21), (2, 42), (0, 52), (14, 1), (24, 122), (13, 1392)]
def segs2 : List (Nat × Nat) := [(4, 256)]
def segs : List (Nat × Nat) := segs1 ++ ([(11, 1), (25, 1680)] ++ segs2)
def placesOf (l : List (Nat × Nat)) : List MemPlace := l.flatMap fun x => (List.range x.2).map (MemPlace.cell x.1)
theorem places_block {l : List (Nat × Nat)} {p : MemPlace} (h : p ∈ placesOf l) : ∃ b o, p = .cell b o ∧ b ∈ l.map (·.1) := by
  unfold placesOf at h
  obtain ⟨x, hx, hp⟩ := List.mem_flatMap.1 h
  obtain ⟨o, _, rfl⟩ := List.mem_map.1 hp
  exact ⟨x.1, o, rfl, List.mem_map.2 ⟨x, hx, rfl⟩⟩
theorem places_nodup : ∀ l : List (Nat × Nat), (l.map (·.1)).Nodup → (placesOf l).Nodup
  | [], _ => List.nodup_nil
  | x :: l, h => by
    rw [List.map_cons, List.nodup_cons] at h
    show ((List.range x.2).map (MemPlace.cell x.1) ++ placesOf l).Nodup
    rw [List.nodup_append]
    refine ⟨?_, places_nodup l h.2, fun a ha b hb e => ?_⟩
    · rw [List.nodup_iff_pairwise_ne, List.pairwise_map]
      refine List.Pairwise.imp ?_ (List.nodup_iff_pairwise_ne.1 List.nodup_range)
      intro a b hab e
      injection e with _ e2
      exact hab e2
    · obtain ⟨o, _, rfl⟩ := List.mem_map.1 ha
      obtain ⟨b', o', rfl, hb'⟩ := places_block hb
      injection e with e1 _
      rw [← e1] at hb'
      exact h.1 hb'
def laidV1 : List (String × DataW Unit) := [("math/bits.deBruijn32tab", Rows.laid_math_bits_deBruijn32tab), ("math/bits.deBruijn64tab", Rows.laid_math_bits_deBruijn64tab), ("internal/strconv.optimize", Rows.laid_internal_strconv_optimize), ("internal/strconv.uint64pow10", Rows.laid_internal_strconv_uint64pow10), ("unicode/utf8.acceptRanges", Rows.laid_unicode_utf8_acceptRanges), ("strconv.ErrRange", Rows.laid_strconv_ErrRange), ("strconv.ErrSyntax", Rows.laid_strconv_ErrSyntax), ("gridiron/value.errTexts", Rows.laid_gridiron_value_errTexts), ("gridiron/lexis.signs", Rows.laid_gridiron_lexis_signs), ("gridiron/syntax.operators", Rows.laid_gridiron_syntax_operators), ("gridiron/print.operations", Rows.laid_gridiron_print_operations), ("internal/strconv.leftcheats", Rows.laid_internal_strconv_leftcheats), ("internal/strconv.pow10Tab", Rows.laid_internal_strconv_pow10Tab)]
def laidV2 : List (String × DataW Unit) := [("unicode/utf8.first", Rows.laid_unicode_utf8_first)]
theorem laid_run1 (os : Os) (args : Array Value) : DataW.laidRun Tryz.prog ((laidWorld os).forCall (fun _ _ => 0) ⟨#[], args, []⟩).memory 2000 (laidV1.map (·.1)) = some (laidV1, placesOf segs1) := by kernel_rfl
theorem laid_run2 (os : Os) (args : Array Value) : DataW.laidRun Tryz.prog ((laidWorld os).forCall (fun _ _ => 0) ⟨#[], args, []⟩).memory 2000 (laidV2.map (·.1)) = some (laidV2, placesOf segs2) := by kernel_rfl
set_option maxRecDepth 1000000 in
theorem case_row_reads {w : World} (x : Go.Lib.CaseRow) (hw : Go.Lib.rowWf x = true) (fuel : Nat) :
    DataW.trod (fun _ => ()) Tryz.prog w 0 (fun _ => true) false (fuel + 3) 253 (Go.Lib.cells5 x) = some (Go.Lib.rowData x, []) := by
  simp only [Go.Lib.rowWf, Bool.and_eq_true] at hw
  obtain ⟨⟨⟨⟨w0, w1⟩, w2⟩, w3⟩, w4⟩ := hw
  have r3 : List.range 3 = [0, 1, 2] := rfl
  have k1 : Tryz.prog.cellsOf 176 = 1 := by kernel_rfl
  have k2 : Tryz.prog.cellsOf 21 = 1 := by kernel_rfl
  have k3 : Tryz.prog.cellsOf 251 = 3 := by kernel_rfl
  have k5 : Tryz.prog.cellsOf 253 = 5 := by kernel_rfl
  simp [DataW.trod, Tryz.underlying253, Tryz.underlying176, Tryz.underlying21, Tryz.underlying251, k1, k2, k3, k5, Go.Lib.cells5, Go.Lib.rowData, w0, w1, w2, w3, w4, r3]
set_option maxRecDepth 1000000 in
theorem case_reads {w : World} {R oR : Nat} {T : Array Go.Lib.CaseRow} (hT : Go.Lib.CaseTab R oR T w) (hwf : ∀ i, i < T.size → Go.Lib.rowWf (T.getD i (0, 0, 0, 0, 0)) = true) (hn : T.size ≤ maxLen) (fuel : Nat) :
    DataW.trod (fun _ => ()) Tryz.prog w 0 (fun _ => true) false (fuel + 4) 234 [.slice (some ⟨R, oR, none⟩) T.size T.size] =
      some (.slice ((List.range T.size).map fun i => Go.Lib.rowData (T.getD i (0, 0, 0, 0, 0))) [], MemPlace.row ⟨R, oR, none⟩ (T.size * 5)) := by
  have k5 : Tryz.prog.cellsOf 253 = 5 := by kernel_rfl
  have helem : ∀ i ∈ List.range T.size, (w.cells? 0 ((⟨R, oR, none⟩ : Addr).add (i * 5)) 5).bind (DataW.trod (fun _ => ()) Tryz.prog w 0 (fun _ => true) false (fuel + 3) 253) = some ((fun i => ((Go.Lib.rowData (T.getD i (0, 0, 0, 0, 0)) : DataW Unit), ([] : List MemPlace))) i) := by
    intro i hi
    have hi' := List.mem_range.1 hi
    rw [case_cells5 hT i hi']
    exact case_row_reads _ (hwf i hi') fuel
  show DataW.trod _ _ _ _ _ _ ((fuel + 3) + 1) _ _ = _
  unfold DataW.trod
  simp only [Tryz.underlying234, k5]
  rw [if_pos ⟨Nat.zero_le _, Nat.le_refl _, hn⟩, Go.Lib.mapM_some _ _ _ helem]
  simp [Function.comp_def]
set_option maxRecDepth 1000000 in
theorem case_name : Tryz.prog.globalNamed "unicode.CaseRanges" = some 11 := by kernel_rfl
set_option maxRecDepth 1000000 in
theorem case_data : (Rows.laid_unicode_CaseRanges : DataW Unit) = Go.Lib.caseData := by kernel_rfl
set_option maxRecDepth 1000000 in
theorem case_laid {w : World} (hvar : w.heap[11]? = some (.cells #[.slice (some ⟨25, 0, none⟩) 336 336] 234 (0, 0))) (hblk : w.heap[25]? = some (.cells Go.Lib.caseCells5 253 (0, 0))) :
    DataW.LaidVars Tryz.prog w [("unicode.CaseRanges", Rows.laid_unicode_CaseRanges)] (placesOf [(11, 1), (25, 1680)]) := by
  have hT := caseTab_of_block hblk
  have hread := case_reads hT caseA_wf (by rw [Go.Lib.caseA_size]; unfold maxLen; omega) 0
  rw [case_rows_data, Go.Lib.caseA_size] at hread
  have hv : w.var? Tryz.prog "unicode.CaseRanges" = some #[.slice (some ⟨25, 0, none⟩) 336 336] := by simp [World.var?, case_name, hvar]
  rw [case_data]
  refine ⟨11, 234, _, _, _, [], case_name, by kernel_rfl, hv, hread, rfl, ?_⟩
  simp [placesOf, MemPlace.row]
/-- A block's cells can be read, and what interfaces lie there are whole. -/
noncomputable def blockOk (w : World) (b : Nat) : Bool :=
  match w.heap[b]? with
  | some (.cells c _ (0, 0)) => c.toList.all fun v => match v with
    | .iface u v => Value.okWideB Tryz.prog w u v
    | _ => true
  | _ => false
set_option maxRecDepth 100000 in
theorem met_of {w : World} (h1 : DataW.LaidVars Tryz.prog w laidVars (placesOf segs)) (h2 : (segs.map (·.1)).all (blockOk w) = true) : laidMet Tryz.prog laidVars w := by
  refine ⟨_, h1, places_nodup segs (by decide), fun b off hp => ?_⟩
  obtain ⟨b', o', e, hb⟩ := places_block hp
  injection e with e1 e2
  subst e1 e2
  have hk := List.all_eq_true.1 h2 _ hb
  unfold blockOk at hk
  split at hk
  · rename_i c t hh
    refine ⟨⟨c, t, hh⟩, fun u v hc => ?_⟩
    have hcell : c[off]? = some (.iface u v) := by
      unfold World.cell? at hc
      rw [hh] at hc
      simpa using hc
    have hq : Value.okWideB Tryz.prog w u v = true := List.all_eq_true.1 hk (.iface u v) (List.mem_of_getElem? (by rw [Array.getElem?_toList]; exact hcell))
    exact Value.okWide_of_okWideB (P := Tryz.prog) (w := w) hq
  · cases hk
theorem case_ints : Go.Lib.caseCells5.toList.all (fun v => match v with
    | .iface _ _ => false
    | _ => true) = true := by
  unfold Go.Lib.caseCells5
  rw [List.toList_toArray, List.all_eq_true]
  intro v hv
  obtain ⟨x, _, hx⟩ := List.mem_flatMap.1 hv
  simp [Go.Lib.cells5] at hx
  rcases hx with rfl | rfl | rfl | rfl | rfl <;> rfl
theorem case_block (os : Os) (args : Array Value) : ((laidWorld os).forCall (fun _ _ => 0) ⟨#[], args, []⟩).memory.heap[25]? = some (.cells Go.Lib.caseCells5 253 (0, 0)) := by kernel_rfl
theorem case_var (os : Os) (args : Array Value) : ((laidWorld os).forCall (fun _ _ => 0) ⟨#[], args, []⟩).memory.heap[11]? = some (.cells #[.slice (some ⟨25, 0, none⟩) 336 336] 234 (0, 0)) := by kernel_rfl
theorem blocks_rest (os : Os) (args : Array Value) : ((segs1 ++ (11, 1) :: segs2).map (·.1)).all (blockOk ((laidWorld os).forCall (fun _ _ => 0) ⟨#[], args, []⟩).memory) = true := by kernel_rfl
theorem laid_rows0 (os : Os) (args : Array Value) : (segs.map (·.1)).all (blockOk ((laidWorld os).forCall (fun _ _ => 0) ⟨#[], args, []⟩).memory) = true := by
  have h := blocks_rest os args
  have hc : blockOk ((laidWorld os).forCall (fun _ _ => 0) ⟨#[], args, []⟩).memory 25 = true := by
    unfold blockOk
    rw [case_block os args]
    simp only
    refine List.all_eq_true.2 fun v hv => ?_
    have := List.all_eq_true.1 case_ints v hv
    split
    · simp at this
    · rfl
  unfold segs
  simp only [List.map_append, List.all_append, List.map_cons, List.map_nil, List.all_cons, List.all_nil, Bool.and_true, Bool.and_eq_true] at h ⊢
  exact ⟨h.1, ⟨h.2.1, hc⟩, h.2.2⟩
theorem laid_all (os : Os) (args : Array Value) : DataW.LaidVars Tryz.prog ((laidWorld os).forCall (fun _ _ => 0) ⟨#[], args, []⟩).memory laidVars (placesOf segs) := by
  have h := LaidVars_append (DataW.LaidVars_of_laidRun (laid_run1 os args)) (LaidVars_append (case_laid (case_var os args) (case_block os args)) (DataW.LaidVars_of_laidRun (laid_run2 os args)))
  have e : placesOf segs = placesOf segs1 ++ (placesOf [(11, 1), (25, 1680)] ++ placesOf segs2) := by
    unfold segs placesOf
    rw [List.flatMap_append, List.flatMap_append]
  rw [e]
  exact h
theorem laid_met0 (os : Os) (args : Array Value) : laidMet Tryz.prog laidVars ((laidWorld os).forCall (fun _ _ => 0) ⟨#[], args, []⟩).memory :=
  met_of (laid_all os args) (laid_rows0 os args)
/-- The cells of a row, each fitting its type, in one walk. -/
def pairsB (P : Program) (w : World) : List TypeId → List Value → Bool
  | [], [] => true
  | u :: us, v :: vs => Cell.okRefB P w u v && pairsB P w us vs
  | _, _ => false
theorem pairs_get {P : Program} {w : World} : ∀ {ts : List TypeId} {vs : List Value}, pairsB P w ts vs = true → vs.length = ts.length ∧ ∀ (i : Nat) v, vs[i]? = some v → ∃ u, ts[i]? = some u ∧ Cell.okRefB P w u v = true
  | [], [], _ => ⟨rfl, fun i v h => by simp at h⟩
  | [], _ :: _, h => by simp [pairsB] at h
  | _ :: _, [], h => by simp [pairsB] at h
  | u :: us, v :: vs, h => by
    simp only [pairsB, Bool.and_eq_true] at h
    obtain ⟨h1, h2⟩ := pairs_get h.2
    refine ⟨by simp [h1], fun i x hx => ?_⟩
    cases i with
    | zero => simp at hx; subst hx; exact ⟨u, rfl, h.1⟩
    | succ i => simp at hx; obtain ⟨y, hy, hk⟩ := h2 i x hx; exact ⟨y, by simpa using hy, hk⟩
def rowPairsB (P : Program) (w : World) (t : TypeId) (cs : Array Value) : Bool :=
  match P.cellTypes P.depth t with
  | some ts => pairsB P w ts cs.toList
  | none => false
theorem row_of_pairs {P : Program} {w : World} {base : Nat} {t : TypeId} {cs : Array Value} (h : rowPairsB P w t cs = true) : Row.ok P w .any base t cs := by
  unfold rowPairsB at h
  split at h
  · rename_i ts hts
    obtain ⟨h1, h2⟩ := pairs_get h
    have hl : cs.size = ts.length := by simpa using h1
    refine ⟨ts, hts, ⟨1, by omega⟩, fun i v hv => ?_⟩
    have hi : i < cs.size := (Array.getElem?_eq_some_iff.1 hv).1
    obtain ⟨u, hu, hk⟩ := h2 i v (by rw [Array.getElem?_toList]; exact hv)
    exact ⟨u, by rw [Nat.mod_eq_of_lt (by omega)]; exact hu, Cell.ok_of_okRefB hk⟩
  · cases h
noncomputable def varB (P : Program) (w : World) (g : Nat) : Bool :=
  match ((begin P (fun _ _ => 0) default).world.heap[g]?).bind Obj.row? with
  | none => true
  | some (zero, t) =>
    match w.heap[g]? with
    | some (.cells cs t' (0, 0)) => decide (t' = t) && cs.size == zero.size && (!P.buildable t || rowPairsB P w t cs)
    | _ => false
theorem shaped_of_vars {P : Program} {w : World} (hv : (List.range P.globals.size).all (varB P w) = true)
    (hr : (w.heap.toList.drop P.globals.size).take ((begin P (fun _ _ => 0) default).world.heap.size - P.globals.size) =
      (begin P (fun _ _ => 0) default).world.heap.toList.drop P.globals.size) : w.Shaped P := by
  refine ⟨fun g zero t hg hz => ?_, fun k h1 h2 => ?_⟩
  case refine_2 =>
    have := congrArg (·[k - P.globals.size]?) hr
    simp only [List.getElem?_take, List.getElem?_drop, Array.getElem?_toList] at this
    rw [if_pos (by omega), Nat.add_sub_cancel' h1] at this
    exact this
  have := List.all_eq_true.1 hv g (List.mem_range.2 hg)
  unfold varB at this
  rw [hz] at this
  simp only at this
  split at this
  · rename_i cs t' hw
    simp only [Bool.and_eq_true, decide_eq_true_eq, beq_iff_eq, Bool.or_eq_true, Bool.not_eq_true'] at this
    obtain ⟨⟨rfl, hs⟩, hb⟩ := this
    refine ⟨cs, hw, hs, fun hbuild => ?_⟩
    rcases hb with hb | hb
    · rw [hbuild] at hb; cases hb
    · exact row_of_pairs hb
  · cases this
theorem laid_vars (os : Os) (args : Array Value) : (List.range Tryz.prog.globals.size).all (varB Tryz.prog ((laidWorld os).forCall (fun _ _ => 0) ⟨#[], args, []⟩)) = true := by kernel_rfl
theorem laid_rest (os : Os) (args : Array Value) : (((laidWorld os).forCall (fun _ _ => 0) ⟨#[], args, []⟩).heap.toList.drop Tryz.prog.globals.size).take ((begin Tryz.prog (fun _ _ => 0) default).world.heap.size - Tryz.prog.globals.size) =
      (begin Tryz.prog (fun _ _ => 0) default).world.heap.toList.drop Tryz.prog.globals.size := by kernel_rfl
theorem laid_shaped (os : Os) (args : Array Value) : ((laidWorld os).forCall (fun _ _ => 0) ⟨#[], args, []⟩).Shaped Tryz.prog := shaped_of_vars (laid_vars os args) (laid_rest os args)
/-- There is an input that fits, at the world in which the tables are laid. -/
theorem witness_laid {H : Type} {enc : TypeId × Value → H} {os : Os} {f : FuncId} {fn : Func} {s : OpenSpec} {conds : List PathCond} {apart : Bool} {laid : List (String × DataW Unit)} (modest : Bool) (args : Array Value)
    (hok : Input.okWideB Tryz.prog ((laidWorld os).forCall (fun _ _ => 0) ⟨#[], args, []⟩) f ⟨#[], args, []⟩ = true)
    (hrow : s.preRow enc Tryz.prog fn conds apart laid ((laidWorld os).forCall (fun _ _ => 0) ⟨#[], args, []⟩).memory args) :
    ∃ (w : World) (tape : Tape) (i : Input), w.os = os ∧ (w.forCall tape i).Shaped Tryz.prog ∧ i.vars = [] ∧ Input.okWide Tryz.prog (w.forCall tape i) .any w.heap.size f i ∧
      s.preRow enc Tryz.prog fn conds apart laid (w.forCall tape i).memory i.args ∧ ({ modest := modest } : Assume).holds Tryz.prog (lone (Frame.enter Tryz.prog f i.args .normal) [] (w.forCall tape i)) :=
  ⟨laidWorld os, fun _ _ => 0, ⟨#[], args, []⟩, rfl, laid_shaped os args, (Input.okWide_of_okWideB (base := 0) hok).1, (Input.okWide_of_okWideB hok).2, hrow, by
    simp only [Assume.holds]
    exact ⟨by simp, by simp, fun _ => Modest.zero, by simp, by simp⟩⟩
#print axioms tabs_of
#print axioms witness_laid
#print axioms laid_met0
end Go.Proofs.YtdmjbhbiehjelaaGreatDoor
/- Proved: for every number of an operation the law PrintSigns answers true: the operation's sign and how tightly it holds are as the document has them. The condition: the listed tables read as they are laid (PrintSignsCardSaid, tied to the program's text). -/
namespace Go.Proofs.YtdmjbhbiehjelaaGreatDoor.printSigns
open Go.ChangeShapes Go.WideShapes Go.ChangeAt Go.RowKit Go.ChangeMaps

set_option maxRecDepth 100000 in
theorem contract (H : Type) (enc : TypeId × Value → H) (W : World) (base : Nat) (args : Array Value) (ds gs : List (DataW H)) (before : List MemPlace)
    (hval : ∀ (j : Nat) t v, Tryz.f4.params[j]? = some t → args[j]? = some v → Value.okWide Tryz.prog W .any base t v)
    (hW : DataW.Whole enc Tryz.prog Tryz.f4.params.toList Rows.printSignsSpec.vars false W args.toList ds gs before)
    (hsz : (DataW.weightsEach Tryz.prog (Tryz.f4.params.toList ++ Rows.printSignsSpec.plain.varTypes Tryz.prog) (ds ++ gs)).all (· ≤ reachBytes) = true) (hT : PT W) :
    Calls Tryz.prog 4 args W fun e W' => ∃ v, e = .returned v ∧ Rows.printSignsSpec.post enc Tryz.prog Tryz.f4 false true false false W args v W' := by
  have hW' := hW
  obtain ⟨p, q, hA0, hV, rfl, hfz, hnd⟩ := hW
  have hA : DataW.TrodAll enc Tryz.prog W 0 (fun _ => true) true Tryz.f4.params.toList args.toList ds p := hA0
  rw [Tryz.params4] at hA hval hsz
  obtain ⟨v0, vs0, d0, ds0, p0, q0, hargs, rfl, rfl, h0, r0⟩ := trodAll_cons hA
  obtain ⟨rfl, rfl, rfl⟩ := trodAll_nil r0
  obtain rfl : args = #[v0] := by cases args; simp_all
  obtain ⟨rfl, rfl⟩ := trodVars_none hV
  obtain ⟨a0, rfl, rfl, rfl, w0⟩ := open_int Tryz.underlying3 (hval 0 3 v0 rfl rfl) h0
  clear hA0 hsz
  try simp only [List.append_nil] at hW'
  refine (signs_walk a0 W hT).mono fun e W' ⟨he, bel⟩ => ?_
  subst he
  exact ⟨_, rfl, _, _, _, [], _, [], hW', trodAll_mk1 (shut_bool Tryz.underlying4 _), (trodAll_cons_mk (shut_int Tryz.underlying3 w0) trodAll_mk0), rfl, bel.frame _, fun h => by cases h⟩

theorem reads (os : Os) {H : Type} (enc : TypeId × Value → H) : ∃ places, DataW.whole enc Tryz.prog ((laidWorld os).forCall (fun _ _ => 0) ⟨#[], #[.int .i64 0], []⟩).memory Tryz.f4.params.toList Rows.printSignsSpec.vars false (#[.int .i64 0] : Array Value).toList 8 = some ([.lit (.int .i64 0)], [], places) :=
  ⟨[], by kernel_rfl⟩

theorem okIn (os : Os) : Input.okWideB Tryz.prog ((laidWorld os).forCall (fun _ _ => 0) ⟨#[], #[.int .i64 0], []⟩) 4 ⟨#[], #[.int .i64 0], []⟩ = true := by kernel_rfl
theorem sized (os : Os) {H : Type} (enc : TypeId × Value → H) : (OpenSpec.ofChange Rows.printSignsSpec).bare.sizedB enc Tryz.prog Tryz.f4 false ((laidWorld os).forCall (fun _ _ => 0) ⟨#[], #[.int .i64 0], []⟩).memory #[.int .i64 0] 8 = true := by kernel_rfl

theorem pre0 (os : Os) {H : Type} (enc : TypeId × Value → H) : (OpenSpec.ofChange Rows.printSignsSpec).preRow enc Tryz.prog Tryz.f4 Rows.printSignsRow.domain false Rows.printSignsRow.laid ((laidWorld os).forCall (fun _ _ => 0) ⟨#[], #[.int .i64 0], []⟩).memory #[.int .i64 0] := by
  obtain ⟨places, hx⟩ := reads os enc
  exact OpenSpec.preRow_of_cond 8 hx (by kernel_rfl) (fun k hk => by cases hk) (sized os enc) (laid_met0 os _)

set_option maxRecDepth 100000 in
theorem lifted (os : Os) (started : os.Started) (H : Type) (enc : TypeId × Value → H) (F : Stop.Interp) :
    ReturnsInHanded {} Tryz.checked os 4 .any ((OpenSpec.ofChange Rows.printSignsSpec).preRow enc Tryz.prog Tryz.f4 Rows.printSignsRow.domain false Rows.printSignsRow.laid) (((OpenSpec.ofChange Rows.printSignsSpec).at F).post enc Tryz.prog Tryz.f4 false true false false) := by
  refine returnsInHanded_of_row (C := Tryz.checked) (s := OpenSpec.ofChange Rows.printSignsSpec) own started (by kernel_rfl) Tryz.func4 (witness_laid false #[.int .i64 0] (okIn os) (pre0 os enc)) ?_
  intro W base args ds gs before hval hW _ _ hsz hlaid hopen _
  exact contract H enc W base args ds gs before hval hW hsz (tabs_of hlaid hopen)

theorem said : Rows.PrintSignsSaid :=
  OpenClaim.holds_of_cond 4 Tryz.f4 rfl rfl rfl rfl rfl rfl rfl ⟨rfl, rfl, rfl, rfl, rfl⟩ rfl rfl rfl rfl rfl (by kernel_rfl) Tryz.func4 (by kernel_rfl)
    (of_decide_eq_true (by kernel_rfl)) (by unfold Func.isWrapper; first | (rw [if_pos (by decide +kernel)]; kernel_rfl) | (rw [if_neg (by decide +kernel)]; exact ⟨rfl, rfl⟩))
    (fun os started H enc _ F => by rw [OpenClaim.pre_eq_preRow]; exact lifted os started H enc F)

theorem plain (f : FuncId) (fn : Func) (hf : Tryz.pinned.checked.prog.funcNamed "gridiron/gridironlaw14.PrintSigns" = some f) (hfn : Tryz.pinned.checked.prog.funcs[f]? = some fn) :
    true = Tryz.pinned.checked.prog.looks [] ∧ ∀ (j : Nat) t, fn.params[j]? = some t → Tryz.pinned.checked.prog.wantsStandIn t = false := by
  obtain rfl : f = 4 := Option.some.inj ((show Tryz.prog.funcNamed "gridiron/gridironlaw14.PrintSigns" = some 4 by kernel_rfl).symm.trans hf) |>.symm
  obtain rfl : fn = Tryz.f4 := (Option.some.inj (Tryz.func4.symm.trans hfn)).symm
  refine ⟨by kernel_rfl, fun j t ht => ?_⟩
  rw [Tryz.params4] at ht
  have hm := Array.mem_of_getElem? ht
  simp at hm
  obtain rfl := hm
  · exact (show Tryz.prog.wantsStandIn 3 = false by kernel_rfl)

theorem card : Rows.PrintSignsCardSaid :=
  Claim7.holds_tied_plain_at .later [] _ _ _ _ said (fun _ h => by cases h) (by kernel_rfl) (fun _ h => by cases h) printSigns_row_tie rfl ⟨rfl, rfl⟩ (by kernel_rfl) rfl plain (by kernel_rfl)
end Go.Proofs.YtdmjbhbiehjelaaGreatDoor.printSigns
namespace Go.Proofs.YtdmjbhbiehjelaaGreatDoor
theorem printSigns_holds : Rows.PrintSignsCardSaid := printSigns.card
#print axioms printSigns_holds
end Go.Proofs.YtdmjbhbiehjelaaGreatDoor
