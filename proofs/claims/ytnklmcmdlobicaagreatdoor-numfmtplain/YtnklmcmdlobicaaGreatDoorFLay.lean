/- The tables, as the card lays them. -/
import Derived.Test.YtnklmcmdlobicaaGreatDoorCards
import Derived.Test.YtnklmcmdlobicaaGreatDoorTie
import Derived.Test.YtnklmcmdlobicaaGreatDoorFBgn
import Derived.Deep.DeepHandedRow
import Derived.Lib.LaidTab
import Derived.Lib.LaidU8T
import Derived.SevenTiedAt
import Derived.JoinedCond
import Derived.ProofKit
import Derived.OpenShut
import Derived.SizedLaws
import Derived.ChangeOld
import Derived.ChangeMaps5
namespace Go.Proofs.YtnklmcmdlobicaaGreatDoor
open Go.ChangeShapes Go.WideShapes Go.ChangeAt Go.RowKit Go.Shelf

theorem own : ownKnob Tryz.prog.godebug = none := by kernel_rfl
theorem laidOut : laidOutB Tryz.prog = true := by kernel_rfl
theorem var_lt {P : Program} {w : World} {n : String} {g : Nat} {cs : Array Value} (hg : P.globalNamed n = some g) (h : w.var? P n = some cs) : g < w.heap.size := by
  unfold World.var? at h
  rw [hg] at h
  simp only [Option.bind_some] at h
  split at h
  · rename_i hb
    exact lt_of_block hb
  · cases h
theorem mtab_of {w : World} (h : Go.Lib.VarReads Tryz.prog w "gridiron/number.monthDays" Rows.laid_gridiron_number_monthDays) : MTab w := by
  obtain ⟨g, t, cs, fuel, p, hg, hty, hvar, hd⟩ := h
  obtain rfl := Option.some.inj ((show Tryz.prog.globalNamed "gridiron/number.monthDays" = some 13 by kernel_rfl).symm.trans hg)
  obtain rfl := Option.some.inj ((show (Tryz.prog.globals[13]?).map (·.type) = some 251 by kernel_rfl).symm.trans hty)
  have hcs := Go.Lib.cells_of_tab (k := .i64) (zs := mdays) (show Tryz.prog.underlying 251 = some (.array 12 3) by kernel_rfl) Tryz.underlying3 (by kernel_rfl) (by kernel_rfl) hd
  refine ⟨var_lt hg hvar, fun i hi => ?_⟩
  rw [World.var?_cell hg hvar i, ← Array.getElem?_toList, hcs]
  have hl : i < mdays.length := hi
  simp [List.getD, hl]
theorem utab_of {w : World} (h : Go.Lib.VarReads Tryz.prog w "internal/strconv.uint64pow10" Rows.laid_internal_strconv_uint64pow10) : UTab w := by
  obtain ⟨g, t, cs, fuel, p, hg, hty, hvar, hd⟩ := h
  obtain rfl := Option.some.inj ((show Tryz.prog.globalNamed "internal/strconv.uint64pow10" = some 10 by kernel_rfl).symm.trans hg)
  obtain rfl := Option.some.inj ((show (Tryz.prog.globals[10]?).map (·.type) = some 226 by kernel_rfl).symm.trans hty)
  rw [show (Rows.laid_internal_strconv_uint64pow10 : DataW Unit) = Go.Lib.tabData .u64 Lib.pow10Tab by kernel_rfl] at hd
  have hcs := Go.Lib.cells_of_tab (k := .u64) (zs := Lib.pow10Tab) (show Tryz.prog.underlying 226 = some (.array 20 22) by kernel_rfl) Tryz.underlying22 (by kernel_rfl) (by kernel_rfl) hd
  refine ⟨var_lt hg hvar, ?_⟩
  unfold Lib.TabIs
  rw [hvar, ← hcs]
theorem ptab_of {w : World} (h : Go.Lib.VarReads Tryz.prog w "internal/strconv.pow10Tab" Rows.laid_internal_strconv_pow10Tab) : PTab w := by
  obtain ⟨g, t, cs, fuel, p, hg, hty, hvar, hd⟩ := h
  obtain rfl := Option.some.inj ((show Tryz.prog.globalNamed "internal/strconv.pow10Tab" = some 11 by kernel_rfl).symm.trans hg)
  obtain rfl := Option.some.inj ((show (Tryz.prog.globals[11]?).map (·.type) = some 242 by kernel_rfl).symm.trans hty)
  refine ⟨var_lt hg hvar, fun i hi => ?_⟩
  obtain ⟨fuel', d, q, hdi, he⟩ := Go.Lib.array_elem (show Tryz.prog.underlying 242 = some (.array 696 241) by kernel_rfl) hd i hi
  have hl : i < Pinned.pow10Rows.length := by rw [rows_len]; exact hi
  simp only [List.getElem?_map, List.getElem?_eq_getElem hl, Option.map_some, Option.some.injEq] at hdi
  subst hdi
  have c2 : Tryz.prog.cellsOf 241 = 2 := by kernel_rfl
  rw [c2] at he
  have hgd : Pinned.pow10Rows.getD i (0, 0) = Pinned.pow10Rows[i] := by simp [List.getD, hl]
  have hcs := Go.Lib.ints_of_struct (k := .u64) (zs := [((Pinned.pow10Rows[i].1 : Nat) : Int), ((Pinned.pow10Rows[i].2 : Nat) : Int)]) Tryz.underlying241 (fun j f hj => by
      match j, hj with
      | 0, hj => simp at hj; subst hj; exact ⟨Tryz.underlying22, rfl, by kernel_rfl⟩
      | 1, hj => simp at hj; subst hj; exact ⟨Tryz.underlying22, rfl, by kernel_rfl⟩
      | j + 2, hj => simp at hj) (by rw [c2]; rfl) he
  have e0 := congrArg (·[0]?) hcs
  have e1 := congrArg (·[1]?) hcs
  simp only [List.getElem?_take, List.getElem?_drop] at e0 e1
  rw [hgd]
  constructor
  · rw [World.var?_cell hg hvar (i * 2), ← Array.getElem?_toList]
    simpa using e0
  · rw [World.var?_cell hg hvar (i * 2 + 1), ← Array.getElem?_toList]
    simpa using e1
theorem otab_of {w : World} (h : Go.Lib.VarReads Tryz.prog w "internal/strconv.optimize" Rows.laid_internal_strconv_optimize) : OTab w := by
  obtain ⟨g, t, cs, fuel, p, hg, hty, hvar, hd⟩ := h
  obtain rfl := Option.some.inj ((show Tryz.prog.globalNamed "internal/strconv.optimize" = some 3 by kernel_rfl).symm.trans hg)
  obtain rfl := Option.some.inj ((show (Tryz.prog.globals[3]?).map (·.type) = some 4 by kernel_rfl).symm.trans hty)
  refine ⟨var_lt hg hvar, ?_⟩
  obtain ⟨b, hb, hx⟩ := DataW.trod_bool Tryz.underlying4 hd
  have hx' := congrArg Prod.fst hx
  simp only [Rows.laid_internal_strconv_optimize, DataW.lit.injEq, Lit.bool.injEq] at hx'
  rw [World.var?_cell hg hvar 0, ← Array.getElem?_toList, hb, ← hx']
  rfl
theorem cheat_rows : Pinned.cheatRows = cheatC.map fun x => (x.1, x.2.map fun d => UInt8.ofNat (48 + d)) := by decide +kernel
theorem cheat_at (k : Nat) (hk : k < 61) : Pinned.cheatRows[k]? = some (cheatD k, (cheatE k).map fun d => UInt8.ofNat (48 + d)) := by
  have hl : cheatC.length = 61 := by decide +kernel
  rw [cheat_rows, List.getElem?_map]
  have : cheatC[k]? = some (cheatC.getD k (0, [])) := by rw [List.getElem?_eq_getElem (by omega), List.getD, List.getElem?_eq_getElem (by omega)]; rfl
  rw [this]
  rfl
theorem cheat_nine (k : Nat) (hk : k < 61) : ∀ x ∈ cheatE k, x ≤ 9 := by
  by_cases hk0 : k = 0
  · subst hk0
    intro x hx
    rw [show cheatE 0 = [] by decide +kernel] at hx
    cases hx
  · exact (cheat_ok k (by omega) (by omega)).2.2.2.2.2
theorem cheat_str (s : ByteArray) (E : List Nat) (h9 : ∀ x ∈ E, x ≤ 9) (h : s.data.toList = E.map fun d => UInt8.ofNat (48 + d)) : s.size = E.length ∧ ∀ i (h : i < s.size) (h2 : i < E.length), s[i].toNat = 48 + E[i] := by
  obtain ⟨⟨l⟩⟩ := s
  simp only at h
  subst h
  refine ⟨by simp [ByteArray.size], fun i h h2 => ?_⟩
  have := h9 _ (List.getElem_mem h2)
  show ((E.map fun d => UInt8.ofNat (48 + d)).toArray[i]'h).toNat = _
  rw [List.getElem_toArray, List.getElem_map, UInt8.toNat_ofNat', Nat.mod_eq_of_lt (by omega)]
theorem lt_cell {w : World} {b o : Nat} {v : Value} (h : w.cell? ⟨b, o, none⟩ = some v) : b < w.heap.size := by
  rcases Nat.lt_or_ge b w.heap.size with h' | h'
  · exact h'
  · simp [World.cell?, Array.getElem?_eq_none h'] at h
theorem cells_two {w : World} {a : Addr} {l : List Value} (h : w.cells? 0 a 2 = some l) : ∃ x y, l = [x, y] ∧ w.cell? a = some x ∧ w.cell? (a.add 1) = some y := by
  unfold World.cells? at h
  simp only [Nat.zero_le, if_true] at h
  rw [show List.range 2 = [0, 1] from rfl] at h
  simp only [List.mapM_cons, List.mapM_nil] at h
  rw [show a.add 0 = a by simp [Addr.add]] at h
  cases h1 : w.cell? a with
  | none => simp [h1] at h
  | some x =>
    cases h2 : w.cell? (a.add 1) with
    | none => simp [h1, h2] at h
    | some y => simp [h1, h2] at h; exact ⟨x, y, h.symm, rfl, rfl⟩
set_option maxRecDepth 100000 in
theorem ctab_of {w : World} (h : Go.Lib.VarReads Tryz.prog w "internal/strconv.leftcheats" Rows.laid_internal_strconv_leftcheats) : CTab w w.heap.size := by
  obtain ⟨g, t, cs, fuel, p, hg, hty, hvar, hd⟩ := h
  obtain rfl := Option.some.inj ((show Tryz.prog.globalNamed "internal/strconv.leftcheats" = some 12 by kernel_rfl).symm.trans hg)
  obtain rfl := Option.some.inj ((show (Tryz.prog.globals[12]?).map (·.type) = some 247 by kernel_rfl).symm.trans hty)
  have hgl := var_lt hg hvar
  rcases DataW.trod_slice Tryz.underlying247 hd with ⟨_, hx⟩ | ⟨a, len, cap, elems, rest, n, rfl, hcs, hx, _, hlc, hcm, hel, hall, _, _⟩
  · have hx' := congrArg Prod.fst hx
    simp [Rows.laid_internal_strconv_leftcheats, Pinned.leftcheats] at hx'
  · have hx' := congrArg Prod.fst hx
    simp only [Rows.laid_internal_strconv_leftcheats, Pinned.leftcheats, DataW.slice.injEq] at hx'
    have hlen : len = 61 := by
      have := congrArg List.length hx'.1
      rw [List.length_map, List.length_map, show Pinned.cheatRows.length = 61 by decide +kernel] at this
      omega
    subst hlen
    have c2 : Tryz.prog.cellsOf 246 = 2 := by kernel_rfl
    have c1 : Tryz.prog.cellsOf 3 = 1 := by kernel_rfl
    have c3 : Tryz.prog.cellsOf 9 = 1 := by kernel_rfl
    rw [c2] at hall
    have key : ∀ k, k < 61 → w.cell? (a.add (k * 2)) = some (.int .i64 ((cheatD k : Nat) : Int)) ∧ ∃ s : ByteArray, w.cell? ((a.add (k * 2)).add 1) = some (.string s) ∧ s.data.toList = (cheatE k).map fun d => UInt8.ofNat (48 + d) := by
      intro k hk
      have e := hall k hk
      obtain ⟨b, hb⟩ : ∃ b, elems[k]? = some b := ⟨elems[k]'(by omega), List.getElem?_eq_getElem (by omega)⟩
      rw [hb, Option.bind_eq_some_iff] at e
      obtain ⟨l, hl, ht⟩ := e
      obtain ⟨x, y, rfl, hx1, hy1⟩ := cells_two hl
      obtain ⟨y0, y1, n', hbe, _, g0, g1⟩ := trod_struct2 Tryz.underlying246 ht
      simp [c1, c3] at g0 g1
      obtain ⟨z0, e0, rfl, _⟩ := DataW.trod_int Tryz.underlying3 g0
      obtain ⟨z1, e1, rfl, _⟩ := DataW.trod_string Tryz.underlying9 g1
      simp only [List.cons.injEq, and_true] at e0 e1
      subst e0 e1
      have h4 : (elems.map (·.1))[k]? = some b.1 := by simp [hb]
      rw [← hx'.1, List.getElem?_map, cheat_at k hk, hbe] at h4
      simp only [Option.map_some, Option.some.injEq, DataW.agg.injEq, List.cons.injEq, DataW.lit.injEq, Lit.int.injEq, Lit.string.injEq, true_and, and_true] at h4
      refine ⟨by rw [hx1, ← h4.1], z1, hy1, h4.2.symm⟩
    have hs0 : ∃ b o, a = ⟨b, o, none⟩ := by
      have h0 := (key 0 (by omega)).1
      obtain ⟨b, o, sp⟩ := a
      refine ⟨b, o, ?_⟩
      cases sp with
      | none => rfl
      | some x => unfold World.cell? at h0; simp [Addr.add] at h0; split at h0 <;> simp at h0
    obtain ⟨b, o, rfl⟩ := hs0
    have key2 : ∀ k, k < 61 → w.cell? ⟨b, o + k * 2, none⟩ = some (.int .i64 ((cheatD k : Nat) : Int)) ∧ ∃ s : ByteArray, w.cell? ⟨b, o + k * 2 + 1, none⟩ = some (.string s) ∧ s.data.toList = (cheatE k).map fun d => UInt8.ofNat (48 + d) := by
      intro k hk
      have h := key k hk
      simp only [add_none] at h
      exact h
    clear key
    have hbl : b < w.heap.size := lt_cell (key2 0 (by omega)).1
    have key3 : ∀ k, ∃ s : ByteArray, k < 61 → w.cell? ⟨b, o + k * 2 + 1, none⟩ = some (.string s) ∧ s.data.toList = (cheatE k).map fun d => UInt8.ofNat (48 + d) := by
      intro k
      by_cases hk : k < 61
      · obtain ⟨s, hs⟩ := (key2 k hk).2
        exact ⟨s, fun _ => hs⟩
      · exact ⟨⟨#[]⟩, fun h => absurd h hk⟩
    obtain ⟨S, hS⟩ := Classical.axiomOfChoice key3
    refine ⟨b, o, cap, S, hgl, hbl, Nat.le_refl _, ?_, fun k hk => ?_⟩
    · rw [World.var?_cell hg hvar 0, ← Array.getElem?_toList, hcs]
      rfl
    · obtain ⟨h1, h2⟩ := cheat_str (S k) (cheatE k) (cheat_nine k hk) (hS k hk).2
      exact ⟨(key2 k hk).1, (hS k hk).1, h1, h2⟩
theorem trod_str_at {w : World} {fuel : Nat} {cs : List Value} {s : ByteArray} {q : List MemPlace} (h : DataW.trod (fun _ => ()) Tryz.prog w 0 (fun _ => true) false fuel 9 cs = some (.lit (.string s.data.toList), q)) : cs = [.string s] := by
  obtain ⟨b, hb, hx, _⟩ := DataW.trod_string Tryz.underlying9 h
  have hx' := congrArg Prod.fst hx
  simp only [DataW.lit.injEq, Lit.string.injEq] at hx'
  have hbe : b = s := by
    have := Array.toList_inj.1 hx'
    cases b
    cases s
    simp at this
    rw [this]
  rw [hb, hbe]
theorem mons_of {w : World} (h : Go.Lib.VarReads Tryz.prog w "gridiron/numfmt.months" Rows.laid_gridiron_numfmt_months) : 8 < w.heap.size ∧ ∀ k, k < 12 → w.cell? ⟨8, k, none⟩ = some (.string (monL.getD k ⟨#[]⟩)) := by
  obtain ⟨g, t, cs, fuel, p, hg, hty, hvar, hd⟩ := h
  obtain rfl := Option.some.inj ((show Tryz.prog.globalNamed "gridiron/numfmt.months" = some 8 by kernel_rfl).symm.trans hg)
  obtain rfl := Option.some.inj ((show (Tryz.prog.globals[8]?).map (·.type) = some 211 by kernel_rfl).symm.trans hty)
  refine ⟨var_lt hg hvar, fun i hi => ?_⟩
  rw [show (Rows.laid_gridiron_numfmt_months : DataW Unit) = .agg (monL.map fun t => .lit (.string t.data.toList)) by kernel_rfl] at hd
  obtain ⟨fuel', d, q, hdi, he⟩ := Go.Lib.array_elem (show Tryz.prog.underlying 211 = some (.array 12 9) by kernel_rfl) hd i hi
  have hl : i < monL.length := hi
  simp only [List.getElem?_map, List.getElem?_eq_getElem hl, Option.map_some, Option.some.injEq] at hdi
  subst hdi
  have c1 : Tryz.prog.cellsOf 9 = 1 := by kernel_rfl
  rw [c1] at he
  have hb := trod_str_at he
  have e0 := congrArg (·[0]?) hb
  simp only [List.getElem?_take, List.getElem?_drop] at e0
  rw [World.var?_cell hg hvar i, ← Array.getElem?_toList]
  rw [show monL.getD i ⟨#[]⟩ = monL[i] by simp [List.getD, hl]]
  simpa using e0
theorem wks_of {w : World} (h : Go.Lib.VarReads Tryz.prog w "gridiron/numfmt.weekdays" Rows.laid_gridiron_numfmt_weekdays) : 9 < w.heap.size ∧ ∀ k, k < 7 → w.cell? ⟨9, k, none⟩ = some (.string (wkL.getD k ⟨#[]⟩)) := by
  obtain ⟨g, t, cs, fuel, p, hg, hty, hvar, hd⟩ := h
  obtain rfl := Option.some.inj ((show Tryz.prog.globalNamed "gridiron/numfmt.weekdays" = some 9 by kernel_rfl).symm.trans hg)
  obtain rfl := Option.some.inj ((show (Tryz.prog.globals[9]?).map (·.type) = some 212 by kernel_rfl).symm.trans hty)
  refine ⟨var_lt hg hvar, fun i hi => ?_⟩
  rw [show (Rows.laid_gridiron_numfmt_weekdays : DataW Unit) = .agg (wkL.map fun t => .lit (.string t.data.toList)) by kernel_rfl] at hd
  obtain ⟨fuel', d, q, hdi, he⟩ := Go.Lib.array_elem (show Tryz.prog.underlying 212 = some (.array 7 9) by kernel_rfl) hd i hi
  have hl : i < wkL.length := hi
  simp only [List.getElem?_map, List.getElem?_eq_getElem hl, Option.map_some, Option.some.injEq] at hdi
  subst hdi
  have c1 : Tryz.prog.cellsOf 9 = 1 := by kernel_rfl
  rw [c1] at he
  have hb := trod_str_at he
  have e0 := congrArg (·[0]?) hb
  simp only [List.getElem?_take, List.getElem?_drop] at e0
  rw [World.var?_cell hg hvar i, ← Array.getElem?_toList]
  rw [show wkL.getD i ⟨#[]⟩ = wkL[i] by simp [List.getD, hl]]
  simpa using e0
/-- The rows' variables, in their order. -/
def laidVars : List (String × DataW Unit) := [("math/bits.deBruijn32tab", Rows.laid_math_bits_deBruijn32tab), ("math/bits.deBruijn64tab", Rows.laid_math_bits_deBruijn64tab), ("internal/strconv.optimize", Rows.laid_internal_strconv_optimize), ("internal/strconv.uint64pow10", Rows.laid_internal_strconv_uint64pow10), ("unicode/utf8.acceptRanges", Rows.laid_unicode_utf8_acceptRanges), ("strconv.ErrRange", Rows.laid_strconv_ErrRange), ("strconv.ErrSyntax", Rows.laid_strconv_ErrSyntax), ("gridiron/number.monthDays", Rows.laid_gridiron_number_monthDays), ("gridiron/value.errTexts", Rows.laid_gridiron_value_errTexts), ("gridiron/numfmt.months", Rows.laid_gridiron_numfmt_months), ("gridiron/numfmt.weekdays", Rows.laid_gridiron_numfmt_weekdays), ("internal/strconv.leftcheats", Rows.laid_internal_strconv_leftcheats), ("internal/strconv.pow10Tab", Rows.laid_internal_strconv_pow10Tab), ("unicode/utf8.first", Rows.laid_unicode_utf8_first)]
theorem tabs_of {w : World} (h : laidMet Tryz.prog laidVars w) (hO : w.ShapedOpen Tryz.prog) : FTabs w w.heap.size where
  x := by
    obtain ⟨m, hm⟩ := Tryz.laysLaysMn145.s1_3 w hO
    exact ⟨lt_cell (show w.cell? ⟨2, 0, none⟩ = some (.int .i64 m) from hm), m, hm⟩
  o := otab_of (Go.Lib.laidMet.reads h (by unfold laidVars; simp))
  c := ctab_of (Go.Lib.laidMet.reads h (by unfold laidVars; simp))
  s := {
    m1 := (mons_of (Go.Lib.laidMet.reads h (by unfold laidVars; simp))).1
    m := (mons_of (Go.Lib.laidMet.reads h (by unfold laidVars; simp))).2
    d1 := (wks_of (Go.Lib.laidMet.reads h (by unfold laidVars; simp))).1
    d := (wks_of (Go.Lib.laidMet.reads h (by unfold laidVars; simp))).2 }
/-- A block with other cells. -/
def putCells (cs : Array Value) : Obj → Obj
  | .cells _ t frozen => .cells cs t frozen
  | o => o
/-- The cells of a datum that is flat: a number, or a struct of such. -/
def flat0 : DataW Unit → List Value
  | .lit (.int k n) => [.int k n]
  | .lit (.bool b) => [.bool b]
  | .lit (.string bs) => [.string ⟨bs.toArray⟩]
  | _ => []
def flat1 : DataW Unit → List Value
  | .agg l => l.flatMap flat0
  | d => flat0 d
def flatRow : DataW Unit → Array Value
  | .slice l _ => (l.flatMap flat1).toArray
  | .agg l => (l.flatMap flat1).toArray
  | d => (flat0 d).toArray
/-- A world in which the tables read as they are laid. -/
noncomputable def laidWorld (os : Os) : World :=
  let H := World.holding Tryz.prog os ⟨#[], #[], []⟩
  let n := H.heap.size
  { H with
    heap := (((((((((((((((H.heap.modify 14 (putCells (flatRow Rows.laid_math_bits_deBruijn32tab))).modify 15 (putCells (flatRow Rows.laid_math_bits_deBruijn64tab))).modify 3 (putCells (flatRow Rows.laid_internal_strconv_optimize))).modify 10 (putCells (flatRow Rows.laid_internal_strconv_uint64pow10))).modify 5 (putCells (flatRow Rows.laid_unicode_utf8_acceptRanges))).modify 7 (putCells #[.iface 232 (.pointer (some ⟨n + 0, 0, none⟩))])).modify 6 (putCells #[.iface 232 (.pointer (some ⟨n + 1, 0, none⟩))])).modify 13 (putCells (flatRow Rows.laid_gridiron_number_monthDays))).modify 1 (putCells (flatRow Rows.laid_gridiron_value_errTexts))).modify 8 (putCells (flatRow Rows.laid_gridiron_numfmt_months))).modify 9 (putCells (flatRow Rows.laid_gridiron_numfmt_weekdays))).modify 12 (putCells #[.slice (some ⟨n + 2, 0, none⟩) 61 61])).modify 11 (putCells (flatRow Rows.laid_internal_strconv_pow10Tab))).modify 4 (putCells (flatRow Rows.laid_unicode_utf8_first)))
      ++ #[.cells #[.string ⟨#[118, 97, 108, 117, 101, 32, 111, 117, 116, 32, 111, 102, 32, 114, 97, 110, 103, 101]⟩] 234 (0, 0), .cells #[.string ⟨#[105, 110, 118, 97, 108, 105, 100, 32, 115, 121, 110, 116, 97, 120]⟩] 234 (0, 0), .cells (flatRow Rows.laid_internal_strconv_leftcheats) 246 (0, 0)]) }
/-- The places of the tables: of each block so many. -/
def segs : List (Nat × Nat) := [(14, 32), (15, 64), (3, 1), (10, 20), (5, 32), (7, 1), (21, 1), (6, 1), (22, 1), (13, 12), (1, 9), (8, 12), (9, 7), (12, 1), (23, 122), (11, 1392), (4, 256)]
def placesOf (l : List (Nat × Nat)) : List MemPlace := l.flatMap fun x => (List.range x.2).map (MemPlace.cell x.1)
theorem places_block {l : List (Nat × Nat)} {p : MemPlace} (h : p ∈ placesOf l) : ∃ b o, p = .cell b o ∧ b ∈ l.map (·.1) := by
  unfold placesOf at h
  obtain ⟨x, hx, hp⟩ := List.mem_flatMap.1 h
  obtain ⟨o, _, rfl⟩ := List.mem_map.1 hp
  exact ⟨x.1, o, rfl, List.mem_map.2 ⟨x, hx, rfl⟩⟩
theorem places_nodup : ∀ l : List (Nat × Nat), (l.map (·.1)).Nodup → (placesOf l).Nodup
  | [], _ => List.nodup_nil
  | x :: l, h => by
    rw [List.map_cons, List.nodup_cons] at h
    show ((List.range x.2).map (MemPlace.cell x.1) ++ placesOf l).Nodup
    rw [List.nodup_append]
    refine ⟨?_, places_nodup l h.2, fun a ha b hb e => ?_⟩
    · rw [List.nodup_iff_pairwise_ne, List.pairwise_map]
      refine List.Pairwise.imp ?_ (List.nodup_iff_pairwise_ne.1 List.nodup_range)
      intro a b hab e
      injection e with _ e2
      exact hab e2
    · obtain ⟨o, _, rfl⟩ := List.mem_map.1 ha
      obtain ⟨b', o', rfl, hb'⟩ := places_block hb
      injection e with e1 _
      rw [← e1] at hb'
      exact h.1 hb'
theorem laid_run0 (os : Os) (args : Array Value) : DataW.laidRun Tryz.prog ((laidWorld os).forCall (fun _ _ => 0) ⟨#[], args, []⟩).memory 2000 (laidVars.map (·.1)) = some (laidVars, placesOf segs) := by kernel_rfl
/-- A block's cells can be read, and what interfaces lie there are whole. -/
noncomputable def blockOk (w : World) (b : Nat) : Bool :=
  match w.heap[b]? with
  | some (.cells c _ (0, 0)) => c.toList.all fun v => match v with
    | .iface u v => Value.okWideB Tryz.prog w u v
    | _ => true
  | _ => false
set_option maxRecDepth 100000 in
theorem met_of {w : World} {fuel : Nat} (h1 : DataW.laidRun Tryz.prog w fuel (laidVars.map (·.1)) = some (laidVars, placesOf segs)) (h2 : (segs.map (·.1)).all (blockOk w) = true) : laidMet Tryz.prog laidVars w := by
  refine ⟨_, DataW.LaidVars_of_laidRun h1, places_nodup segs (by decide), fun b off hp => ?_⟩
  obtain ⟨b', o', e, hb⟩ := places_block hp
  injection e with e1 e2
  subst e1 e2
  have hk := List.all_eq_true.1 h2 _ hb
  unfold blockOk at hk
  split at hk
  · rename_i c t hh
    refine ⟨⟨c, t, hh⟩, fun u v hc => ?_⟩
    have hcell : c[off]? = some (.iface u v) := by
      unfold World.cell? at hc
      rw [hh] at hc
      simpa using hc
    have hq : Value.okWideB Tryz.prog w u v = true := List.all_eq_true.1 hk (.iface u v) (List.mem_of_getElem? (by rw [Array.getElem?_toList]; exact hcell))
    exact Value.okWide_of_okWideB (P := Tryz.prog) (w := w) hq
  · cases hk
theorem laid_rows0 (os : Os) (args : Array Value) : (segs.map (·.1)).all (blockOk ((laidWorld os).forCall (fun _ _ => 0) ⟨#[], args, []⟩).memory) = true := by kernel_rfl
theorem laid_met0 (os : Os) (args : Array Value) : laidMet Tryz.prog laidVars ((laidWorld os).forCall (fun _ _ => 0) ⟨#[], args, []⟩).memory :=
  met_of (laid_run0 os args) (laid_rows0 os args)
/-- The cells of a row, each fitting its type, in one walk. -/
def pairsB (P : Program) (w : World) : List TypeId → List Value → Bool
  | [], [] => true
  | u :: us, v :: vs => Cell.okRefB P w u v && pairsB P w us vs
  | _, _ => false
theorem pairs_get {P : Program} {w : World} : ∀ {ts : List TypeId} {vs : List Value}, pairsB P w ts vs = true → vs.length = ts.length ∧ ∀ (i : Nat) v, vs[i]? = some v → ∃ u, ts[i]? = some u ∧ Cell.okRefB P w u v = true
  | [], [], _ => ⟨rfl, fun i v h => by simp at h⟩
  | [], _ :: _, h => by simp [pairsB] at h
  | _ :: _, [], h => by simp [pairsB] at h
  | u :: us, v :: vs, h => by
    simp only [pairsB, Bool.and_eq_true] at h
    obtain ⟨h1, h2⟩ := pairs_get h.2
    refine ⟨by simp [h1], fun i x hx => ?_⟩
    cases i with
    | zero => simp at hx; subst hx; exact ⟨u, rfl, h.1⟩
    | succ i => simp at hx; obtain ⟨y, hy, hk⟩ := h2 i x hx; exact ⟨y, by simpa using hy, hk⟩
def rowPairsB (P : Program) (w : World) (t : TypeId) (cs : Array Value) : Bool :=
  match P.cellTypes P.depth t with
  | some ts => pairsB P w ts cs.toList
  | none => false
theorem row_of_pairs {P : Program} {w : World} {base : Nat} {t : TypeId} {cs : Array Value} (h : rowPairsB P w t cs = true) : Row.ok P w .any base t cs := by
  unfold rowPairsB at h
  split at h
  · rename_i ts hts
    obtain ⟨h1, h2⟩ := pairs_get h
    have hl : cs.size = ts.length := by simpa using h1
    refine ⟨ts, hts, ⟨1, by omega⟩, fun i v hv => ?_⟩
    have hi : i < cs.size := (Array.getElem?_eq_some_iff.1 hv).1
    obtain ⟨u, hu, hk⟩ := h2 i v (by rw [Array.getElem?_toList]; exact hv)
    exact ⟨u, by rw [Nat.mod_eq_of_lt (by omega)]; exact hu, Cell.ok_of_okRefB hk⟩
  · cases h
noncomputable def varB (P : Program) (w : World) (g : Nat) : Bool :=
  match ((begin P (fun _ _ => 0) default).world.heap[g]?).bind Obj.row? with
  | none => true
  | some (zero, t) =>
    match w.heap[g]? with
    | some (.cells cs t' (0, 0)) => decide (t' = t) && cs.size == zero.size && (!P.buildable t || rowPairsB P w t cs)
    | _ => false
theorem shaped_of_vars {P : Program} {w : World} (hv : (List.range P.globals.size).all (varB P w) = true)
    (hr : (w.heap.toList.drop P.globals.size).take ((begin P (fun _ _ => 0) default).world.heap.size - P.globals.size) =
      (begin P (fun _ _ => 0) default).world.heap.toList.drop P.globals.size) : w.Shaped P := by
  refine ⟨fun g zero t hg hz => ?_, fun k h1 h2 => ?_⟩
  case refine_2 =>
    have := congrArg (·[k - P.globals.size]?) hr
    simp only [List.getElem?_take, List.getElem?_drop, Array.getElem?_toList] at this
    rw [if_pos (by omega), Nat.add_sub_cancel' h1] at this
    exact this
  have := List.all_eq_true.1 hv g (List.mem_range.2 hg)
  unfold varB at this
  rw [hz] at this
  simp only at this
  split at this
  · rename_i cs t' hw
    simp only [Bool.and_eq_true, decide_eq_true_eq, beq_iff_eq, Bool.or_eq_true, Bool.not_eq_true'] at this
    obtain ⟨⟨rfl, hs⟩, hb⟩ := this
    refine ⟨cs, hw, hs, fun hbuild => ?_⟩
    rcases hb with hb | hb
    · rw [hbuild] at hb; cases hb
    · exact row_of_pairs hb
  · cases this
theorem laid_vars (os : Os) (args : Array Value) : (List.range Tryz.prog.globals.size).all (varB Tryz.prog ((laidWorld os).forCall (fun _ _ => 0) ⟨#[], args, []⟩)) = true := by kernel_rfl
theorem laid_rest (os : Os) (args : Array Value) : (((laidWorld os).forCall (fun _ _ => 0) ⟨#[], args, []⟩).heap.toList.drop Tryz.prog.globals.size).take ((begin Tryz.prog (fun _ _ => 0) default).world.heap.size - Tryz.prog.globals.size) =
      (begin Tryz.prog (fun _ _ => 0) default).world.heap.toList.drop Tryz.prog.globals.size := by kernel_rfl
theorem laid_shaped (os : Os) (args : Array Value) : ((laidWorld os).forCall (fun _ _ => 0) ⟨#[], args, []⟩).Shaped Tryz.prog := shaped_of_vars (laid_vars os args) (laid_rest os args)
/-- There is an input that fits, at the world in which the tables are laid. -/
theorem witness_laid {H : Type} {enc : TypeId × Value → H} {os : Os} {f : FuncId} {fn : Func} {s : OpenSpec} {conds : List PathCond} {apart : Bool} {laid : List (String × DataW Unit)} (modest : Bool) (args : Array Value)
    (hok : Input.okWideB Tryz.prog ((laidWorld os).forCall (fun _ _ => 0) ⟨#[], args, []⟩) f ⟨#[], args, []⟩ = true)
    (hrow : s.preRow enc Tryz.prog fn conds apart laid ((laidWorld os).forCall (fun _ _ => 0) ⟨#[], args, []⟩).memory args) :
    ∃ (w : World) (tape : Tape) (i : Input), w.os = os ∧ (w.forCall tape i).Shaped Tryz.prog ∧ i.vars = [] ∧ Input.okWide Tryz.prog (w.forCall tape i) .any w.heap.size f i ∧
      s.preRow enc Tryz.prog fn conds apart laid (w.forCall tape i).memory i.args ∧ ({ modest := modest } : Assume).holds Tryz.prog (lone (Frame.enter Tryz.prog f i.args .normal) [] (w.forCall tape i)) :=
  ⟨laidWorld os, fun _ _ => 0, ⟨#[], args, []⟩, rfl, laid_shaped os args, (Input.okWide_of_okWideB (base := 0) hok).1, (Input.okWide_of_okWideB hok).2, hrow, by
    simp only [Assume.holds]
    exact ⟨by simp, by simp, fun _ => Modest.zero, by simp, by simp⟩⟩
#print axioms tabs_of
#print axioms witness_laid
#print axioms laid_met0
end Go.Proofs.YtnklmcmdlobicaaGreatDoor
