/- A sign that must stand there and does not. -/
import Derived.Test.YtdmjbhbiehjelaaGreatDoorK29
import Derived.Deep.RegionHeld3
import Derived.Deep.MidRow
namespace Go.Proofs.YtdmjbhbiehjelaaGreatDoor
open Go.RowKit Go.Shelf

theorem load_int (w : World) (b o : Nat) (v : Value) (h : w.cell? ⟨b, o, none⟩ = some v) : (Instr.loadAt 3 (.pointer (some ⟨b, o, none⟩))).run Tryz.prog w = .ok v w := by
  have hu := Tryz.underlying3
  simp [go_sem, h]
theorem load_str (w : World) (b o : Nat) (v : Value) (h : w.cell? ⟨b, o, none⟩ = some v) : (Instr.loadAt 9 (.pointer (some ⟨b, o, none⟩))).run Tryz.prog w = .ok v w := by
  have hu := Tryz.underlying9
  simp [go_sem, h]
theorem load_boo (w : World) (b o : Nat) (v : Value) (h : w.cell? ⟨b, o, none⟩ = some v) : (Instr.loadAt 4 (.pointer (some ⟨b, o, none⟩))).run Tryz.prog w = .ok v w := by
  have hu := Tryz.underlying4
  simp [go_sem, h]
section
variable {P : Program} {ops : Array Oper} {S : World → Prop} {op : Oper} {a : Act}
theorem y_loadOf (ty : TypeId) (hl : ∀ w b o v, w.cell? ⟨b, o, none⟩ = some v → (Instr.loadAt ty (.pointer (some ⟨b, o, none⟩))).run Tryz.prog w = .ok v w) (x : Operand) (b o : Nat) (v : Value) (hw : Region.wanted op (yielded ops a.tmps) = true) (ho : op.op = .load ty x) (hx : a.eval x = .pointer (some ⟨b, o, none⟩)) (hS : ∀ w, S w → w.cell? ⟨b, o, none⟩ = some v) : YieldsIf Tryz.prog ops S op v a :=
  .inl ⟨hw, fun w hw' => by
    unfold execOp
    simp only [ho, hx, Sem.run_bind, Sem.run_pure, hl w b o v (hS w hw'), Result.andThen_ok]⟩
/-- A call of a Go function that is named. -/
theorem wp_go {w : World} {next : Act → World → Prop} {Q : Exit → Act → World → Prop} (f : FuncId) (args : Array Value) (h : (execOp a.eval op).run P w = .ok (.enter f args) w)
    (hc : Calls P f args w fun e w'' => match e, w'' with
      | .returned v, w'' => next (a.put op.dst v) w''
      | .panicked chain, w'' => Q (.panic chain) a w''
      | .outgrown, _ => LetsOut Q) : Oper.wp P op a w next Q := by
  unfold Oper.wp
  rw [h]
  exact hc
end
end Go.Proofs.YtdmjbhbiehjelaaGreatDoor
/- Names, sheets, the last sheet that the reader reads. -/
namespace Go.Proofs.YtdmjbhbiehjelaaGreatDoor
open Go.RowKit Go.Shelf

theorem isAt_size {s : ByteArray} {c p : Nat} (h : isAt s c p = true) : p < s.size := by simp [isAt] at h; exact h.1
theorem nqu_stop (s : ByteArray) (p : Nat) (h : endK nquK s p < s.size) : isAt s 39 (endK nquK s p) = true := by
  have := endK_not nquK s p h
  unfold isAt
  rw [decide_eq_true h]
  simpa [nquK] using this
theorem nqu_none (s : ByteArray) (p : Nat) (h : ¬ endK nquK s p < s.size) : isAt s 39 (endK nquK s p) = false := by
  unfold isAt
  rw [decide_eq_false h]
  rfl
end Go.Proofs.YtdmjbhbiehjelaaGreatDoor
/- Sheets, the last sheet that the reader reads. -/
namespace Go.Proofs.YtdmjbhbiehjelaaGreatDoor
open Go.RowKit Go.Shelf

def quoE (s : ByteArray) : Int := if shtF s = true then 0 else 111
theorem quote_two (s : ByteArray) (w : World) : Calls Tryz.prog 113 #[.string s] w fun e w' => e = .returned (.tuple #[.string (quoF s), .int .i64 (quoE s)]) ∧ Fr noB w w' := by
  have h := quote_any s w
  unfold quoV at h
  unfold quoE
  by_cases hs : shtF s = true
  · rw [if_pos hs] at h ⊢; exact h
  · rw [if_neg hs] at h ⊢
    rw [quoF_no s (by simpa using hs)]
    exact h
theorem emp_no (W : ByteArray) (h : 0 < W.size) : W.toList.isEmpty = false := by
  rw [ByteArray.toList_eq]
  have : W.data.toList.length = W.size := by simp
  cases hl : W.data.toList with
  | nil => rw [hl] at this; simp at this; omega
  | cons => rfl
theorem lst_ne (A B : ByteArray) (h : A ≠ B) : (A.toList == B.toList) = false := by
  rw [beq_eq_false_iff_ne]
  intro e
  apply h
  rw [ByteArray.toList_eq, ByteArray.toList_eq] at e
  exact ByteArray.ext (Array.toList_inj.1 e)
theorem ext_size (s : ByteArray) (p q : Nat) (hq : q ≤ s.size) : (s.extract p q).size = q - p := by simp; omega
theorem quo_plain {t : ByteArray} (h1 : shtF t = true) (h2 : wrdF t = true) : quoF t = t := by unfold quoF; rw [h1, h2]; rfl
theorem quo_quoted {t : ByteArray} (h1 : shtF t = true) (h2 : wrdF t = false) : quoF t = baL_r (39 :: (t.data.toList ++ [39])) := by unfold quoF; rw [h1, h2]; rfl
theorem quo_size {t : ByteArray} : (quoF t).size = if shtF t = true then (if wrdF t = true then t.size else t.size + 2) else 0 := by
  unfold quoF
  split
  · split
    · rfl
    · rw [baL_size_r]
      simp
  · rfl
theorem ext_list (s : ByteArray) (p q : Nat) : (s.extract p q).data.toList = (s.data.toList.drop p).take (q - p) := by
  rw [ByteArray.data_extract]
  simp [List.extract]
theorem ext_cons (s : ByteArray) (p q : Nat) (hpq : p < q) (hq : q ≤ s.size) : (s.extract p q).data.toList = (s[p]'(by omega)) :: (s.extract (p + 1) q).data.toList := by
  rw [ext_list, ext_list, List.drop_eq_getElem_cons (by simp; omega), show q - p = (q - (p + 1)) + 1 by omega, List.take_succ_cons]
  rfl
theorem ext_snoc (s : ByteArray) (p q : Nat) (hpq : p ≤ q) (hq : q < s.size) : (s.extract p (q + 1)).data.toList = (s.extract p q).data.toList ++ [s[q]'hq] := by
  rw [ext_list, ext_list, show q + 1 - p = (q - p) + 1 by omega, List.take_succ_eq_append_getElem (by simp; omega)]
  congr 2
  simp [List.getElem_drop, show p + (q - p) = q by omega]
  rfl
theorem byte_is {s : ByteArray} {c p : Nat} (h : isAt s c p = true) (hp : p < s.size) : s[p]'hp = UInt8.ofNat c := by
  simp [isAt] at h
  have h2 := h.2
  rw [← byt_at s p hp] at h2
  rw [← h2]
  exact UInt8.ofNat_toNat.symm
theorem quo_text (s : ByteArray) (p q : Nat) (h1 : isAt s 39 p = true) (h2 : isAt s 39 q = true) (hpq : p < q) : s.extract p (q + 1) = baL_r (39 :: ((s.extract (p + 1) q).data.toList ++ [39])) := by
  have hq := isAt_size h2
  have hp := isAt_size h1
  apply ByteArray.ext
  apply Array.toList_inj.1
  rw [baL_list_r, ext_cons s p (q + 1) (by omega) (by omega), ext_snoc s (p + 1) q (by omega) hq, byte_is h1, byte_is h2]
  rfl
end Go.Proofs.YtdmjbhbiehjelaaGreatDoor
/- The last sheet, corners that the reader reads. -/
namespace Go.Proofs.YtdmjbhbiehjelaaGreatDoor
open Go.RowKit Go.Shelf

theorem emp_yes (t : ByteArray) (h : t.size = 0) : t.toList.isEmpty = true := by
  rw [ByteArray.toList_eq]
  have : t.data.toList = [] := List.length_eq_zero_iff.1 (by simpa using h)
  rw [this]
  rfl
theorem toA_ok {s f t : ByteArray} {p q : Nat} (h : toA s f p = .ok (t, q)) : shA s p = .ok (t, q) ∧ (t.size = 0 ∨ f.size ≠ 0) := by
  unfold toA at h
  split at h
  · cases h
  · rename_i t' q' hs
    split at h
    · rename_i hc
      cases h
      exact ⟨hs, hc⟩
    · cases h
/-- A corner's cells in a block. -/
structure KAt (w : World) (B : Nat) (r c : Int) (x y : Bool) : Prop where
  o : w.heap[B]? = some (.cells #[.int .i64 r, .int .i64 c, .bool x, .bool y] 24 (0, 0))
theorem KAt.fr {S : Nat → Prop} {w w' : World} {B : Nat} {r c : Int} {x y : Bool} (h : KAt w B r c x y) (hF : Fr S w w') (hB : ¬ S B) : KAt w' B r c x y := ⟨hF.obj h.o hB⟩
section
variable {w : World} {B : Nat} {r c : Int} {x y : Bool} (h : KAt w B r c x y)
include h
theorem KAt.c0 : w.cell? ⟨B, 0, none⟩ = some (.int .i64 r) := cellOf (o := 0) h.o rfl
theorem KAt.c1 : w.cell? ⟨B, 1, none⟩ = some (.int .i64 c) := cellOf (o := 1) h.o rfl
theorem KAt.c2 : w.cell? ⟨B, 2, none⟩ = some (.bool x) := cellOf (o := 2) h.o rfl
theorem KAt.c3 : w.cell? ⟨B, 3, none⟩ = some (.bool y) := cellOf (o := 3) h.o rfl
theorem KAt.f : ∀ o, w.frozen? ⟨B, o, none⟩ = false := fun o => freeOf o h.o
theorem KAt.s0 (r' : Int) : KAt (w.setCell ⟨B, 0, none⟩ (.int .i64 r')) B r' c x y := ⟨setOf 0 _ h.o⟩
theorem KAt.s1 (c' : Int) : KAt (w.setCell ⟨B, 1, none⟩ (.int .i64 c')) B r c' x y := ⟨setOf 1 _ h.o⟩
theorem KAt.s2 (x' : Bool) : KAt (w.setCell ⟨B, 2, none⟩ (.bool x')) B r c x' y := ⟨setOf 2 _ h.o⟩
theorem KAt.s3 (y' : Bool) : KAt (w.setCell ⟨B, 3, none⟩ (.bool y')) B r c x y' := ⟨setOf 3 _ h.o⟩
end
theorem info_cor : (Tryz.prog.info? 24).map (·.size) = some 4 := by kernel_rfl
theorem kret {fn : Func} {p : Tmp} (h : fn.results = #[.cell p 24]) (tmps : Array Value) (w : World) (g : Nat) {r c : Int} {x y : Bool} (hp : tmps.getD p undef = .pointer (some ⟨g, 0, none⟩)) (hv : KAt w g r c x y) :
    (results fn tmps).run Tryz.prog w = .ok (.agg #[.int .i64 r, .int .i64 c, .bool x, .bool y]) w :=
  results_cell_row h tmps w g 24 _ (0, 0) _ hp hv.o Tryz.underlying24 rfl info_cor
theorem KAt.setO {w : World} {B : Nat} {r c : Int} {x y : Bool} (h : KAt w B r c x y) (b o : Nat) (v : Value) (hb : B ≠ b) : KAt (w.setCell ⟨b, o, none⟩ v) B r c x y := ⟨(Below.heap_setCell _ _ _ _ hb).trans h.o⟩
theorem Fr.one {w W W2 : World} {rb b : Nat} (h : Fr (oneB rb) w W) (hb : w.heap.size ≤ b) (o : Nat) (v : Value) (hF : Fr (oneB rb) (W.setCell ⟨b, o, none⟩ v) W2) : Fr (oneB rb) w W2 := (h.setCell ⟨b, o, none⟩ (Or.inr hb) v).trans hF

end Go.Proofs.YtdmjbhbiehjelaaGreatDoor
/- A reference in memory; the reader reads a whole reference. -/
namespace Go.Proofs.YtdmjbhbiehjelaaGreatDoor
open Go.RowKit Go.Shelf

/-- A reference's cells in a block. -/
structure RAt (w : World) (B : Nat) (t u : ByteArray) (fx ar : Bool) (r1 c1 : Int) (x1 y1 : Bool) (r2 c2 : Int) (x2 y2 : Bool) : Prop where
  o : w.heap[B]? = some (.cells #[.string t, .string u, .bool fx, .bool ar, .int .i64 r1, .int .i64 c1, .bool x1, .bool y1, .int .i64 r2, .int .i64 c2, .bool x2, .bool y2] 26 (0, 0))
theorem RAt.fr {S : Nat → Prop} {w w' : World} {B : Nat} {t u : ByteArray} {fx ar : Bool} {r1 c1 : Int} {x1 y1 : Bool} {r2 c2 : Int} {x2 y2 : Bool} (h : RAt w B t u fx ar r1 c1 x1 y1 r2 c2 x2 y2) (hF : Fr S w w') (hB : ¬ S B) : RAt w' B t u fx ar r1 c1 x1 y1 r2 c2 x2 y2 := ⟨hF.obj h.o hB⟩
theorem RAt.setO {w : World} {B : Nat} {t u : ByteArray} {fx ar : Bool} {r1 c1 : Int} {x1 y1 : Bool} {r2 c2 : Int} {x2 y2 : Bool} (h : RAt w B t u fx ar r1 c1 x1 y1 r2 c2 x2 y2) (b o : Nat) (v : Value) (hb : B ≠ b) : RAt (w.setCell ⟨b, o, none⟩ v) B t u fx ar r1 c1 x1 y1 r2 c2 x2 y2 := ⟨(Below.heap_setCell _ _ _ _ hb).trans h.o⟩
section
variable {w : World} {B : Nat} {t u : ByteArray} {fx ar : Bool} {r1 c1 : Int} {x1 y1 : Bool} {r2 c2 : Int} {x2 y2 : Bool} (h : RAt w B t u fx ar r1 c1 x1 y1 r2 c2 x2 y2)
include h
theorem RAt.g0 : w.cell? ⟨B, 0, none⟩ = some (.string t) := cellOf (o := 0) h.o rfl
theorem RAt.g1 : w.cell? ⟨B, 1, none⟩ = some (.string u) := cellOf (o := 1) h.o rfl
theorem RAt.g2 : w.cell? ⟨B, 2, none⟩ = some (.bool fx) := cellOf (o := 2) h.o rfl
theorem RAt.g3 : w.cell? ⟨B, 3, none⟩ = some (.bool ar) := cellOf (o := 3) h.o rfl
theorem RAt.g4 : w.cell? ⟨B, 4, none⟩ = some (.int .i64 r1) := cellOf (o := 4) h.o rfl
theorem RAt.g5 : w.cell? ⟨B, 5, none⟩ = some (.int .i64 c1) := cellOf (o := 5) h.o rfl
theorem RAt.g6 : w.cell? ⟨B, 6, none⟩ = some (.bool x1) := cellOf (o := 6) h.o rfl
theorem RAt.g7 : w.cell? ⟨B, 7, none⟩ = some (.bool y1) := cellOf (o := 7) h.o rfl
theorem RAt.g8 : w.cell? ⟨B, 8, none⟩ = some (.int .i64 r2) := cellOf (o := 8) h.o rfl
theorem RAt.g9 : w.cell? ⟨B, 9, none⟩ = some (.int .i64 c2) := cellOf (o := 9) h.o rfl
theorem RAt.g10 : w.cell? ⟨B, 10, none⟩ = some (.bool x2) := cellOf (o := 10) h.o rfl
theorem RAt.g11 : w.cell? ⟨B, 11, none⟩ = some (.bool y2) := cellOf (o := 11) h.o rfl
theorem RAt.f : ∀ o, w.frozen? ⟨B, o, none⟩ = false := fun o => freeOf o h.o
theorem RAt.s0 (v : ByteArray) : RAt (w.setCell ⟨B, 0, none⟩ (.string v)) B v u fx ar r1 c1 x1 y1 r2 c2 x2 y2 := ⟨setOf 0 _ h.o⟩
theorem RAt.s1 (v : ByteArray) : RAt (w.setCell ⟨B, 1, none⟩ (.string v)) B t v fx ar r1 c1 x1 y1 r2 c2 x2 y2 := ⟨setOf 1 _ h.o⟩
theorem RAt.s2 (v : Bool) : RAt (w.setCell ⟨B, 2, none⟩ (.bool v)) B t u v ar r1 c1 x1 y1 r2 c2 x2 y2 := ⟨setOf 2 _ h.o⟩
theorem RAt.s3 (v : Bool) : RAt (w.setCell ⟨B, 3, none⟩ (.bool v)) B t u fx v r1 c1 x1 y1 r2 c2 x2 y2 := ⟨setOf 3 _ h.o⟩
theorem RAt.s4 (v : Int) : RAt (w.setCell ⟨B, 4, none⟩ (.int .i64 v)) B t u fx ar v c1 x1 y1 r2 c2 x2 y2 := ⟨setOf 4 _ h.o⟩
theorem RAt.s5 (v : Int) : RAt (w.setCell ⟨B, 5, none⟩ (.int .i64 v)) B t u fx ar r1 v x1 y1 r2 c2 x2 y2 := ⟨setOf 5 _ h.o⟩
theorem RAt.s6 (v : Bool) : RAt (w.setCell ⟨B, 6, none⟩ (.bool v)) B t u fx ar r1 c1 v y1 r2 c2 x2 y2 := ⟨setOf 6 _ h.o⟩
theorem RAt.s7 (v : Bool) : RAt (w.setCell ⟨B, 7, none⟩ (.bool v)) B t u fx ar r1 c1 x1 v r2 c2 x2 y2 := ⟨setOf 7 _ h.o⟩
theorem RAt.s8 (v : Int) : RAt (w.setCell ⟨B, 8, none⟩ (.int .i64 v)) B t u fx ar r1 c1 x1 y1 v c2 x2 y2 := ⟨setOf 8 _ h.o⟩
theorem RAt.s9 (v : Int) : RAt (w.setCell ⟨B, 9, none⟩ (.int .i64 v)) B t u fx ar r1 c1 x1 y1 r2 v x2 y2 := ⟨setOf 9 _ h.o⟩
theorem RAt.s10 (v : Bool) : RAt (w.setCell ⟨B, 10, none⟩ (.bool v)) B t u fx ar r1 c1 x1 y1 r2 c2 v y2 := ⟨setOf 10 _ h.o⟩
theorem RAt.s11 (v : Bool) : RAt (w.setCell ⟨B, 11, none⟩ (.bool v)) B t u fx ar r1 c1 x1 y1 r2 c2 x2 v := ⟨setOf 11 _ h.o⟩
end
theorem info_ref : (Tryz.prog.info? 26).map (·.size) = some 12 := by kernel_rfl
theorem rret {fn : Func} {p : Tmp} (h : fn.results = #[.cell p 26]) (tmps : Array Value) (w : World) (g : Nat) {t u : ByteArray} {fx ar : Bool} {r1 c1 : Int} {x1 y1 : Bool} {r2 c2 : Int} {x2 y2 : Bool} (hp : tmps.getD p undef = .pointer (some ⟨g, 0, none⟩)) (hv : RAt w g t u fx ar r1 c1 x1 y1 r2 c2 x2 y2) :
    (results fn tmps).run Tryz.prog w = .ok (.agg #[.string t, .string u, .bool fx, .bool ar, .int .i64 r1, .int .i64 c1, .bool x1, .bool y1, .int .i64 r2, .int .i64 c2, .bool x2, .bool y2]) w :=
  results_cell_row h tmps w g 26 _ (0, 0) _ hp hv.o Tryz.underlying26 rfl info_ref
theorem two_refs (w : World) : RAt ((w.alloc (.cells #[.string ⟨#[]⟩, .string ⟨#[]⟩, .bool false, .bool false, .int .i64 0, .int .i64 0, .bool false, .bool false, .int .i64 0, .int .i64 0, .bool false, .bool false] 26 (0, 0))).alloc (.cells #[.string ⟨#[]⟩, .string ⟨#[]⟩, .bool false, .bool false, .int .i64 0, .int .i64 0, .bool false, .bool false, .int .i64 0, .int .i64 0, .bool false, .bool false] 26 (0, 0))) w.heap.size ⟨#[]⟩ ⟨#[]⟩ false false 0 0 false false 0 0 false false ∧ RAt ((w.alloc (.cells #[.string ⟨#[]⟩, .string ⟨#[]⟩, .bool false, .bool false, .int .i64 0, .int .i64 0, .bool false, .bool false, .int .i64 0, .int .i64 0, .bool false, .bool false] 26 (0, 0))).alloc (.cells #[.string ⟨#[]⟩, .string ⟨#[]⟩, .bool false, .bool false, .int .i64 0, .int .i64 0, .bool false, .bool false, .int .i64 0, .int .i64 0, .bool false, .bool false] 26 (0, 0))) (w.heap.size + 1) ⟨#[]⟩ ⟨#[]⟩ false false 0 0 false false 0 0 false false :=
  ⟨⟨(Below.heap_alloc _ _ _ (by simp)).trans (heap_alloc_new w _)⟩, ⟨by
    have e := heap_alloc_new (w.alloc (.cells #[.string ⟨#[]⟩, .string ⟨#[]⟩, .bool false, .bool false, .int .i64 0, .int .i64 0, .bool false, .bool false, .int .i64 0, .int .i64 0, .bool false, .bool false] 26 (0, 0))) (.cells #[.string ⟨#[]⟩, .string ⟨#[]⟩, .bool false, .bool false, .int .i64 0, .int .i64 0, .bool false, .bool false, .int .i64 0, .int .i64 0, .bool false, .bool false] 26 (0, 0))
    rwa [World.size_alloc] at e⟩⟩
theorem RAt.all {w : World} {B : Nat} {t0 u0 : ByteArray} {f0 a0 : Bool} {r0 c0 : Int} {x0 y0 : Bool} {r9 c9 : Int} {x9 y9 : Bool} (h : RAt w B t0 u0 f0 a0 r0 c0 x0 y0 r9 c9 x9 y9) (t u : ByteArray) (fx ar : Bool) (r1 c1 : Int) (x1 y1 : Bool) (r2 c2 : Int) (x2 y2 : Bool) : RAt ((((((((((((w.setCell ⟨B, 0, none⟩ (.string t)).setCell ⟨B, 1, none⟩ (.string u)).setCell ⟨B, 2, none⟩ (.bool fx)).setCell ⟨B, 3, none⟩ (.bool ar)).setCell ⟨B, 4, none⟩ (.int .i64 r1)).setCell ⟨B, 5, none⟩ (.int .i64 c1)).setCell ⟨B, 6, none⟩ (.bool x1)).setCell ⟨B, 7, none⟩ (.bool y1)).setCell ⟨B, 8, none⟩ (.int .i64 r2)).setCell ⟨B, 9, none⟩ (.int .i64 c2)).setCell ⟨B, 10, none⟩ (.bool x2)).setCell ⟨B, 11, none⟩ (.bool y2)) B t u fx ar r1 c1 x1 y1 r2 c2 x2 y2 :=
  ((((((((((((h.s0 t).s1 u).s2 fx).s3 ar).s4 r1).s5 c1).s6 x1).s7 y1).s8 r2).s9 c2).s10 x2).s11 y2)
theorem Fr.all {S : Nat → Prop} {a w : World} {B : Nat} (h : Fr S a w) (hB : S B ∨ a.heap.size ≤ B) (t u : ByteArray) (fx ar : Bool) (r1 c1 : Int) (x1 y1 : Bool) (r2 c2 : Int) (x2 y2 : Bool) : Fr S a ((((((((((((w.setCell ⟨B, 0, none⟩ (.string t)).setCell ⟨B, 1, none⟩ (.string u)).setCell ⟨B, 2, none⟩ (.bool fx)).setCell ⟨B, 3, none⟩ (.bool ar)).setCell ⟨B, 4, none⟩ (.int .i64 r1)).setCell ⟨B, 5, none⟩ (.int .i64 c1)).setCell ⟨B, 6, none⟩ (.bool x1)).setCell ⟨B, 7, none⟩ (.bool y1)).setCell ⟨B, 8, none⟩ (.int .i64 r2)).setCell ⟨B, 9, none⟩ (.int .i64 c2)).setCell ⟨B, 10, none⟩ (.bool x2)).setCell ⟨B, 11, none⟩ (.bool y2)) :=
  ((((((((((((h.setCell ⟨B, 0, none⟩ hB _).setCell ⟨B, 1, none⟩ hB _).setCell ⟨B, 2, none⟩ hB _).setCell ⟨B, 3, none⟩ hB _).setCell ⟨B, 4, none⟩ hB _).setCell ⟨B, 5, none⟩ hB _).setCell ⟨B, 6, none⟩ hB _).setCell ⟨B, 7, none⟩ hB _).setCell ⟨B, 8, none⟩ hB _).setCell ⟨B, 9, none⟩ hB _).setCell ⟨B, 10, none⟩ hB _).setCell ⟨B, 11, none⟩ hB _)
theorem heap_all (w : World) (B k : Nat) (h : k ≠ B) (t u : ByteArray) (fx ar : Bool) (r1 c1 : Int) (x1 y1 : Bool) (r2 c2 : Int) (x2 y2 : Bool) : ((((((((((((w.setCell ⟨B, 0, none⟩ (.string t)).setCell ⟨B, 1, none⟩ (.string u)).setCell ⟨B, 2, none⟩ (.bool fx)).setCell ⟨B, 3, none⟩ (.bool ar)).setCell ⟨B, 4, none⟩ (.int .i64 r1)).setCell ⟨B, 5, none⟩ (.int .i64 c1)).setCell ⟨B, 6, none⟩ (.bool x1)).setCell ⟨B, 7, none⟩ (.bool y1)).setCell ⟨B, 8, none⟩ (.int .i64 r2)).setCell ⟨B, 9, none⟩ (.int .i64 c2)).setCell ⟨B, 10, none⟩ (.bool x2)).setCell ⟨B, 11, none⟩ (.bool y2)).heap[k]? = w.heap[k]? := by
  rw [Below.heap_setCell _ _ _ _ h, Below.heap_setCell _ _ _ _ h, Below.heap_setCell _ _ _ _ h, Below.heap_setCell _ _ _ _ h, Below.heap_setCell _ _ _ _ h, Below.heap_setCell _ _ _ _ h, Below.heap_setCell _ _ _ _ h, Below.heap_setCell _ _ _ _ h, Below.heap_setCell _ _ _ _ h, Below.heap_setCell _ _ _ _ h, Below.heap_setCell _ _ _ _ h, Below.heap_setCell _ _ _ _ h]
#print axioms two_refs
end Go.Proofs.YtdmjbhbiehjelaaGreatDoor
/- The reader reads a whole reference, and all is well. -/
namespace Go.Proofs.YtdmjbhbiehjelaaGreatDoor
open Go.RowKit Go.Shelf
end Go.Proofs.YtdmjbhbiehjelaaGreatDoor
