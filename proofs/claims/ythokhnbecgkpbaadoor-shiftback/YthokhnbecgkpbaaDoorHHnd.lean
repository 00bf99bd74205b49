/- Words for a drawn region walked by hand. -/
import Derived.Test.YthokhnbecgkpbaaDoorHChg
import Derived.Deep.RegionHeld
import Derived.Laws.Tables
namespace Go.Proofs.YthokhnbecgkpbaaDoor
open Go.RowKit

theorem fr_toH {Q : Exit → Act → World → Prop} {a : Act} {w : World} (b : Act) (h : a = b) (hq : Q .normal b w) : Q .normal a w := by
  rw [h]
  exact hq
theorem ite_inH {c : Prop} {i : Decidable c} {A B : Prop} (h : c) (a : A) : @ite Prop c i A B := by rw [if_pos h]; exact a
section
variable {P : Program} {ops : Array Oper} {S : World → Prop} {op : Oper} {a : Act}
theorem y_loadH (ty : TypeId) (x : Operand) (p v : Value) (hw : Region.wanted op (yielded ops a.tmps) = true) (ho : op.op = .load ty x) (hx : a.eval x = p) (hS : ∀ w, S w → (Instr.loadAt ty p).run Tryd.prog w = .ok v w) : YieldsIf Tryd.prog ops S op v a :=
  .inl ⟨hw, fun w hw' => by
    unfold execOp
    simp only [ho, hx, Sem.run_bind, Sem.run_pure, hS w hw', Result.andThen_ok]⟩
theorem wp_goH {w : World} {next : Act → World → Prop} {Q : Exit → Act → World → Prop} (f : FuncId) (args : Array Value) (h : (execOp a.eval op).run P w = .ok (.enter f args) w)
    (hc : Calls P f args w fun e w'' => match e, w'' with
      | .returned v, w'' => next (a.put op.dst v) w''
      | .panicked chain, w'' => Q (.panic chain) a w''
      | .outgrown, _ => LetsOut Q) : Oper.wp P op a w next Q := by
  unfold Oper.wp
  rw [h]
  exact hc
theorem wp_storeH {o : Oper} {a : Act} {w : World} {K : Act → World → Prop} {Q : Exit → Act → World → Prop} (ty : TypeId) (x y : Operand) (ho : o.op = .store ty x y)
    (g : Nat) (cells : Array Value) (hx : a.eval x = .pointer (some ⟨g, 0, none⟩)) (hy : a.eval y = .agg cells)
    (t : TypeId) (old : Array Value) (hg : w.heap[g]? = some (.cells old t (0, 0))) (hi : (P.info? ty).map (·.size) = some cells.size)
    (hold : old.size = cells.size) (h1 : cells.all (·.oneCell') = true)
    (h : ∀ w', w' = w.setRow g cells → w'.heap[g]? = some (.cells cells t (0, 0)) → K (a.put o.dst undef) w') : Oper.wp P o a w K Q :=
  wp_store_row ty x y ho g cells hx hy t old hg hi hold h1 (h _ rfl (setRow_heap _ _ _ _ _ _ hg))
end
theorem load_x {w : World} {B : Nat} {K : Int} {sh : ByteArray} {At N : Int} {nm : ByteArray} (h : XAt w B K sh At N nm) : (Instr.loadAt 24 (.pointer (some ⟨B, 0, none⟩))).run Tryd.prog w = .ok (.agg #[.int .i64 K, .string sh, .int .i64 At, .int .i64 N, .string nm]) w := by
  have hu := Tryd.underlying24
  have h0 := h.c0; have h1 := h.c1; have h2 := h.c2; have h3 := h.c3; have h4 := h.c4
  simp [go_sem, h0, h1, h2, h3, h4]
theorem load_s {w : World} {b o : Nat} {v : Value} (h : w.cell? ⟨b, o, none⟩ = some v) : (Instr.loadAt 9 (.pointer (some ⟨b, o, none⟩))).run Tryd.prog w = .ok v w := by
  have hu := Tryd.underlying9
  simp [go_sem, h]
theorem load_r {w : World} {B : Nat} {t u : ByteArray} {fx ar : Bool} {r1 c1 : Int} {x1 y1 : Bool} {r2 c2 : Int} {x2 y2 : Bool} (h : RAt w B t u fx ar r1 c1 x1 y1 r2 c2 x2 y2) : (Instr.loadAt 46 (.pointer (some ⟨B, 0, none⟩))).run Tryd.prog w = .ok (.agg #[.string t, .string u, .bool fx, .bool ar, .int .i64 r1, .int .i64 c1, .bool x1, .bool y1, .int .i64 r2, .int .i64 c2, .bool x2, .bool y2]) w := by
  have hu := Tryd.underlying46
  have g0 := h.g0; have g1 := h.g1; have g2 := h.g2; have g3 := h.g3; have g4 := h.g4; have g5 := h.g5; have g6 := h.g6; have g7 := h.g7; have g8 := h.g8; have g9 := h.g9; have g10 := h.g10; have g11 := h.g11
  simp [go_sem, g0, g1, g2, g3, g4, g5, g6, g7, g8, g9, g10, g11]
theorem XAt.row {w : World} {B g : Nat} {K : Int} {sh : ByteArray} {At N : Int} {nm : ByteArray} (h : XAt w B K sh At N nm) (hb : B ≠ g) (cs : Array Value) : XAt (w.setRow g cs) B K sh At N nm := ⟨(setRow_other w g B cs hb).trans h.o⟩
#print axioms load_r
end Go.Proofs.YthokhnbecgkpbaaDoor
