/- Words for a drawn region walked by hand. -/
import Derived.Test.YtaobnfjkggpdlaaGreatDoorAVal
import Derived.Deep.RegionHeld
import Derived.Deep.DeepCutAuto
namespace Go.Proofs.YtaobnfjkggpdlaaGreatDoor
open Go.RowKit

theorem fr_toH {Q : Exit → Act → World → Prop} {a : Act} {w : World} (b : Act) (h : a = b) (hq : Q .normal b w) : Q .normal a w := by
  rw [h]
  exact hq
theorem ite_inH {c : Prop} {i : Decidable c} {A B : Prop} (h : c) (a : A) : @ite Prop c i A B := by rw [if_pos h]; exact a
section
variable {P : Program} {ops : Array Oper} {S : World → Prop} {op : Oper} {a : Act}
theorem y_loadH (ty : TypeId) (x : Operand) (p v : Value) (hw : Region.wanted op (yielded ops a.tmps) = true) (ho : op.op = .load ty x) (hx : a.eval x = p) (hS : ∀ w, S w → (Instr.loadAt ty p).run Tryz.prog w = .ok v w) : YieldsIf Tryz.prog ops S op v a :=
  .inl ⟨hw, fun w hw' => by
    unfold execOp
    simp only [ho, hx, Sem.run_bind, Sem.run_pure, hS w hw', Result.andThen_ok]⟩
theorem wp_goH {w : World} {next : Act → World → Prop} {Q : Exit → Act → World → Prop} (f : FuncId) (args : Array Value) (h : (execOp a.eval op).run P w = .ok (.enter f args) w)
    (hc : Calls P f args w fun e w'' => match e, w'' with
      | .returned v, w'' => next (a.put op.dst v) w''
      | .panicked chain, w'' => Q (.panic chain) a w''
      | .outgrown, _ => LetsOut Q) : Oper.wp P op a w next Q := by
  unfold Oper.wp
  rw [h]
  exact hc
theorem wp_valH {w w' : World} {next : Act → World → Prop} {Q : Exit → Act → World → Prop} (v : Value) (h : (execOp a.eval op).run P w = .ok (.value v) w') (hn : next (a.put op.dst v) w') : Oper.wp P op a w next Q := by
  unfold Oper.wp
  rw [h]
  exact hn
theorem wp_storeV {o : Oper} {a : Act} {w : World} {K : Act → World → Prop} {Q : Exit → Act → World → Prop} (x y : Operand) (ho : o.op = .store 43 x y)
    (g : Nat) (k : Int) (n : Nat) (s : ByteArray) (y' : Bool) (e : Int) (hx : a.eval x = .pointer (some ⟨g, 0, none⟩)) (hy : a.eval y = (.agg #[.int .i64 k, .float .f64 n, .string s, .bool y', .int .i64 e]))
    {k0 : Int} {n0 : Nat} {s0 : ByteArray} {y0 : Bool} {e0 : Int} (hO : VAt w g k0 n0 s0 y0 e0)
    (h : ∀ W, VAt W g k n s y' e → Fr (oneB g) w W → K (a.put o.dst undef) W) : Oper.wp Tryz.prog o a w K Q :=
  wp_store_row 43 x y ho g #[.int .i64 k, .float .f64 n, .string s, .bool y', .int .i64 e] hx hy 43 _ hO.o info_val rfl (val_one _ _ _ _ _)
    (h _ ⟨setRow_heap _ _ _ _ _ _ hO.o⟩ ⟨rfl, rfl, rfl, by simp [World.setRow], fun k hk hs => setRow_other _ _ _ _ hs⟩)
end
theorem load_v {w : World} {B : Nat} {k : Int} {n : Nat} {s : ByteArray} {y : Bool} {e : Int} (h : VAt w B k n s y e) : (Instr.loadAt 43 (.pointer (some ⟨B, 0, none⟩))).run Tryz.prog w = .ok (.agg #[.int .i64 k, .float .f64 n, .string s, .bool y, .int .i64 e]) w := by
  have hu := Tryz.underlying43
  have h0 := h.c0; have h1 := h.c1; have h2 := h.c2; have h3 := h.c3; have h4 := h.c4
  simp [go_sem, h0, h1, h2, h3, h4]
#print axioms load_v
end Go.Proofs.YtaobnfjkggpdlaaGreatDoor
