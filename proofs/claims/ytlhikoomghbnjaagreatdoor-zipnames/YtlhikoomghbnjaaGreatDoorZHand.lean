/- Operations of a region that draws its order, taken by hand: for great frames. -/
import Derived.Test.YtlhikoomghbnjaaGreatDoorZBas
import Derived.Deep.MidRow
import Derived.Maps.AppendAt
namespace Go.Proofs.YtlhikoomghbnjaaGreatDoor
open Go.RowKit

theorem load24 (w : World) (b o : Nat) (v : Value) (h : w.cell? ⟨b, o, none⟩ = some v) : (Instr.loadAt 24 (.pointer (some ⟨b, o, none⟩))).run Tryz.prog w = .ok v w := by
  have hu := Tryz.underlying24
  simp [go_sem, h]
theorem load9 (w : World) (b o : Nat) (v : Value) (h : w.cell? ⟨b, o, none⟩ = some v) : (Instr.loadAt 9 (.pointer (some ⟨b, o, none⟩))).run Tryz.prog w = .ok v w := by
  have hu := Tryz.underlying9
  simp [go_sem, h]
theorem load27 (w : World) (b o : Nat) (v : Value) (h : w.cell? ⟨b, o, none⟩ = some v) : (Instr.loadAt 27 (.pointer (some ⟨b, o, none⟩))).run Tryz.prog w = .ok v w := by
  have hu := Tryz.underlying27
  simp [go_sem, h]
theorem load78 (w : World) (b o : Nat) (v : Value) (h : w.cell? ⟨b, o, none⟩ = some v) : (Instr.loadAt 65 (.pointer (some ⟨b, o, none⟩))).run Tryz.prog w = .ok v w := by
  have hu := Tryz.underlying65
  simp [go_sem, h]
theorem store27 (w : World) (b o : Nat) (ao : Option Addr) (n c : Nat) (u : Value) (h : w.cell? ⟨b, o, none⟩ = some u) (hz : w.frozen? ⟨b, o, none⟩ = false) : (Instr.storeAt 27 (.pointer (some ⟨b, o, none⟩)) (.slice ao n c)).run Tryz.prog w = .ok () (w.setCell ⟨b, o, none⟩ (.slice ao n c)) := by
  have hu := Tryz.underlying27
  simp [go_sem, h, hz]
section
variable {P : Program} {ops : Array Oper} {S : World → Prop} {op : Oper} {a : Act}
theorem y_load24 (x : Operand) (b o : Nat) (v : Value) (hw : Region.wanted op (yielded ops a.tmps) = true) (ho : op.op = .load 24 x) (hx : a.eval x = .pointer (some ⟨b, o, none⟩)) (hS : ∀ w, S w → w.cell? ⟨b, o, none⟩ = some v) : YieldsIf Tryz.prog ops S op v a :=
  .inl ⟨hw, fun w hw' => by
    unfold execOp
    simp only [ho, hx, Sem.run_bind, Sem.run_pure, load24 w b o v (hS w hw'), Result.andThen_ok]⟩
theorem y_loadOf (ty : TypeId) (hl : ∀ w b o v, w.cell? ⟨b, o, none⟩ = some v → (Instr.loadAt ty (.pointer (some ⟨b, o, none⟩))).run Tryz.prog w = .ok v w) (x : Operand) (b o : Nat) (v : Value) (hw : Region.wanted op (yielded ops a.tmps) = true) (ho : op.op = .load ty x) (hx : a.eval x = .pointer (some ⟨b, o, none⟩)) (hS : ∀ w, S w → w.cell? ⟨b, o, none⟩ = some v) : YieldsIf Tryz.prog ops S op v a :=
  .inl ⟨hw, fun w hw' => by
    unfold execOp
    simp only [ho, hx, Sem.run_bind, Sem.run_pure, hl w b o v (hS w hw'), Result.andThen_ok]⟩
theorem y_eql (x y : Operand) (t t2 : TypeId) (k : IntKind) (n : Int) (hw : Region.wanted op (yielded ops a.tmps) = true) (ho : op.op = .binOp .eql t x y t2) (hx : a.eval x = .int k n) (hy : a.eval y = .int k n) : YieldsIf P ops S op (.bool true) a :=
  .inl ⟨hw, fun w _ => by
    unfold execOp
    simp only [ho, hx, hy]
    simp [go_sem]⟩
/-- A call of a Go function that is named. -/
theorem wp_go {w : World} {next : Act → World → Prop} {Q : Exit → Act → World → Prop} (f : FuncId) (args : Array Value) (h : (execOp a.eval op).run P w = .ok (.enter f args) w)
    (hc : Calls P f args w fun e w'' => match e, w'' with
      | .returned v, w'' => next (a.put op.dst v) w''
      | .panicked chain, w'' => Q (.panic chain) a w''
      | .outgrown, _ => LetsOut Q) : Oper.wp P op a w next Q := by
  unfold Oper.wp
  rw [h]
  exact hc
theorem wp_val {w w' : World} {next : Act → World → Prop} {Q : Exit → Act → World → Prop} (v : Value) (h : (execOp a.eval op).run P w = .ok (.value v) w') (hn : next (a.put op.dst v) w') : Oper.wp P op a w next Q := by
  unfold Oper.wp
  rw [h]
  exact hn
theorem wp_loadOf {w : World} {next : Act → World → Prop} {Q : Exit → Act → World → Prop} (ty : TypeId) (hl : ∀ w b o v, w.cell? ⟨b, o, none⟩ = some v → (Instr.loadAt ty (.pointer (some ⟨b, o, none⟩))).run Tryz.prog w = .ok v w) (x : Operand) (b o : Nat) (v : Value) (ho : op.op = .load ty x) (hx : a.eval x = .pointer (some ⟨b, o, none⟩)) (hc : w.cell? ⟨b, o, none⟩ = some v) (h : next (a.put op.dst v) w) : Oper.wp Tryz.prog op a w next Q := by
  unfold Oper.wp execOp
  simp only [ho, hx, Sem.run_bind, Sem.run_pure, hl w b o v hc, Result.andThen_ok]
  exact h
theorem wp_append {w : World} {next : Act → World → Prop} {Q : Exit → Act → World → Prop} (s x : Operand) (t : TypeId)
    (ho : op.op = .call { callee := .builtin .append, args := #[s, x], argTypes := #[t, t] })
    (base : Nat) (e : TypeId) (i : TypeInfo) (z : Value) (size bytes : Nat) (ht : P.underlying t = some (.slice e)) (hi : P.info? e = some i) (hz : i.zero = some z)
    (hsize : i.size = size) (hby : i.bytes = bytes) (hzs : z.cells.size = size) (hsz : 0 < size)
    (v : Value) (n : Nat) (xs : List Value) (hs : a.eval s = v) (hown : w.ownsRow base e size v n xs)
    (ad : Addr) (m c : Nat) (news : List Value) (hx : a.eval x = .slice (some ad) m c) (hl : news.length = m * size) (hnews : ∀ j u, news[j]? = some u → w.cell? (ad.add j) = some u) (h1 : ∀ u ∈ news, u.oneCell' = true)
    (h63 : n + m ≤ maxLen) (hbytes : (n + m) * bytes ≤ 140737488355328) (hbase : base ≤ w.heap.size)
    (h : ∀ v' w', w'.ownsRow base e size v' (n + m) (xs ++ news) → w.grownBy w' v.ownBlock → (v'.ownBlock = v.ownBlock ∨ v'.ownBlock = some w.heap.size) → next (a.put op.dst v') w') : Oper.wp P op a w next Q := by
  obtain ⟨v', w', hr, h2, h3, _, h5⟩ := run_append_own_at (P := P) w base t op.type e i z size bytes ht hi hz hsize hby hzs hsz v n xs hown ad m c news hl hnews h1 h63 hbytes hbase
  unfold Oper.wp execOp
  simp only [ho, resolve, invoke, builtin, Sem.run_bind, Sem.run_pure, Result.andThen_ok, List.map_toArray, List.map_cons, List.map_nil, hs, hx, hr]
  exact h v' w' h2 h3 h5
theorem wp_store27 {w : World} {next : Act → World → Prop} {Q : Exit → Act → World → Prop} (p x : Operand) (b o : Nat) (ao : Option Addr) (n c : Nat) (u : Value) (ho : op.op = .store 27 p x) (hp : a.eval p = .pointer (some ⟨b, o, none⟩)) (hx : a.eval x = .slice ao n c) (hc : w.cell? ⟨b, o, none⟩ = some u) (hz : w.frozen? ⟨b, o, none⟩ = false) (h : next (a.put op.dst undef) (w.setCell ⟨b, o, none⟩ (.slice ao n c))) : Oper.wp Tryz.prog op a w next Q := by
  unfold Oper.wp execOp
  simp only [ho, hp, hx, Sem.run_bind, Sem.run_pure, store27 w b o ao n c u hc hz, Result.andThen_ok]
  exact h
end
theorem anyH_to {P : Program} {md : Region.Mode} {ops : Array Oper} {S : World → Prop} {Q : Exit → Act → World → Prop} {fuel : Nat} {listed : Array Bool} {a : Act} {w : World} (b : Act) (h : a = b) (hq : wpAnyH P md ops Q S fuel listed b w) : wpAnyH P md ops Q S fuel listed a w := by
  rw [h]
  exact hq
theorem frame_to {Q : Exit → Act → World → Prop} {a : Act} {w : World} (b : Act) (h : a = b) (hq : Q .normal b w) : Q .normal a w := by
  rw [h]
  exact hq
#print axioms y_eql
end Go.Proofs.YtlhikoomghbnjaaGreatDoor
