/- A sign that must stand there and does not. -/
import Derived.Test.YtiokbpknaldbaaaDoorRRow
import Derived.Deep.RegionHeld3
import Derived.Deep.MidRow
namespace Go.Proofs.YtiokbpknaldbaaaDoor
open Go.RowKit Go.Shelf

theorem load_int (w : World) (b o : Nat) (v : Value) (h : w.cell? ⟨b, o, none⟩ = some v) : (Instr.loadAt 3 (.pointer (some ⟨b, o, none⟩))).run Tryd.prog w = .ok v w := by
  have hu := Tryd.underlying3
  simp [go_sem, h]
theorem load_str (w : World) (b o : Nat) (v : Value) (h : w.cell? ⟨b, o, none⟩ = some v) : (Instr.loadAt 9 (.pointer (some ⟨b, o, none⟩))).run Tryd.prog w = .ok v w := by
  have hu := Tryd.underlying9
  simp [go_sem, h]
theorem load_boo (w : World) (b o : Nat) (v : Value) (h : w.cell? ⟨b, o, none⟩ = some v) : (Instr.loadAt 4 (.pointer (some ⟨b, o, none⟩))).run Tryd.prog w = .ok v w := by
  have hu := Tryd.underlying4
  simp [go_sem, h]
section
variable {P : Program} {ops : Array Oper} {S : World → Prop} {op : Oper} {a : Act}
theorem y_loadOf (ty : TypeId) (hl : ∀ w b o v, w.cell? ⟨b, o, none⟩ = some v → (Instr.loadAt ty (.pointer (some ⟨b, o, none⟩))).run Tryd.prog w = .ok v w) (x : Operand) (b o : Nat) (v : Value) (hw : Region.wanted op (yielded ops a.tmps) = true) (ho : op.op = .load ty x) (hx : a.eval x = .pointer (some ⟨b, o, none⟩)) (hS : ∀ w, S w → w.cell? ⟨b, o, none⟩ = some v) : YieldsIf Tryd.prog ops S op v a :=
  .inl ⟨hw, fun w hw' => by
    unfold execOp
    simp only [ho, hx, Sem.run_bind, Sem.run_pure, hl w b o v (hS w hw'), Result.andThen_ok]⟩
/-- A call of a Go function that is named. -/
theorem wp_go {w : World} {next : Act → World → Prop} {Q : Exit → Act → World → Prop} (f : FuncId) (args : Array Value) (h : (execOp a.eval op).run P w = .ok (.enter f args) w)
    (hc : Calls P f args w fun e w'' => match e, w'' with
      | .returned v, w'' => next (a.put op.dst v) w''
      | .panicked chain, w'' => Q (.panic chain) a w''
      | .outgrown, _ => LetsOut Q) : Oper.wp P op a w next Q := by
  unfold Oper.wp
  rw [h]
  exact hc
end
set_option maxRecDepth 100000 in
set_option maxHeartbeats 4000000 in
theorem need_no (rb : Nat) (s : ByteArray) (c p : Nat) (hc : c < 256) (w : World) (h : RdAt w rb s p) (hp : p ≤ s.size) (hz : s.size ≤ 140737488355328) (hi : isAt s c p = false) :
    Calls Tryd.prog 31 #[.pointer (some ⟨rb, 0, none⟩), .string ⟨#[UInt8.ofNat c]⟩] w fun e w' => e = thr p 110 ∧ Fr (oneB rb) w w' := by
  have HS : Hid (∀ W, RdAt W rb s p → Calls Tryd.prog 28 #[.pointer (some ⟨rb, 0, none⟩), .string ⟨#[UInt8.ofNat c]⟩] W fun e w' => e = .returned (.bool false) ∧ RdAt w' rb s p ∧ Fr (oneB rb) W w') := fun W hW => by
    have e := skip_any rb s c p hc W hW hp hz
    rw [hi, show past s c p = p by unfold past; rw [if_neg (by rw [hi]; simp)]] at e
    exact e
  have h1 : RdAt w.drew rb s p := h.fr (Fr.refl noB w).drew id
  clear h hi
  generalize (⟨#[UInt8.ofNat c]⟩ : ByteArray) = t at *
  go_enter Tryd.func31, Tryd.ntmps31
  refine wp_region_held_drew (S := fun W => W.cell? ⟨rb, 1, none⟩ = some (.int .i64 (p : Int))) (by kernel_rfl) h1.c1 (fun hHeld => ?_)
  refine wpAnyH_take (i := 0) (v := .pointer (some ⟨rb, 0, none⟩)) rfl (by kernel_rfl) (by kernel_rfl) (by kernel_rfl) (fun _ _ _ h => h) (Or.inl ⟨by kernel_rfl, fun w hSw => by kernel_rfl⟩) hHeld ?_
  refine wpAnyH_take (i := 1) (v := .string t) rfl (by kernel_rfl) (by kernel_rfl) (by kernel_rfl) (fun _ _ _ h => h) (Or.inl ⟨by kernel_rfl, fun w hSw => by kernel_rfl⟩) hHeld ?_
  refine wpAnyH_take (i := 3) (v := .pointer (some ⟨rb, 0, none⟩)) rfl (by kernel_rfl) (by kernel_rfl) (by kernel_rfl) (fun _ _ _ h => h) (Or.inl ⟨by kernel_rfl, fun w hSw => by kernel_rfl⟩) hHeld ?_
  refine wpAnyH_take (i := 4) (v := .pointer (some ⟨rb, 0, none⟩)) rfl (by kernel_rfl) (by kernel_rfl) (by kernel_rfl) (fun _ _ _ h => h) (Or.inl ⟨by kernel_rfl, fun w hSw => by kernel_rfl⟩) hHeld ?_
  refine wpAnyH_take (i := 5) (v := .pointer (some ⟨rb, 1, none⟩)) rfl (by kernel_rfl) (by kernel_rfl) (by kernel_rfl) (fun _ _ _ h => h) (Or.inl ⟨by kernel_rfl, fun w hSw => by kernel_rfl⟩) hHeld ?_
  refine wpAnyH_take (i := 6) (v := .int .i64 (p : Int)) rfl (by kernel_rfl) (by kernel_rfl) (by kernel_rfl) (fun _ _ _ h => h) (y_loadOf 3 load_int (.tmp 9) rb 1 _ (by kernel_rfl) rfl (by kernel_rfl) (fun w h => h)) hHeld ?_
  refine wpAnyH_ready (rs := [2]) (by kernel_rfl) (by simp) ?_
  refine AllReadyH.cons rfl (fun K hK => ?_) AllReadyH.nil
  refine wp_go 28 #[.pointer (some ⟨rb, 0, none⟩), .string t] (by kernel_rfl) ?_
  refine (HS.out _ h1).mono ?_
  rintro e w2 ⟨rfl, hR, hF⟩
  refine hK.out _ _ hR.c1 (fun hHeld2 => ?_)
  clear hK K
  refine wpAnyH_ready (rs := [7]) (by kernel_rfl) (by simp) ?_
  refine AllReadyH.cons rfl (fun K hK => ?_) AllReadyH.nil
  refine wp_go 30 #[.bool false, .int .i64 (p : Int), .int .i64 110] (by kernel_rfl) ?_
  refine (hold_no p 110 _).mono ?_
  rintro e w3 ⟨rfl, rfl⟩
  exact ⟨rfl, rfl, Fr.trans ((Fr.refl _ _).drew) hF⟩
#print axioms need_no
end Go.Proofs.YtiokbpknaldbaaaDoor
