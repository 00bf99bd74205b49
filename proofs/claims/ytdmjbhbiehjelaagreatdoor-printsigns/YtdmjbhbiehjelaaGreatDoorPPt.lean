/- The writer puts texts, and gives up where they become too long. -/
import Derived.Test.YtdmjbhbiehjelaaGreatDoorPSm
import Derived.Test.YtdmjbhbiehjelaaGreatDoorPBl
import Derived.Deep.RegionHeld3
import Derived.Deep.MidRow
import Derived.BigQuiet
namespace Go.Proofs.YtdmjbhbiehjelaaGreatDoor
open Go.RowKit

theorem Wt.most {B b : Nat} {most : Int} {l : List UInt8} {w : World} (h : Wt B b most l w) : w.cell? ⟨b, 2, none⟩ = some (.int .i64 most) := by
  obtain ⟨p, _, hB, hBw, v, hbk, hown, hne⟩ := h.ex
  exact cellOf (o := 2) hbk rfl
theorem Wt.drewN {B b : Nat} {most : Int} {l : List UInt8} {w : World} (h : Wt B b most l w) (n : Nat) : Wt B b most l (w.drewN n) := h.keep ((Fr.refl noB w).drewN n)
theorem Wt.base {B b : Nat} {most : Int} {l : List UInt8} {w : World} (h : Wt B b most l w) : B ≤ w.heap.size := by
  obtain ⟨p, _, hB, hBw, _⟩ := h.ex
  exact hBw
/-- What was there is still there. -/
theorem Fr.grows {W0 w w' : World} (h : Fr noB W0 w) (hb : Below W0.heap.size w w') : Fr noB W0 w' :=
  ⟨hb.os.trans h.os, hb.tape.trans h.tape, hb.output.trans h.output, Nat.le_trans h.size hb.size, fun k hk hs => (hb.block k hk).trans (h.block k hk hs)⟩
set_option maxRecDepth 100000 in
set_option maxHeartbeats 2000000 in
theorem put_ok (B b m : Nat) (l : List UInt8) (s : ByteArray) (w : World) (h : Wt B b (m : Int) l w) (hm : m ≤ 8192) (hs : l.length + s.size ≤ m) :
    Calls Tryz.prog 26 #[.pointer (some ⟨b, 0, none⟩), .string s] w fun e w' => e = .returned (.tuple #[]) ∧ Wt B b (m : Int) (l ++ s.data.toList) w' ∧ Below B w w' := by
  have HL : Hid (∀ n, Wt B b (m : Int) l (w.drewN n)) := fun n => h.drewN n
  have c2 := h.most
  have HB : Hid (∀ n, Below B w (w.drewN n)) := fun n => ((Fr.refl noB w).drewN n).below h.base (fun _ e => e.elim)
  have hle : (l.length : Int) + (s.size : Int) ≤ (m : Int) := by omega
  obtain ⟨q, hq⟩ : ∃ q : Int, (l.length : Int) + (s.size : Int) = q := ⟨_, rfl⟩
  have hw : IntKind.i64.wrap ((l.length : Int) + (s.size : Int)) = (l.length : Int) + (s.size : Int) := by rw [IntKind.wrap_i64]; omega
  have HS : Hid (l.length + s.size ≤ 140737488355328) := by
    show _ ≤ _
    omega
  have g : (decide ((l.length : Int) + (s.size : Int) ≤ (m : Int))) = true := decide_eq_true hle
  have HH : Hid (∀ W, Calls Tryz.prog 24 #[.bool true, .int .i64 3] W fun e w' => e = .returned (.tuple #[]) ∧ w' = W) := fun W => phold_ok 3 W
  clear h hs hq
  go_enter Tryz.func26, Tryz.ntmps26
  go_wp2_with fail
  go_quiet (first
    | (go_at_call 38; exact Calls.quiet_of_same (wlen_any B b (m : Int) l _ (HL.out _)))
    | (go_at_call 24; exact Calls.quiet_of_same (HH.out _)))
  go_wp2_with (first
    | (go_at_call 39; refine (wwrite_any B b (m : Int) l s _ (HL.out _) HS.out).mono ?_; rintro e w1 ⟨rfl, hW1, hB1⟩))
  go_end0
  exact ⟨rfl, hW1, (HB.out _).trans hB1⟩
theorem pload_int (w : World) (b o : Nat) (v : Value) (h : w.cell? ⟨b, o, none⟩ = some v) : (Instr.loadAt 3 (.pointer (some ⟨b, o, none⟩))).run Tryz.prog w = .ok v w := by
  have hu := Tryz.underlying3
  simp [go_sem, h]
section
variable {P : Program} {ops : Array Oper} {S : World → Prop} {op : Oper} {a : Act}
theorem py_loadOf (ty : TypeId) (hl : ∀ w b o v, w.cell? ⟨b, o, none⟩ = some v → (Instr.loadAt ty (.pointer (some ⟨b, o, none⟩))).run Tryz.prog w = .ok v w) (x : Operand) (b o : Nat) (v : Value) (hw : Region.wanted op (yielded ops a.tmps) = true) (ho : op.op = .load ty x) (hx : a.eval x = .pointer (some ⟨b, o, none⟩)) (hS : ∀ w, S w → w.cell? ⟨b, o, none⟩ = some v) : YieldsIf Tryz.prog ops S op v a :=
  .inl ⟨hw, fun w hw' => by
    unfold execOp
    simp only [ho, hx, Sem.run_bind, Sem.run_pure, hl w b o v (hS w hw'), Result.andThen_ok]⟩
/-- A call of a Go function that is named. -/
theorem pwp_go {w : World} {next : Act → World → Prop} {Q : Exit → Act → World → Prop} (f : FuncId) (args : Array Value) (h : (execOp a.eval op).run P w = .ok (.enter f args) w)
    (hc : Calls P f args w fun e w'' => match e, w'' with
      | .returned v, w'' => next (a.put op.dst v) w''
      | .panicked chain, w'' => Q (.panic chain) a w''
      | .outgrown, _ => LetsOut Q) : Oper.wp P op a w next Q := by
  unfold Oper.wp
  rw [h]
  exact hc
end
set_option maxRecDepth 100000 in
set_option maxHeartbeats 4000000 in
theorem put_no (B b m : Nat) (l : List UInt8) (s : ByteArray) (w : World) (h : Wt B b (m : Int) l w) (hl : l.length ≤ m) (hm : m ≤ 8192) (hz : s.size ≤ 281474976710656) (hs : m < l.length + s.size) :
    Calls Tryz.prog 26 #[.pointer (some ⟨b, 0, none⟩), .string s] w fun e w' => e = pthr 3 ∧ Below B w w' := by
  have h1 : Wt B b (m : Int) l w.drew := h.drewN 1
  have hB : Below B w w.drew := ((Fr.refl noB w).drew).below h.base (fun _ e => e.elim)
  have hg : decide (IntKind.i64.wrap ((l.length : Int) + (s.size : Int)) ≤ (m : Int)) = false := by
    rw [IntKind.wrap_i64]
    refine decide_eq_false ?_
    omega
  clear h
  go_enter Tryz.func26, Tryz.ntmps26
  go_wp2_with fail
  refine wp_region_held_drew (S := fun W => W.cell? ⟨b, 2, none⟩ = some (.int .i64 (m : Int))) (by kernel_rfl) h1.most (fun hHeld => ?_)
  refine wpAnyH_take (i := 0) (v := .pointer (some ⟨b, 0, none⟩)) rfl (by kernel_rfl) (by kernel_rfl) (by kernel_rfl) (fun _ _ _ h => h) (Or.inl ⟨by kernel_rfl, fun w hSw => by kernel_rfl⟩) hHeld ?_
  refine wpAnyH_take (i := 1) (v := .pointer (some ⟨b, 0, none⟩)) rfl (by kernel_rfl) (by kernel_rfl) (by kernel_rfl) (fun _ _ _ h => h) (Or.inl ⟨by kernel_rfl, fun w hSw => by kernel_rfl⟩) hHeld ?_
  refine wpAnyH_take (i := 2) (v := .pointer (some ⟨b, 0, none⟩)) rfl (by kernel_rfl) (by kernel_rfl) (by kernel_rfl) (fun _ _ _ h => h) (Or.inl ⟨by kernel_rfl, fun w hSw => by kernel_rfl⟩) hHeld ?_
  refine wpAnyH_take (i := 4) (v := .string s) rfl (by kernel_rfl) (by kernel_rfl) (by kernel_rfl) (fun _ _ _ h => h) (Or.inl ⟨by kernel_rfl, fun w hSw => by kernel_rfl⟩) hHeld ?_
  refine wpAnyH_take (i := 5) (v := .int .i64 (s.size : Int)) rfl (by kernel_rfl) (by kernel_rfl) (by kernel_rfl) (fun _ _ _ h => h) (Or.inl ⟨by kernel_rfl, fun w hSw => by kernel_rfl⟩) hHeld ?_
  refine wpAnyH_take (i := 7) (v := .pointer (some ⟨b, 0, none⟩)) rfl (by kernel_rfl) (by kernel_rfl) (by kernel_rfl) (fun _ _ _ h => h) (Or.inl ⟨by kernel_rfl, fun w hSw => by kernel_rfl⟩) hHeld ?_
  refine wpAnyH_take (i := 8) (v := .pointer (some ⟨b, 0, none⟩)) rfl (by kernel_rfl) (by kernel_rfl) (by kernel_rfl) (fun _ _ _ h => h) (Or.inl ⟨by kernel_rfl, fun w hSw => by kernel_rfl⟩) hHeld ?_
  refine wpAnyH_take (i := 9) (v := .pointer (some ⟨b, 2, none⟩)) rfl (by kernel_rfl) (by kernel_rfl) (by kernel_rfl) (fun _ _ _ h => h) (Or.inl ⟨by kernel_rfl, fun w hSw => by kernel_rfl⟩) hHeld ?_
  refine wpAnyH_take (i := 10) (v := .int .i64 (m : Int)) rfl (by kernel_rfl) (by kernel_rfl) (by kernel_rfl) (fun _ _ _ h => h) (py_loadOf 3 pload_int (.tmp 13) b 2 _ (by kernel_rfl) rfl (by kernel_rfl) (fun w h => h)) hHeld ?_
  refine wpAnyH_ready (rs := [3]) (by kernel_rfl) (by simp) ?_
  refine AllReadyH.cons rfl (fun K hK => ?_) AllReadyH.nil
  refine pwp_go 38 #[.pointer (some ⟨b, 0, none⟩)] (by kernel_rfl) ?_
  refine (wlen_any B b (m : Int) l _ h1).mono ?_
  rintro e w2 ⟨rfl, rfl⟩
  refine hK.out _ _ h1.most (fun hHeld2 => ?_)
  clear hK K
  refine wpAnyH_take (i := 6) (v := .int .i64 (IntKind.i64.wrap ((l.length : Int) + (s.size : Int)))) rfl (by kernel_rfl) (by kernel_rfl) (by kernel_rfl) (fun _ _ _ h => h) (Or.inl ⟨by kernel_rfl, fun w hSw => by kernel_rfl⟩) hHeld2 ?_
  refine wpAnyH_take (i := 11) (v := .bool (decide (IntKind.i64.wrap ((l.length : Int) + (s.size : Int)) ≤ (m : Int)))) rfl (by kernel_rfl) (by kernel_rfl) (by kernel_rfl) (fun _ _ _ h => h) (Or.inl ⟨by kernel_rfl, fun w hSw => by kernel_rfl⟩) hHeld2 ?_
  refine wpAnyH_ready (rs := [12]) (by kernel_rfl) (by simp) ?_
  refine AllReadyH.cons rfl (fun K hK => ?_) AllReadyH.nil
  refine pwp_go 24 #[.bool (decide (IntKind.i64.wrap ((l.length : Int) + (s.size : Int)) ≤ (m : Int))), .int .i64 3] (by kernel_rfl) ?_
  rw [hg]
  refine (phold_no 3 _).mono ?_
  rintro e w3 ⟨rfl, rfl⟩
  exact ⟨rfl, rfl, hB⟩
#print axioms put_ok
#print axioms put_no
end Go.Proofs.YtdmjbhbiehjelaaGreatDoor
