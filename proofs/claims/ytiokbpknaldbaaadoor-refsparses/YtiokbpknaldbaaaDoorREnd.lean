/- The ends of a reference, ahead, Has, bare: the program's contracts. -/
import Derived.Test.YtiokbpknaldbaaaDoorRLiv
namespace Go.Proofs.YtiokbpknaldbaaaDoor
open Go.RowKit Go.Shelf

/-- A reference's other corner, of whatever kind it is. -/
def othr (ar : Bool) (a b : Int) : Int := if ar = true then b else a
def loI (ar : Bool) (a b : Int) : Int := min a (othr ar a b)
def hiI (ar : Bool) (a b : Int) : Int := max a (othr ar a b)
/-- A cell's two cells in a block. -/
structure CAt (w : World) (B : Nat) (r c : Int) : Prop where
  o : w.heap[B]? = some (.cells #[.int .i64 r, .int .i64 c] 32 (0, 0))
theorem CAt.fr {S : Nat → Prop} {w w' : World} {B : Nat} {r c : Int} (h : CAt w B r c) (hF : Fr S w w') (hB : ¬ S B) : CAt w' B r c := ⟨hF.obj h.o hB⟩
theorem CAt.c0 {w : World} {B : Nat} {r c : Int} (h : CAt w B r c) : w.cell? ⟨B, 0, none⟩ = some (.int .i64 r) := cellOf (o := 0) h.o rfl
theorem CAt.c1 {w : World} {B : Nat} {r c : Int} (h : CAt w B r c) : w.cell? ⟨B, 1, none⟩ = some (.int .i64 c) := cellOf (o := 1) h.o rfl
theorem CAt.f {w : World} {B : Nat} {r c : Int} (h : CAt w B r c) : ∀ o, w.frozen? ⟨B, o, none⟩ = false := fun o => freeOf o h.o
theorem CAt.s0 {w : World} {B : Nat} {r c : Int} (h : CAt w B r c) (v : Int) : CAt (w.setCell ⟨B, 0, none⟩ (.int .i64 v)) B v c := ⟨setOf 0 _ h.o⟩
theorem CAt.s1 {w : World} {B : Nat} {r c : Int} (h : CAt w B r c) (v : Int) : CAt (w.setCell ⟨B, 1, none⟩ (.int .i64 v)) B r v := ⟨setOf 1 _ h.o⟩
theorem CAt.setO {w : World} {B : Nat} {r c : Int} (h : CAt w B r c) (b o : Nat) (v : Value) (hb : B ≠ b) : CAt (w.setCell ⟨b, o, none⟩ v) B r c := ⟨(Below.heap_setCell _ _ _ _ hb).trans h.o⟩

set_option maxRecDepth 100000 in
set_option maxHeartbeats 2000000 in
theorem ahead_any (r1 c1 r2 c2 : Int) (w : World) : Calls Tryd.prog 25 #[.agg #[.int .i64 r1, .int .i64 c1], .agg #[.int .i64 r2, .int .i64 c2]] w fun e w' => e = .returned (.bool (decide (r1 ≤ r2) && decide (c1 ≤ c2))) ∧ Fr noB w w' := by
  by_cases h1 : r1 ≤ r2
  · by_cases h2 : c1 ≤ c2
    · go_enter Tryd.func25, Tryd.ntmps25
      go_wp2_with fail
      go_ret
      exact ⟨ret_bool (by simp [h1, h2]), ((Fr.refl noB w).alloc _).alloc _⟩
    · go_enter Tryd.func25, Tryd.ntmps25
      go_wp2_with fail
      go_ret
      exact ⟨ret_bool (by simp [h2]), ((Fr.refl noB w).alloc _).alloc _⟩
  · go_enter Tryd.func25, Tryd.ntmps25
    go_wp2_with fail
    go_ret
    exact ⟨ret_bool (by rw [decide_eq_false (show ¬ r1 ≤ r2 by omega)]; rfl), ((Fr.refl noB w).alloc _).alloc _⟩
set_option maxRecDepth 100000 in
set_option maxHeartbeats 2000000 in
theorem bare_any (r c : Int) (w : World) : Calls Tryd.prog 27 #[.agg #[.int .i64 r, .int .i64 c]] w fun e w' => e = .returned (.agg #[.int .i64 r, .int .i64 c, .bool false, .bool false]) ∧ Fr noB w w' := by
  go_enter Tryd.func27, Tryd.ntmps27
  go_wp2_with fail
  have hK : KAt ((w.alloc (.cells #[.int .i64 r, .int .i64 c] 32 (0, 0))).alloc (.cells #[.int .i64 r, .int .i64 c, .bool false, .bool false] 23 (0, 0))) (w.heap.size + 1) r c false false := ⟨by
    have e := heap_alloc_new (w.alloc (.cells #[.int .i64 r, .int .i64 c] 32 (0, 0))) (.cells #[.int .i64 r, .int .i64 c, .bool false, .bool false] 23 (0, 0))
    rwa [World.size_alloc] at e⟩
  exact bodyPost_ret (kret Tryd.results27 _ _ (w.heap.size + 1) rfl hK) rfl ⟨rfl, ((Fr.refl noB w).alloc _).alloc _⟩
theorem alloc_last (w : World) (o : Obj) (k : Nat) (h : k = w.heap.size) : (w.alloc o).heap[k]? = some o := by subst h; exact heap_alloc_new w o
theorem alloc_old {w : World} {o x : Obj} {k : Nat} (h : w.heap[k]? = some x) : (w.alloc o).heap[k]? = some x := (Below.heap_alloc _ _ _ (lt_of_block h)).trans h
theorem ends_laid (w : World) (o : Obj) (a b c d : Int) : ∃ W, ((((w.alloc o).alloc (.cells #[.int .i64 0, .int .i64 0] 32 (0, 0))).alloc (.cells #[.int .i64 0, .int .i64 0] 32 (0, 0))).alloc (.cells #[.int .i64 a, .int .i64 b] 32 (0, 0))).alloc (.cells #[.int .i64 c, .int .i64 d] 32 (0, 0)) = W ∧ CAt W (w.heap.size + 1) 0 0 ∧ CAt W (w.heap.size + 1 + 1) 0 0 ∧ CAt W (w.heap.size + 1 + 1 + 1) a b ∧ CAt W (w.heap.size + 1 + 1 + 1 + 1) c d ∧ Fr noB w W :=
  ⟨_, rfl, ⟨alloc_old (alloc_old (alloc_old (alloc_last _ _ _ (by simp))))⟩, ⟨alloc_old (alloc_old (alloc_last _ _ _ (by simp)))⟩, ⟨alloc_old (alloc_last _ _ _ (by simp))⟩, ⟨alloc_last _ _ _ (by simp)⟩, ((((Fr.refl noB w).alloc _).alloc _).alloc _).alloc _ |>.alloc _⟩
set_option maxRecDepth 100000 in
set_option maxHeartbeats 2000000 in
theorem ends_any (t u : ByteArray) (fx ar : Bool) (r1 c1 : Int) (x1 y1 : Bool) (r2 c2 : Int) (x2 y2 : Bool) (w : World) :
    Calls Tryd.prog 23 #[(.agg #[.string t, .string u, .bool fx, .bool ar, .int .i64 r1, .int .i64 c1, .bool x1, .bool y1, .int .i64 r2, .int .i64 c2, .bool x2, .bool y2])] w fun e w' => e = .returned (.tuple #[.agg #[.int .i64 (loI ar r1 r2), .int .i64 (loI ar c1 c2)], .agg #[.int .i64 (hiI ar r1 r2), .int .i64 (hiI ar c1 c2)]]) ∧ Fr noB w w' := by
  cases ar with
  | true =>
    unfold loI hiI othr
    rw [if_pos rfl, if_pos rfl]
    go_enter Tryd.func23, Tryd.ntmps23
    go_wp2_with fail
    obtain ⟨W, hW, hP, hQ, hL, hH, hF⟩ := ends_laid w (.cells #[.string t, .string u, .bool fx, .bool true, .int .i64 r1, .int .i64 c1, .bool x1, .bool y1, .int .i64 r2, .int .i64 c2, .bool x2, .bool y2] 25 (0, 0)) (min r1 r2) (min c1 c2) (max r1 r2) (max c1 c2)
    rw [hW]
    clear hW
    have p0 := hP.c0; have p1 := hP.c1; have p2 := hP.f; have q0 := hQ.c0; have q1 := hQ.c1; have q2 := hQ.f; have l0 := hL.c0; have l1 := hL.c1; have h0 := hH.c0; have h1 := hH.c1
    have HP : Hid _ := hP
    have HQ : Hid _ := hQ
    have HF : Hid _ := hF
    clear hP hQ hL hH hF
    go_region
    go_wp2_with fail
    have hPF := ((((HP.out.s0 (min r1 r2)).s1 (min c1 c2)).setO (w.heap.size + 1 + 1) 0 (.int .i64 (max r1 r2)) (by omega)).setO (w.heap.size + 1 + 1) 1 (.int .i64 (max c1 c2)) (by omega)).fr ((Fr.refl noB _).drew) id
    have hQF := ((((HQ.out.setO (w.heap.size + 1) 0 (.int .i64 (min r1 r2)) (by omega)).setO (w.heap.size + 1) 1 (.int .i64 (min c1 c2)) (by omega)).s0 (max r1 r2)).s1 (max c1 c2)).fr ((Fr.refl noB _).drew) id
    have hFF := ((((HF.out.setCell ⟨w.heap.size + 1, 0, none⟩ (Or.inr (Nat.le_succ _)) (.int .i64 (min r1 r2))).setCell ⟨w.heap.size + 1, 1, none⟩ (Or.inr (Nat.le_succ _)) (.int .i64 (min c1 c2))).setCell ⟨w.heap.size + 1 + 1, 0, none⟩ (Or.inr (by show w.heap.size ≤ w.heap.size + 1 + 1; omega)) (.int .i64 (max r1 r2))).setCell ⟨w.heap.size + 1 + 1, 1, none⟩ (Or.inr (by show w.heap.size ≤ w.heap.size + 1 + 1; omega)) (.int .i64 (max c1 c2))).drew
    clear p0 p1 p2 q0 q1 q2 l0 l1 h0 h1
    have p0 := hPF.c0; have p1 := hPF.c1; have q0 := hQF.c0; have q1 := hQF.c1
    generalize World.drew _ = WF at *
    exact bodyPost_ret (v := .tuple #[.agg #[.int .i64 (min r1 r2), .int .i64 (min c1 c2)], .agg #[.int .i64 (max r1 r2), .int .i64 (max c1 c2)]]) (by simp [results, Tryd.results23, go_sem, p0, p1, q0, q1]) rfl ⟨rfl, hFF⟩
  | false =>
    unfold loI hiI othr
    rw [if_neg (by simp), if_neg (by simp)]
    go_enter Tryd.func23, Tryd.ntmps23
    go_wp2_with fail
    obtain ⟨W, hW, hP, hQ, hL, hH, hF⟩ := ends_laid w (.cells #[.string t, .string u, .bool fx, .bool false, .int .i64 r1, .int .i64 c1, .bool x1, .bool y1, .int .i64 r1, .int .i64 c1, .bool x1, .bool y1] 25 (0, 0)) r1 c1 r1 c1
    rw [hW]
    clear hW
    have p0 := hP.c0; have p1 := hP.c1; have p2 := hP.f; have q0 := hQ.c0; have q1 := hQ.c1; have q2 := hQ.f; have l0 := hL.c0; have l1 := hL.c1; have h0 := hH.c0; have h1 := hH.c1
    have HP : Hid _ := hP
    have HQ : Hid _ := hQ
    have HF : Hid _ := hF
    clear hP hQ hL hH hF
    go_region
    go_wp2_with fail
    have hPF := ((((HP.out.s0 r1).s1 c1).setO (w.heap.size + 1 + 1) 0 (.int .i64 r1) (by omega)).setO (w.heap.size + 1 + 1) 1 (.int .i64 c1) (by omega)).fr ((Fr.refl noB _).drew) id
    have hQF := ((((HQ.out.setO (w.heap.size + 1) 0 (.int .i64 r1) (by omega)).setO (w.heap.size + 1) 1 (.int .i64 c1) (by omega)).s0 r1).s1 c1).fr ((Fr.refl noB _).drew) id
    have hFF := ((((HF.out.setCell ⟨w.heap.size + 1, 0, none⟩ (Or.inr (Nat.le_succ _)) (.int .i64 r1)).setCell ⟨w.heap.size + 1, 1, none⟩ (Or.inr (Nat.le_succ _)) (.int .i64 c1)).setCell ⟨w.heap.size + 1 + 1, 0, none⟩ (Or.inr (by show w.heap.size ≤ w.heap.size + 1 + 1; omega)) (.int .i64 r1)).setCell ⟨w.heap.size + 1 + 1, 1, none⟩ (Or.inr (by show w.heap.size ≤ w.heap.size + 1 + 1; omega)) (.int .i64 c1)).drew
    clear p0 p1 p2 q0 q1 q2 l0 l1 h0 h1
    have p0 := hPF.c0; have p1 := hPF.c1; have q0 := hQF.c0; have q1 := hQF.c1
    generalize World.drew _ = WF at *
    exact bodyPost_ret (v := .tuple #[.agg #[.int .i64 r1, .int .i64 c1], .agg #[.int .i64 r1, .int .i64 c1]]) (by simp [results, Tryd.results23, go_sem, p0, p1, q0, q1]) rfl ⟨by simp, hFF⟩
#print axioms ends_any
end Go.Proofs.YtiokbpknaldbaaaDoor
