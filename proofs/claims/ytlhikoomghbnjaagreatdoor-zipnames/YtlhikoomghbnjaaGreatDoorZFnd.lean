/- The contract of zip.Find. -/
import Derived.Test.YtlhikoomghbnjaaGreatDoorZEnt
import Derived.Test.YtlhikoomghbnjaaGreatDoorZCont
namespace Go.Proofs.YtlhikoomghbnjaaGreatDoor
open Go.RowKit
attribute [local go_sem ↓] Go.wp_at_zero Go.wp_at_succ

set_option maxRecDepth 100000 in
set_option maxHeartbeats 1600000 in
theorem find_none (ao : Option Addr) (cap : Nat) (E : List Ent) (s : ByteArray) (w : World) (h : EsAt w ao E) (hl : E.length ≤ 140737488355328) (hf : firstE E s = -1) :
    Calls Tryz.prog 8 #[.slice ao E.length cap, .string s] w fun e w' => e = .returned (.tuple #[.agg #[.string ⟨#[]⟩, .slice none 0 0, .bool false], .bool false]) ∧ Fr noB w w' := by
  have a0 := heap_alloc_new w (.cells #[.string ⟨#[]⟩, .slice none 0 0, .bool false] 29 (0, 0))
  have hF0 : Fr noB w (w.alloc (.cells #[.string ⟨#[]⟩, .slice none 0 0, .bool false] 29 (0, 0))) := (Fr.refl noB w).alloc _
  have C1 := indexOf_any ao cap E s _ (h.keep hF0) hl
  rw [hf] at C1
  clear h
  go_enter Tryz.func8, Tryz.ntmps8
  go_wp2_with (go_at_call 16; refine C1.mono ?_; rintro e w1 ⟨rfl, hF1⟩; have q0 := hF1.obj a0 id; have c0 := cellOf (o := 0) q0 rfl; have c1 := cellOf (o := 1) q0 rfl; have c2 := cellOf (o := 2) q0 rfl; have f0 := freeOf 0 q0; have f1 := freeOf 1 q0; have f2 := freeOf 2 q0)
  obtain ⟨W, hW⟩ : ∃ W, ((w1.setCell ⟨w.heap.size, 0, none⟩ (.string ⟨#[]⟩)).setCell ⟨w.heap.size, 1, none⟩ (.slice none 0 0)).setCell ⟨w.heap.size, 2, none⟩ (.bool false) = W := ⟨_, rfl⟩
  have p : W.heap[w.heap.size]? = some (.cells #[.string ⟨#[]⟩, .slice none 0 0, .bool false] 29 (0, 0)) := by
    rw [← hW]
    exact setOf 2 _ (setOf 1 _ (setOf 0 _ q0))
  have p0 := cellOf (o := 0) p rfl
  have p1 := cellOf (o := 1) p rfl
  have p2 := cellOf (o := 2) p rfl
  have hFW : Fr noB w W := by
    rw [← hW]
    exact (((hF0.trans hF1).setCell ⟨w.heap.size, 0, none⟩ (Or.inr (Nat.le_refl _)) _).setCell ⟨w.heap.size, 1, none⟩ (Or.inr (Nat.le_refl _)) _).setCell ⟨w.heap.size, 2, none⟩ (Or.inr (Nat.le_refl _)) _
  try rw [hW]
  refine bodyPost_ret ?_ rfl ⟨rfl, hFW⟩
  simp [results, Tryz.results8, go_sem, p0, p1, p2]
set_option maxRecDepth 100000 in
set_option maxHeartbeats 1600000 in
theorem find_some (ao : Option Addr) (cap : Nat) (E : List Ent) (s : ByteArray) (w : World) (h : EsAt w ao E) (hl : E.length ≤ 140737488355328) (k : Nat) (hk : k < E.length) (hf : firstE E s = (k : Int)) (nm : ByteArray) (da : Option Addr) (dl dc : Nat) (st : Bool) (he : E[k] = ⟨nm, da, dl, dc, st⟩) (B : List Nat) (hb : Bs w (.slice da dl dc) B) (hB : B.length ≤ 140737488355328) :
    Calls Tryz.prog 8 #[.slice ao E.length cap, .string s] w fun e w' => ∃ g, e = .returned (.tuple #[.agg #[.string nm, .slice (some ⟨g, 0, none⟩) B.length B.length, .bool st], .bool true]) ∧ w'.heap[g]? = some (.cells (byteVals B).toArray 5 (0, 0)) ∧ Fr noB w w' := by
  have a0 := heap_alloc_new w (.cells #[.string ⟨#[]⟩, .slice none 0 0, .bool false] 29 (0, 0))
  have hF0 : Fr noB w (w.alloc (.cells #[.string ⟨#[]⟩, .slice none 0 0, .bool false] 29 (0, 0))) := (Fr.refl noB w).alloc _
  have C1 := indexOf_any ao cap E s _ (h.keep hF0) hl
  rw [hf] at C1
  obtain ⟨b, off, rfl, hbl, g1, g2, g3⟩ := h.get k hk
  rw [he] at g1 g2 g3
  simp only at g1 g2 g3
  have HC : Hid (∀ w', Fr noB w w' → Calls Tryz.prog 17 #[.slice da dl dc] w' fun e w'' => ∃ g, e = .returned (.slice (some ⟨g, 0, none⟩) B.length B.length) ∧ w'.heap.size ≤ g ∧ w''.heap[g]? = some (.cells (byteVals B).toArray 5 (0, 0)) ∧ Fr noB w' w'') := fun w' hF => copyOf_any _ B w' (hb.fr hF (fun _ _ _ _ _ _ _ h => h)) hB
  have hkI : (k : Int) < (E.length : Int) := by omega
  clear h hb he hf
  generalize E.length = n at *
  go_enter Tryz.func8, Tryz.ntmps8
  go_wp2_with (first
    | (go_at_call 16; refine C1.mono ?_; rintro e w1 ⟨rfl, hF1⟩; have hG1 := hF0.trans hF1; have r1 := (hG1.cell (a := ⟨b, off + k * 3, none⟩) hbl id).trans g1; have r2 := (hG1.cell (a := ⟨b, off + k * 3 + 1, none⟩) hbl id).trans g2; have r3 := (hG1.cell (a := ⟨b, off + k * 3 + 2, none⟩) hbl id).trans g3; have x0 := heap_alloc_new w1 (.cells #[.string nm, .slice da dl dc, .bool st] 29 (0, 0)); have hG2 := hG1.alloc (.cells #[.string nm, .slice da dl dc, .bool st] 29 (0, 0)); have a1 := hF1.obj a0 id; have a2 := ((Fr.refl noB w1).alloc (.cells #[.string nm, .slice da dl dc, .bool st] 29 (0, 0))).obj a1 id; have hlt1 : w.heap.size < w1.heap.size := lt_of_block a1)
    | (go_at_call 17; refine (HC.out _ hG2).mono ?_; rintro e w3 ⟨g, rfl, hg, hrow, hF3⟩; have x3 := hF3.obj x0 id; have a3 := hF3.obj a2 id; have d0 := cellOf (o := 0) x3 rfl; have d1 := cellOf (o := 1) x3 rfl; have d2 := cellOf (o := 2) x3 rfl; have e1 := freeOf 1 x3; have f0 := freeOf 0 a3; have f1 := freeOf 1 a3; have f2 := freeOf 2 a3; have b0 := cellOf (o := 0) a3 rfl; have b1 := cellOf (o := 1) a3 rfl; have b2 := cellOf (o := 2) a3 rfl))
  simp only [World.size_alloc] at hg
  have hgw : w1.heap.size + 1 ≤ g := hg
  obtain ⟨W, hW⟩ : ∃ W, (((w3.setCell ⟨w1.heap.size, 1, none⟩ (.slice (some ⟨g, 0, none⟩) B.length B.length)).setCell ⟨w.heap.size, 0, none⟩ (.string nm)).setCell ⟨w.heap.size, 1, none⟩ (.slice (some ⟨g, 0, none⟩) B.length B.length)).setCell ⟨w.heap.size, 2, none⟩ (.bool st) = W := ⟨_, rfl⟩
  have p : W.heap[w.heap.size]? = some (.cells #[.string nm, (.slice (some ⟨g, 0, none⟩) B.length B.length), .bool st] 29 (0, 0)) := by
    rw [← hW]
    exact setOf 2 _ (setOf 1 _ (setOf 0 _ ((Below.heap_setCell _ _ _ _ (by show w.heap.size ≠ w1.heap.size; omega)).trans a3)))
  have p0 := cellOf (o := 0) p rfl
  have p1 := cellOf (o := 1) p rfl
  have p2 := cellOf (o := 2) p rfl
  have hG3 : Fr noB w w3 := hG2.trans hF3
  have hFS : Fr (fun j => j = w.heap.size ∨ j = w1.heap.size) w3 W := by
    rw [← hW]
    exact ((((Fr.refl _ w3).setCell ⟨w1.heap.size, 1, none⟩ (Or.inl (Or.inr rfl)) _).setCell ⟨w.heap.size, 0, none⟩ (Or.inl (Or.inl rfl)) _).setCell ⟨w.heap.size, 1, none⟩ (Or.inl (Or.inl rfl)) _).setCell ⟨w.heap.size, 2, none⟩ (Or.inl (Or.inl rfl)) _
  have hFW : Fr noB w W := hG3.then hFS (fun j hj => Or.inr (by rcases hj with rfl | rfl <;> omega))
  have hrw : W.heap[g]? = some (.cells (byteVals B).toArray 5 (0, 0)) := hFS.obj hrow (by omega)
  try rw [hW]
  refine bodyPost_ret ?_ rfl ⟨g, rfl, hrw, hFW⟩
  simp [results, Tryz.results8, go_sem, p0, p1, p2]
#print axioms find_some
end Go.Proofs.YtlhikoomghbnjaaGreatDoor
