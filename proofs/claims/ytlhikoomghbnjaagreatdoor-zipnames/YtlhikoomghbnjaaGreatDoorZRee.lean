/- Read of the file of the mimetype alone. -/
import Derived.Test.YtlhikoomghbnjaaGreatDoorZEns
import Derived.Test.YtlhikoomghbnjaaGreatDoorZCat
namespace Go.Proofs.YtlhikoomghbnjaaGreatDoor
open Go.RowKit
attribute [local go_sem ↓] Go.wp_at_zero Go.wp_at_succ

set_option maxRecDepth 100000 in
set_option maxHeartbeats 1600000 in
theorem read_mime (ao : Option Addr) (cap : Nat) (w : World) (hb : Bs w (.slice ao 160 cap) mimeF) (hT : Tabs w) :
    Calls Tryz.prog 13 #[.slice ao 160 cap, .int .i64 1000] w fun e w' => ∃ g lb cp, e = .returned (.tuple #[.slice (some ⟨lb, 0, none⟩) 1 cp, .int .i64 0]) ∧ OneC w' lb g ∧ MimeAt w' g ∧ w.heap.size ≤ lb ∧ w.heap.size ≤ g ∧ Fr noB w w' := by
  have hmf : ∀ (fn : Fn) (first cap : Array Value) (w : World), (Instr.makeFunc fn first cap).run Tryz.prog w = .ok (.func fn first cap) w := fun _ _ _ _ => rfl
  have HE : Hid (∀ w', Fr noB w w' → Calls Tryz.prog 26 #[.slice ao 160 cap, .int .i64 1000] w' fun e w'' => ∃ g lb cp, e = .returned (.slice (some ⟨lb, 0, none⟩) 1 cp) ∧ OneC w'' lb g ∧ MimeAt w'' g ∧ w'.heap.size ≤ lb ∧ w'.heap.size ≤ g ∧ Fr noB w' w'') := fun w' hF => entries_mime ao cap w' (hb.fr hF (fun _ _ _ _ _ _ _ h => h)) (hT.keep hF)
  have hF0 : Fr noB w ((w.alloc (.cells #[.slice none 0 0] 27 (0, 0))).alloc (.cells #[.int .i64 0] 35 (0, 0))) := ((Fr.refl noB w).alloc _).alloc _
  have o0 : ((w.alloc (.cells #[.slice none 0 0] 27 (0, 0))).alloc (.cells #[.int .i64 0] 35 (0, 0))).heap[w.heap.size]? = some (.cells #[.slice none 0 0] 27 (0, 0)) := (Below.heap_alloc _ _ _ (by simp)).trans (heap_alloc_new w _)
  have o1 : ((w.alloc (.cells #[.slice none 0 0] 27 (0, 0))).alloc (.cells #[.int .i64 0] 35 (0, 0))).heap[w.heap.size + 1]? = some (.cells #[.int .i64 0] 35 (0, 0)) := by
    have e := heap_alloc_new (w.alloc (.cells #[.slice none 0 0] 27 (0, 0))) (.cells #[.int .i64 0] 35 (0, 0))
    rwa [World.size_alloc] at e
  clear hb hT
  go_enter_defers Tryz.func13, Tryz.ntmps13
  go_wp2_with (go_at_call 26; refine (HE.out _ hF0).mono ?_; rintro e w1 ⟨g, lb, cp, rfl, hO, hM, hlb, hg, hF1⟩; have q0 := hF1.obj o0 id; have q1 := hF1.obj o1 id; have c0 := cellOf (o := 0) q0 rfl; have c1 := cellOf (o := 0) q1 rfl; have f0 := freeOf 0 q0; have f1 := freeOf 0 q1)
  obtain ⟨W, hW⟩ : ∃ W, (w1.setCell ⟨w.heap.size, 0, none⟩ (.slice (some ⟨lb, 0, none⟩) 1 cp)).setCell ⟨w.heap.size + 1, 0, none⟩ (.int .i64 0) = W := ⟨_, rfl⟩
  have hFW : Fr (fun k => k = w.heap.size ∨ k = w.heap.size + 1) w1 W := by
    rw [← hW]
    exact ((Fr.refl _ w1).setCell ⟨w.heap.size, 0, none⟩ (Or.inl (Or.inl rfl)) _).setCell ⟨w.heap.size + 1, 0, none⟩ (Or.inl (Or.inr rfl)) _
  have p0 : W.cell? ⟨w.heap.size, 0, none⟩ = some (.slice (some ⟨lb, 0, none⟩) 1 cp) := by
    rw [← hW]
    exact cellOf ((Below.heap_setCell _ _ _ _ (by show w.heap.size ≠ w.heap.size + 1; omega)).trans (setOf 0 _ q0)) rfl
  have p1 : W.cell? ⟨w.heap.size + 1, 0, none⟩ = some (.int .i64 0) := by
    rw [← hW]
    exact cellOf (setOf 0 _ ((Below.heap_setCell _ _ _ _ (by show w.heap.size + 1 ≠ w.heap.size; omega)).trans q1)) rfl
  simp only [World.size_alloc] at hlb hg
  have hGW : Fr noB w W := (hF0.trans hF1).then hFW (fun k hk => Or.inr (by rcases hk with rfl | rfl <;> omega))
  have hMW : MimeAt W g := hFW.obj hM (by omega)
  have hOW : OneC W lb g := ⟨(hFW.cell (lt_of_cell hO.1) (by show ¬ (lb = _ ∨ lb = _); omega)).trans hO.1, (hFW.cell (lt_of_cell hO.2.1) (by show ¬ (lb = _ ∨ lb = _); omega)).trans hO.2.1, (hFW.cell (lt_of_cell hO.2.2) (by show ¬ (lb = _ ∨ lb = _); omega)).trans hO.2.2⟩
  rw [hW]
  refine leaves_cons (f := 25) (args := #[.pointer (some ⟨w.heap.size, 0, none⟩), .pointer (some ⟨w.heap.size + 1, 0, none⟩)]) (by simp) (by simp [go_sem]) ?_
  refine (catch_idle ⟨w.heap.size, 0, none⟩ ⟨w.heap.size + 1, 0, none⟩ _).mono ?_
  rintro e u' w'' ⟨rfl, rfl, rfl⟩
  simp only [Leaves, settle]
  refine ⟨.tuple #[.slice (some ⟨lb, 0, none⟩) 1 cp, .int .i64 0], by simp [results, Tryz.results13, go_sem, p0, p1], g, lb, cp, rfl, hOW, hMW, by omega, by omega, hGW⟩
#print axioms read_mime
end Go.Proofs.YtlhikoomghbnjaaGreatDoor
