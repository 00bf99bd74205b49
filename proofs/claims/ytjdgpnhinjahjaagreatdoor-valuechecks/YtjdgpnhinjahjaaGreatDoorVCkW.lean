/- ValueChecks: the law's walk. -/
import Derived.Test.YtjdgpnhinjahjaaGreatDoorVCkP
namespace Go.Proofs.YtjdgpnhinjahjaaGreatDoor
open Go.RowKit Ieee Go.Shelf
attribute [local go_sem] run_store_float

set_option maxRecDepth 100000 in
set_option maxHeartbeats 4000000 in
theorem checks_walk (k1 : Int) (n1 : Nat) (s1 : ByteArray) (y1 : Bool) (c1 : Int) (k2 : Int) (n2 : Nat) (s2 : ByteArray) (y2 : Bool) (c2 : Int) (hn : n1 < 18446744073709551616) (hs : s1.size ≤ 140737488355328) (w : World) (hT : VTabs w) (hU : U8 w) :
    Calls Tryz.prog 5 #[(.agg #[.int .i64 k1, .float .f64 n1, .string s1, .bool y1, .int .i64 c1]), (.agg #[.int .i64 k2, .float .f64 n2, .string s2, .bool y2, .int .i64 c2])] w fun e w' => e = .returned (.bool true) ∧ Below w.heap.size w w' := by
  have HB : Hid (∀ W, Fr noB w W → Calls Tryz.prog 8 #[] W fun e w' => e = .returned (.bool true) ∧ Fr noB W w') := fun W hW => begun_true W (hT.fr hW)
  have HP : Hid (∀ W, Fr noB w W → Calls Tryz.prog 25 #[(.agg #[.int .i64 k1, .float .f64 n1, .string s1, .bool y1, .int .i64 c1])] W fun e w' => e = .returned (.int .i64 (ckF k1 n1 s1 y1 c1)) ∧ Fr noB W w') := fun W hW => pcheck_any k1 n1 hn s1 y1 c1 W hs (hU.fr hW)
  have HR : Hid (∀ W, Fr noB w W → Calls Tryz.prog 26 #[(.agg #[.int .i64 k1, .float .f64 n1, .string s1, .bool y1, .int .i64 c1])] W fun e w' => e = .returned (.int .i64 (ckF k1 n1 s1 y1 c1)) ∧ Fr noB W w') := fun W hW => rcheck_any k1 n1 hn s1 y1 c1 W hs (hU.fr hW)
  have HS := psame_any k1 n1 s1 y1 c1 k2 n2 s2 y2 c2
  have HT := rsame_any k1 n1 s1 y1 c1 k2 n2 s2 y2 c2
  have HX := psame_self k1 n1 s1 y1 c1
  generalize smB k1 n1 s1 y1 c1 k2 n2 s2 y2 c2 = A at *
  generalize ckF k1 n1 s1 y1 c1 = B at *
  have hA : (A == A) = true := by simp
  have hB : (B == B) = true := by simp
  clear hT hU hn hs
  go_enter Tryz.func5, Tryz.ntmps5
  go_wp2_with fail
  obtain ⟨W1, hW1⟩ : ∃ W1, w.alloc (.cells #[.int .i64 k1, .float .f64 n1, .string s1, .bool y1, .int .i64 c1] 28 (0, 0)) = W1 := ⟨_, rfl⟩
  have hz1 : W1.heap.size = w.heap.size + 1 := by rw [← hW1]; simp
  have hA1 : VAt W1 w.heap.size k1 n1 s1 y1 c1 := ⟨by rw [← hW1]; exact heap_alloc_new w _⟩
  have hF1 : Fr noB w W1 := by rw [← hW1]; exact (Fr.refl noB w).alloc _
  obtain ⟨W0, hW0⟩ : ∃ W0, W1.alloc (.cells #[.int .i64 k2, .float .f64 n2, .string s2, .bool y2, .int .i64 c2] 28 (0, 0)) = W0 := ⟨_, rfl⟩
  have hO : VAt W0 (w.heap.size + 1) k2 n2 s2 y2 c2 := ⟨by rw [← hW0, ← hz1]; exact heap_alloc_new W1 _⟩
  have hF2 : Fr noB W1 W0 := by rw [← hW0]; exact (Fr.refl noB W1).alloc _
  have hQ : VAt W0 w.heap.size k1 n1 s1 y1 c1 := hA1.fr hF2 id
  have hF0 : Fr noB w W0 := hF1.trans hF2
  have HQ : Hid _ := And.intro hQ hO
  rw [hW1, hW0]
  clear hW0 hW1 hF1 hF2 hA1 hz1 hQ hO
  have HK : Hid (∀ W, Fr noB w W0 → Fr noB W0 W → W.cell? ⟨w.heap.size, 0, none⟩ = some (.int .i64 k1) ∧ W.cell? ⟨w.heap.size, 1, none⟩ = some (.float .f64 n1) ∧ W.cell? ⟨w.heap.size, 2, none⟩ = some (.string s1) ∧ W.cell? ⟨w.heap.size, 3, none⟩ = some (.bool y1) ∧ W.cell? ⟨w.heap.size, 4, none⟩ = some (.int .i64 c1) ∧ W.cell? ⟨w.heap.size + 1, 0, none⟩ = some (.int .i64 k2) ∧ W.cell? ⟨w.heap.size + 1, 1, none⟩ = some (.float .f64 n2) ∧ W.cell? ⟨w.heap.size + 1, 2, none⟩ = some (.string s2) ∧ W.cell? ⟨w.heap.size + 1, 3, none⟩ = some (.bool y2) ∧ W.cell? ⟨w.heap.size + 1, 4, none⟩ = some (.int .i64 c2)) :=
    fun W _ h => ⟨(HQ.out.1.fr h id).c0, (HQ.out.1.fr h id).c1, (HQ.out.1.fr h id).c2, (HQ.out.1.fr h id).c3, (HQ.out.1.fr h id).c4, (HQ.out.2.fr h id).c0, (HQ.out.2.fr h id).c1, (HQ.out.2.fr h id).c2, (HQ.out.2.fr h id).c3, (HQ.out.2.fr h id).c4⟩
  go_region_held3 (fun W => W.cell? ⟨w.heap.size, 0, none⟩ = some (.int .i64 k1) ∧ W.cell? ⟨w.heap.size, 1, none⟩ = some (.float .f64 n1) ∧ W.cell? ⟨w.heap.size, 2, none⟩ = some (.string s1) ∧ W.cell? ⟨w.heap.size, 3, none⟩ = some (.bool y1) ∧ W.cell? ⟨w.heap.size, 4, none⟩ = some (.int .i64 c1) ∧ W.cell? ⟨w.heap.size + 1, 0, none⟩ = some (.int .i64 k2) ∧ W.cell? ⟨w.heap.size + 1, 1, none⟩ = some (.float .f64 n2) ∧ W.cell? ⟨w.heap.size + 1, 2, none⟩ = some (.string s2) ∧ W.cell? ⟨w.heap.size + 1, 3, none⟩ = some (.bool y2) ∧ W.cell? ⟨w.heap.size + 1, 4, none⟩ = some (.int .i64 c2))
    (exact HK.out _ hF0 (by repeat first | assumption | exact Fr.refl _ _ | exact Fr.drew (by assumption) | exact (Fr.refl _ _).drew | refine Fr.trans ?_ (by assumption)))
    (first
      | (go_at_call 8; with_reducible refine (HB.out _ (by first | exact hF0.drew | exact hF0)).mono ?_; rintro e w1 ⟨rfl, hG1⟩)
      | (go_at_call 25; with_reducible refine (HP.out _ (by repeat first | assumption | exact Fr.drew (by assumption) | refine Fr.trans ?_ (by assumption))).mono ?_; rintro e w2 ⟨rfl, hG2⟩)
      | (go_at_call 26; with_reducible refine (HR.out _ (by repeat first | assumption | exact Fr.drew (by assumption) | refine Fr.trans ?_ (by assumption))).mono ?_; rintro e w3 ⟨rfl, hG3⟩)
      | (go_at_call 12; with_reducible refine (HT _).mono ?_; rintro e w5 ⟨rfl, hG5⟩)
      | (go_at_call 9; with_reducible refine (HS _).mono ?_; rintro e w4 ⟨rfl, hG4⟩)
      | (go_at_call 9; with_reducible refine (HX _).mono ?_; rintro e w6 ⟨rfl, hG6⟩))
  all_goals
    go_wp2_with fail
    go_ret
    refine ⟨rfl, Fr.below (S := noB) ?_ (Nat.le_refl _) (fun _ h => h.elim)⟩
    repeat first | assumption | exact Fr.drew (by assumption) | refine Fr.trans ?_ (by assumption)
#print axioms checks_walk
end Go.Proofs.YtjdgpnhinjahjaaGreatDoor
