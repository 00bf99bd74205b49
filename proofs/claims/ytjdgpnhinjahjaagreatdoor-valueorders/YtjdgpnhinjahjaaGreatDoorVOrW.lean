/- ValueOrders: the law's walk. -/
import Derived.Test.YtjdgpnhinjahjaaGreatDoorVOrR
namespace Go.Proofs.YtjdgpnhinjahjaaGreatDoor
open Go.RowKit Ieee Go.Shelf
attribute [local go_sem] run_store_float

theorem up_empty : mvB 97 122 65 ⟨#[]⟩ = ⟨#[]⟩ := rfl
/-- The two orders are one. -/
theorem cm_same (k1 : Int) (n1 : Nat) (s1 : ByteArray) (y1 : Bool) (e1 : Int) (k2 : Int) (n2 : Nat) (s2 : ByteArray) (y2 : Bool) (e2 : Int) :
    cmK (flK k1 k2) (flN k1 n1) (flS k1 s1) (flY k1 y1) (flE k1 e1) (flK k2 k1) (flN k2 n2) (flS k2 s2) (flY k2 y2) (flE k2 e2) = cmR k1 n1 s1 y1 e1 k2 n2 s2 y2 e2 := by
  have hr1 : rk1 (flK k1 k2) = rkO k1 k2 := by
    unfold flK rkO
    by_cases h : k1 = 0
    · rw [if_pos h, if_pos h]
      by_cases h2 : k2 = 2
      · rw [if_pos h2]; rfl
      · rw [if_neg h2]; rfl
    · rw [if_neg h, if_neg h]
  have hr2 : rk1 (flK k2 k1) = rkO k2 k1 := by
    unfold flK rkO
    by_cases h : k2 = 0
    · rw [if_pos h, if_pos h]
      by_cases h2 : k1 = 2
      · rw [if_pos h2]; rfl
      · rw [if_neg h2]; rfl
    · rw [if_neg h, if_neg h]
  unfold cmK cmR
  rw [hr1, hr2]
  by_cases hne : ¬ rkO k1 k2 = rkO k2 k1
  · rw [if_pos hne, if_pos hne]
  rw [if_neg hne, if_neg hne]
  have heq : rkO k1 k2 = rkO k2 k1 := by simpa using hne
  have hk : ∀ m : Int, (1 ≤ m ∧ m ≤ 4) → (flK k1 k2 = m ↔ rkO k1 k2 = m) := by
    intro m hm
    rw [← hr1]
    unfold rk1
    constructor
    · intro h
      rw [h, if_pos hm]
    · intro h
      split at h
      · exact h
      · omega
  by_cases h1 : rkO k1 k2 = 1
  · rw [if_pos ((hk 1 (by omega)).2 h1), if_pos h1]
    have a1 : k1 = 0 ∨ k1 = 1 := by
      unfold rkO rk1 at h1
      by_cases h : k1 = 0
      · exact Or.inl h
      · rw [if_neg h] at h1
        split at h1 <;> omega
    have a2 : k2 = 0 ∨ k2 = 1 := by
      rw [heq] at h1
      unfold rkO rk1 at h1
      by_cases h : k2 = 0
      · exact Or.inl h
      · rw [if_neg h] at h1
        split at h1 <;> omega
    have e1 : flN k1 n1 = amF k1 n1 := by rcases a1 with rfl | rfl <;> rfl
    have e2 : flN k2 n2 = amF k2 n2 := by rcases a2 with rfl | rfl <;> rfl
    rw [e1, e2]
  rw [if_neg (fun h => h1 ((hk 1 (by omega)).1 h)), if_neg h1]
  by_cases h2 : rkO k1 k2 = 2
  · rw [if_pos ((hk 2 (by omega)).2 h2), if_pos h2]
    have a1 : k1 = 0 ∨ k1 = 2 := by
      unfold rkO rk1 at h2
      by_cases h : k1 = 0
      · exact Or.inl h
      · rw [if_neg h] at h2
        split at h2 <;> omega
    have a2 : k2 = 0 ∨ k2 = 2 := by
      rw [heq] at h2
      unfold rkO rk1 at h2
      by_cases h : k2 = 0
      · exact Or.inl h
      · rw [if_neg h] at h2
        split at h2 <;> omega
    have e1 : mvB 97 122 65 (flS k1 s1) = upB k1 s1 := by rcases a1 with rfl | rfl <;> rfl
    have e2 : mvB 97 122 65 (flS k2 s2) = upB k2 s2 := by rcases a2 with rfl | rfl <;> rfl
    rw [e1, e2]
  rw [if_neg (fun h => h2 ((hk 2 (by omega)).1 h)), if_neg h2]
  have hz1 : (rkO k1 k2 = 3 ∨ rkO k1 k2 = 4) → ¬ k1 = 0 ∧ ¬ k2 = 0 := by
    intro h
    constructor
    · intro h0
      rw [h0] at h
      unfold rkO at h
      rw [if_pos rfl] at h
      split at h <;> omega
    · intro h0
      rw [heq, h0] at h
      unfold rkO at h
      rw [if_pos rfl] at h
      split at h <;> omega
  by_cases h3 : rkO k1 k2 = 3
  · rw [if_pos ((hk 3 (by omega)).2 h3), if_pos h3]
    obtain ⟨z1, z2⟩ := hz1 (Or.inl h3)
    unfold flY
    rw [if_neg z1, if_neg z2]
  rw [if_neg (fun h => h3 ((hk 3 (by omega)).1 h)), if_neg h3]
  by_cases h4 : rkO k1 k2 = 4
  · rw [if_pos ((hk 4 (by omega)).2 h4), if_pos h4]
    obtain ⟨z1, z2⟩ := hz1 (Or.inr h4)
    unfold flE
    rw [if_neg z1, if_neg z2]
  rw [if_neg (fun h => h4 ((hk 4 (by omega)).1 h)), if_neg h4]
theorem pcompare_any (k1 : Int) (n1 : Nat) (s1 : ByteArray) (y1 : Bool) (e1 : Int) (k2 : Int) (n2 : Nat) (s2 : ByteArray) (y2 : Bool) (e2 : Int) (w : World) :
    Calls Tryz.prog 27 #[(.agg #[.int .i64 k1, .float .f64 n1, .string s1, .bool y1, .int .i64 e1]), (.agg #[.int .i64 k2, .float .f64 n2, .string s2, .bool y2, .int .i64 e2])] w fun e w' => e = .returned (.int .i64 (cmR k1 n1 s1 y1 e1 k2 n2 s2 y2 e2)) ∧ Fr noB w w' := by
  have h := pcompare_fill k1 n1 s1 y1 e1 k2 n2 s2 y2 e2 _ _ _ _ _ _ _ _ _ _ w (filled_any k1 n1 s1 y1 e1 k2) (filled_any k2 n2 s2 y2 e2 k1)
  rw [cm_same] at h
  exact h
set_option maxRecDepth 100000 in
set_option maxHeartbeats 4000000 in
theorem orders_walk (k1 : Int) (n1 : Nat) (s1 : ByteArray) (y1 : Bool) (c1 : Int) (k2 : Int) (n2 : Nat) (s2 : ByteArray) (y2 : Bool) (c2 : Int) (hl1 : s1.size ≤ 140737488355328) (hl2 : s2.size ≤ 140737488355328) (w : World) (hT : VTabs w) :
    Calls Tryz.prog 6 #[(.agg #[.int .i64 k1, .float .f64 n1, .string s1, .bool y1, .int .i64 c1]), (.agg #[.int .i64 k2, .float .f64 n2, .string s2, .bool y2, .int .i64 c2])] w fun e w' => e = .returned (.bool true) ∧ Below w.heap.size w w' := by
  have HB : Hid (∀ W, Fr noB w W → Calls Tryz.prog 8 #[] W fun e w' => e = .returned (.bool true) ∧ Fr noB W w') := fun W hW => begun_true W (hT.fr hW)
  have H1 := pcompare_any k1 n1 s1 y1 c1 k2 n2 s2 y2 c2
  have H2 : ∀ W, Calls Tryz.prog 28 #[(.agg #[.int .i64 k1, .float .f64 n1, .string s1, .bool y1, .int .i64 c1]), (.agg #[.int .i64 k2, .float .f64 n2, .string s2, .bool y2, .int .i64 c2])] W fun e w' => e = .returned (.int .i64 (cmR k1 n1 s1 y1 c1 k2 n2 s2 y2 c2)) ∧ Fr noB W w' := fun W => rcompare_any k1 n1 s1 y1 c1 k2 n2 s2 y2 c2 W hl1 hl2
  generalize cmR k1 n1 s1 y1 c1 k2 n2 s2 y2 c2 = A at *
  have hA : (A == A) = true := by simp
  clear hT hl1 hl2
  go_enter Tryz.func6, Tryz.ntmps6
  go_wp2_with fail
  obtain ⟨W1, hW1⟩ : ∃ W1, w.alloc (.cells #[.int .i64 k1, .float .f64 n1, .string s1, .bool y1, .int .i64 c1] 28 (0, 0)) = W1 := ⟨_, rfl⟩
  have hz1 : W1.heap.size = w.heap.size + 1 := by rw [← hW1]; simp
  have hA1 : VAt W1 w.heap.size k1 n1 s1 y1 c1 := ⟨by rw [← hW1]; exact heap_alloc_new w _⟩
  have hF1 : Fr noB w W1 := by rw [← hW1]; exact (Fr.refl noB w).alloc _
  obtain ⟨W0, hW0⟩ : ∃ W0, W1.alloc (.cells #[.int .i64 k2, .float .f64 n2, .string s2, .bool y2, .int .i64 c2] 28 (0, 0)) = W0 := ⟨_, rfl⟩
  have hO : VAt W0 (w.heap.size + 1) k2 n2 s2 y2 c2 := ⟨by rw [← hW0, ← hz1]; exact heap_alloc_new W1 _⟩
  have hF2 : Fr noB W1 W0 := by rw [← hW0]; exact (Fr.refl noB W1).alloc _
  have hQ : VAt W0 w.heap.size k1 n1 s1 y1 c1 := hA1.fr hF2 id
  have hF0 : Fr noB w W0 := hF1.trans hF2
  have HQ : Hid _ := And.intro hQ hO
  rw [hW1, hW0]
  clear hW0 hW1 hF1 hF2 hA1 hz1 hQ hO
  have HK : Hid (∀ W, Fr noB w W0 → Fr noB W0 W → W.cell? ⟨w.heap.size, 0, none⟩ = some (.int .i64 k1) ∧ W.cell? ⟨w.heap.size, 1, none⟩ = some (.float .f64 n1) ∧ W.cell? ⟨w.heap.size, 2, none⟩ = some (.string s1) ∧ W.cell? ⟨w.heap.size, 3, none⟩ = some (.bool y1) ∧ W.cell? ⟨w.heap.size, 4, none⟩ = some (.int .i64 c1) ∧ W.cell? ⟨w.heap.size + 1, 0, none⟩ = some (.int .i64 k2) ∧ W.cell? ⟨w.heap.size + 1, 1, none⟩ = some (.float .f64 n2) ∧ W.cell? ⟨w.heap.size + 1, 2, none⟩ = some (.string s2) ∧ W.cell? ⟨w.heap.size + 1, 3, none⟩ = some (.bool y2) ∧ W.cell? ⟨w.heap.size + 1, 4, none⟩ = some (.int .i64 c2)) :=
    fun W _ h => ⟨(HQ.out.1.fr h id).c0, (HQ.out.1.fr h id).c1, (HQ.out.1.fr h id).c2, (HQ.out.1.fr h id).c3, (HQ.out.1.fr h id).c4, (HQ.out.2.fr h id).c0, (HQ.out.2.fr h id).c1, (HQ.out.2.fr h id).c2, (HQ.out.2.fr h id).c3, (HQ.out.2.fr h id).c4⟩
  go_region_held3 (fun W => W.cell? ⟨w.heap.size, 0, none⟩ = some (.int .i64 k1) ∧ W.cell? ⟨w.heap.size, 1, none⟩ = some (.float .f64 n1) ∧ W.cell? ⟨w.heap.size, 2, none⟩ = some (.string s1) ∧ W.cell? ⟨w.heap.size, 3, none⟩ = some (.bool y1) ∧ W.cell? ⟨w.heap.size, 4, none⟩ = some (.int .i64 c1) ∧ W.cell? ⟨w.heap.size + 1, 0, none⟩ = some (.int .i64 k2) ∧ W.cell? ⟨w.heap.size + 1, 1, none⟩ = some (.float .f64 n2) ∧ W.cell? ⟨w.heap.size + 1, 2, none⟩ = some (.string s2) ∧ W.cell? ⟨w.heap.size + 1, 3, none⟩ = some (.bool y2) ∧ W.cell? ⟨w.heap.size + 1, 4, none⟩ = some (.int .i64 c2))
    (exact HK.out _ hF0 (by repeat first | assumption | exact Fr.refl _ _ | exact Fr.drew (by assumption) | exact (Fr.refl _ _).drew | refine Fr.trans ?_ (by assumption)))
    (first
      | (go_at_call 8; with_reducible refine (HB.out _ (by first | exact hF0.drew | exact hF0)).mono ?_; rintro e w1 ⟨rfl, hG1⟩)
      | (go_at_call 27; with_reducible refine (H1 _).mono ?_; rintro e w2 ⟨rfl, hG2⟩)
      | (go_at_call 28; with_reducible refine (H2 _).mono ?_; rintro e w3 ⟨rfl, hG3⟩))
  all_goals
    go_wp2_with fail
    go_ret
    refine ⟨rfl, Fr.below (S := noB) ?_ (Nat.le_refl _) (fun _ h => h.elim)⟩
    repeat first | assumption | exact Fr.drew (by assumption) | refine Fr.trans ?_ (by assumption)
#print axioms orders_walk
end Go.Proofs.YtjdgpnhinjahjaaGreatDoor
