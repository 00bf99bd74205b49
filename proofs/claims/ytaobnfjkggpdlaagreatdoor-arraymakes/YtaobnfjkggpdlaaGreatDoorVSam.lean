/- Same of two values: the program's and the document's. -/
import Derived.Test.YtaobnfjkggpdlaaGreatDoorVVal
namespace Go.Proofs.YtaobnfjkggpdlaaGreatDoor
open Go.RowKit Ieee Go.Shelf
attribute [local go_sem] run_store_float

theorem toList_inj {s t : ByteArray} (h : s.toList = t.toList) : s = t := by
  rw [ByteArray.toList_eq, ByteArray.toList_eq] at h
  cases s
  cases t
  congr 1
  exact Array.toList_inj.1 h
/-- Are two values the same? -/
def smB (k1 : Int) (n1 : Nat) (s1 : ByteArray) (y1 : Bool) (e1 : Int) (k2 : Int) (n2 : Nat) (s2 : ByteArray) (y2 : Bool) (e2 : Int) : Bool := decide (k1 = k2 ∧ n1 = n2 ∧ s1 = s2 ∧ y1 = y2 ∧ e1 = e2)
theorem smB_self (k : Int) (n : Nat) (s : ByteArray) (y : Bool) (e : Int) : smB k n s y e k n s y e = true := by simp [smB]
set_option maxRecDepth 100000 in
set_option maxHeartbeats 2000000 in
theorem psame_any (k1 : Int) (n1 : Nat) (s1 : ByteArray) (y1 : Bool) (e1 : Int) (k2 : Int) (n2 : Nat) (s2 : ByteArray) (y2 : Bool) (e2 : Int) (w : World) :
    Calls Tryz.prog 70 #[(.agg #[.int .i64 k1, .float .f64 n1, .string s1, .bool y1, .int .i64 e1]), (.agg #[.int .i64 k2, .float .f64 n2, .string s2, .bool y2, .int .i64 e2])] w fun e w' => e = .returned (.bool (smB k1 n1 s1 y1 e1 k2 n2 s2 y2 e2)) ∧ Fr noB w w' := by
  have r1 : ∀ W, _ := run_bits n1
  have r2 : ∀ W, _ := run_bits n2
  by_cases c : k1 = k2
  rotate_left
  · have hR : smB k1 n1 s1 y1 e1 k2 n2 s2 y2 e2 = false := by unfold smB; exact decide_eq_false (fun h => c (by simp [h]))
    rw [hR]
    have hk : (k1 == k2) = false := by simpa using c
    clear hR c
    go_enter Tryz.func70, Tryz.ntmps70
    go_wp2_with fail
    obtain ⟨W1, hW1⟩ : ∃ W1, w.alloc (.cells #[.int .i64 k1, .float .f64 n1, .string s1, .bool y1, .int .i64 e1] 43 (0, 0)) = W1 := ⟨_, rfl⟩
    have hz1 : W1.heap.size = w.heap.size + 1 := by rw [← hW1]; simp
    have hA1 : VAt W1 w.heap.size k1 n1 s1 y1 e1 := ⟨by rw [← hW1]; exact heap_alloc_new w _⟩
    have hF1 : Fr noB w W1 := by rw [← hW1]; exact (Fr.refl noB w).alloc _
    obtain ⟨W0, hW0⟩ : ∃ W0, W1.alloc (.cells #[.int .i64 k2, .float .f64 n2, .string s2, .bool y2, .int .i64 e2] 43 (0, 0)) = W0 := ⟨_, rfl⟩
    have hB : VAt W0 (w.heap.size + 1) k2 n2 s2 y2 e2 := ⟨by rw [← hW0, ← hz1]; exact heap_alloc_new W1 _⟩
    have hF2 : Fr noB W1 W0 := by rw [← hW0]; exact (Fr.refl noB W1).alloc _
    have hA : VAt W0 w.heap.size k1 n1 s1 y1 e1 := hA1.fr hF2 id
    have HF0 : Hid (Fr noB w W0) := hF1.trans hF2
    rw [hW1, hW0]
    clear hW0 hW1 hF1 hF2 hA1 hz1
    have a0 := hA.c0
    have b0 := hB.c0
    have a1 := hA.c1
    have b1 := hB.c1
    have a2 := hA.c2
    have b2 := hB.c2
    have a3 := hA.c3
    have b3 := hB.c3
    have a4 := hA.c4
    have b4 := hB.c4
    clear hA hB
    go_quiet (fail)
    go_wp2_with fail
    go_ret
    exact ⟨rfl, HF0.out.drewN _⟩
  subst c
  by_cases c : n1 = n2
  rotate_left
  · have hR : smB k1 n1 s1 y1 e1 k1 n2 s2 y2 e2 = false := by unfold smB; exact decide_eq_false (fun h => c (by simp [h]))
    rw [hR]
    have hn : ((n1 : Int) == (n2 : Int)) = false := by rw [beq_eq_false_iff_ne]; omega
    clear hR c
    go_enter Tryz.func70, Tryz.ntmps70
    go_wp2_with fail
    obtain ⟨W1, hW1⟩ : ∃ W1, w.alloc (.cells #[.int .i64 k1, .float .f64 n1, .string s1, .bool y1, .int .i64 e1] 43 (0, 0)) = W1 := ⟨_, rfl⟩
    have hz1 : W1.heap.size = w.heap.size + 1 := by rw [← hW1]; simp
    have hA1 : VAt W1 w.heap.size k1 n1 s1 y1 e1 := ⟨by rw [← hW1]; exact heap_alloc_new w _⟩
    have hF1 : Fr noB w W1 := by rw [← hW1]; exact (Fr.refl noB w).alloc _
    obtain ⟨W0, hW0⟩ : ∃ W0, W1.alloc (.cells #[.int .i64 k1, .float .f64 n2, .string s2, .bool y2, .int .i64 e2] 43 (0, 0)) = W0 := ⟨_, rfl⟩
    have hB : VAt W0 (w.heap.size + 1) k1 n2 s2 y2 e2 := ⟨by rw [← hW0, ← hz1]; exact heap_alloc_new W1 _⟩
    have hF2 : Fr noB W1 W0 := by rw [← hW0]; exact (Fr.refl noB W1).alloc _
    have hA : VAt W0 w.heap.size k1 n1 s1 y1 e1 := hA1.fr hF2 id
    have HF0 : Hid (Fr noB w W0) := hF1.trans hF2
    rw [hW1, hW0]
    clear hW0 hW1 hF1 hF2 hA1 hz1
    have a0 := hA.c0
    have b0 := hB.c0
    have a1 := hA.c1
    have b1 := hB.c1
    have a2 := hA.c2
    have b2 := hB.c2
    have a3 := hA.c3
    have b3 := hB.c3
    have a4 := hA.c4
    have b4 := hB.c4
    clear hA hB
    go_quiet (fail)
    go_wp2_with fail
    go_ret
    exact ⟨rfl, HF0.out.drewN _⟩
  subst c
  by_cases c : s1 = s2
  rotate_left
  · have hR : smB k1 n1 s1 y1 e1 k1 n1 s2 y2 e2 = false := by unfold smB; exact decide_eq_false (fun h => c (by simp [h]))
    rw [hR]
    have hs : (s1.toList == s2.toList) = false := by rw [beq_eq_false_iff_ne]; intro h; exact c (toList_inj h)
    clear hR c
    go_enter Tryz.func70, Tryz.ntmps70
    go_wp2_with fail
    obtain ⟨W1, hW1⟩ : ∃ W1, w.alloc (.cells #[.int .i64 k1, .float .f64 n1, .string s1, .bool y1, .int .i64 e1] 43 (0, 0)) = W1 := ⟨_, rfl⟩
    have hz1 : W1.heap.size = w.heap.size + 1 := by rw [← hW1]; simp
    have hA1 : VAt W1 w.heap.size k1 n1 s1 y1 e1 := ⟨by rw [← hW1]; exact heap_alloc_new w _⟩
    have hF1 : Fr noB w W1 := by rw [← hW1]; exact (Fr.refl noB w).alloc _
    obtain ⟨W0, hW0⟩ : ∃ W0, W1.alloc (.cells #[.int .i64 k1, .float .f64 n1, .string s2, .bool y2, .int .i64 e2] 43 (0, 0)) = W0 := ⟨_, rfl⟩
    have hB : VAt W0 (w.heap.size + 1) k1 n1 s2 y2 e2 := ⟨by rw [← hW0, ← hz1]; exact heap_alloc_new W1 _⟩
    have hF2 : Fr noB W1 W0 := by rw [← hW0]; exact (Fr.refl noB W1).alloc _
    have hA : VAt W0 w.heap.size k1 n1 s1 y1 e1 := hA1.fr hF2 id
    have HF0 : Hid (Fr noB w W0) := hF1.trans hF2
    rw [hW1, hW0]
    clear hW0 hW1 hF1 hF2 hA1 hz1
    have a0 := hA.c0
    have b0 := hB.c0
    have a1 := hA.c1
    have b1 := hB.c1
    have a2 := hA.c2
    have b2 := hB.c2
    have a3 := hA.c3
    have b3 := hB.c3
    have a4 := hA.c4
    have b4 := hB.c4
    clear hA hB
    go_quiet (fail)
    go_wp2_with fail
    go_ret
    exact ⟨rfl, HF0.out.drewN _⟩
  subst c
  by_cases c : y1 = y2
  rotate_left
  · have hR : smB k1 n1 s1 y1 e1 k1 n1 s1 y2 e2 = false := by unfold smB; exact decide_eq_false (fun h => c (by simp [h]))
    rw [hR]
    have hy : (y1 == y2) = false := by simpa using c
    clear hR c
    go_enter Tryz.func70, Tryz.ntmps70
    go_wp2_with fail
    obtain ⟨W1, hW1⟩ : ∃ W1, w.alloc (.cells #[.int .i64 k1, .float .f64 n1, .string s1, .bool y1, .int .i64 e1] 43 (0, 0)) = W1 := ⟨_, rfl⟩
    have hz1 : W1.heap.size = w.heap.size + 1 := by rw [← hW1]; simp
    have hA1 : VAt W1 w.heap.size k1 n1 s1 y1 e1 := ⟨by rw [← hW1]; exact heap_alloc_new w _⟩
    have hF1 : Fr noB w W1 := by rw [← hW1]; exact (Fr.refl noB w).alloc _
    obtain ⟨W0, hW0⟩ : ∃ W0, W1.alloc (.cells #[.int .i64 k1, .float .f64 n1, .string s1, .bool y2, .int .i64 e2] 43 (0, 0)) = W0 := ⟨_, rfl⟩
    have hB : VAt W0 (w.heap.size + 1) k1 n1 s1 y2 e2 := ⟨by rw [← hW0, ← hz1]; exact heap_alloc_new W1 _⟩
    have hF2 : Fr noB W1 W0 := by rw [← hW0]; exact (Fr.refl noB W1).alloc _
    have hA : VAt W0 w.heap.size k1 n1 s1 y1 e1 := hA1.fr hF2 id
    have HF0 : Hid (Fr noB w W0) := hF1.trans hF2
    rw [hW1, hW0]
    clear hW0 hW1 hF1 hF2 hA1 hz1
    have a0 := hA.c0
    have b0 := hB.c0
    have a1 := hA.c1
    have b1 := hB.c1
    have a2 := hA.c2
    have b2 := hB.c2
    have a3 := hA.c3
    have b3 := hB.c3
    have a4 := hA.c4
    have b4 := hB.c4
    clear hA hB
    go_quiet (fail)
    go_wp2_with fail
    go_ret
    exact ⟨rfl, HF0.out.drewN _⟩
  subst c
  by_cases c : e1 = e2
  rotate_left
  · have hR : smB k1 n1 s1 y1 e1 k1 n1 s1 y1 e2 = false := by unfold smB; exact decide_eq_false (fun h => c (by simp [h]))
    rw [hR]
    have he : (e1 == e2) = false := by simpa using c
    clear hR c
    go_enter Tryz.func70, Tryz.ntmps70
    go_wp2_with fail
    obtain ⟨W1, hW1⟩ : ∃ W1, w.alloc (.cells #[.int .i64 k1, .float .f64 n1, .string s1, .bool y1, .int .i64 e1] 43 (0, 0)) = W1 := ⟨_, rfl⟩
    have hz1 : W1.heap.size = w.heap.size + 1 := by rw [← hW1]; simp
    have hA1 : VAt W1 w.heap.size k1 n1 s1 y1 e1 := ⟨by rw [← hW1]; exact heap_alloc_new w _⟩
    have hF1 : Fr noB w W1 := by rw [← hW1]; exact (Fr.refl noB w).alloc _
    obtain ⟨W0, hW0⟩ : ∃ W0, W1.alloc (.cells #[.int .i64 k1, .float .f64 n1, .string s1, .bool y1, .int .i64 e2] 43 (0, 0)) = W0 := ⟨_, rfl⟩
    have hB : VAt W0 (w.heap.size + 1) k1 n1 s1 y1 e2 := ⟨by rw [← hW0, ← hz1]; exact heap_alloc_new W1 _⟩
    have hF2 : Fr noB W1 W0 := by rw [← hW0]; exact (Fr.refl noB W1).alloc _
    have hA : VAt W0 w.heap.size k1 n1 s1 y1 e1 := hA1.fr hF2 id
    have HF0 : Hid (Fr noB w W0) := hF1.trans hF2
    rw [hW1, hW0]
    clear hW0 hW1 hF1 hF2 hA1 hz1
    have a0 := hA.c0
    have b0 := hB.c0
    have a1 := hA.c1
    have b1 := hB.c1
    have a2 := hA.c2
    have b2 := hB.c2
    have a3 := hA.c3
    have b3 := hB.c3
    have a4 := hA.c4
    have b4 := hB.c4
    clear hA hB
    go_quiet (fail)
    go_wp2_with fail
    go_ret
    exact ⟨rfl, HF0.out.drewN _⟩
  subst c
  have hR : smB k1 n1 s1 y1 e1 k1 n1 s1 y1 e1 = true := smB_self _ _ _ _ _
  rw [hR]
  have hs : (s1.toList == s1.toList) = true := by simp
  clear hR
  go_enter Tryz.func70, Tryz.ntmps70
  go_wp2_with fail
  obtain ⟨W1, hW1⟩ : ∃ W1, w.alloc (.cells #[.int .i64 k1, .float .f64 n1, .string s1, .bool y1, .int .i64 e1] 43 (0, 0)) = W1 := ⟨_, rfl⟩
  have hz1 : W1.heap.size = w.heap.size + 1 := by rw [← hW1]; simp
  have hA1 : VAt W1 w.heap.size k1 n1 s1 y1 e1 := ⟨by rw [← hW1]; exact heap_alloc_new w _⟩
  have hF1 : Fr noB w W1 := by rw [← hW1]; exact (Fr.refl noB w).alloc _
  obtain ⟨W0, hW0⟩ : ∃ W0, W1.alloc (.cells #[.int .i64 k1, .float .f64 n1, .string s1, .bool y1, .int .i64 e1] 43 (0, 0)) = W0 := ⟨_, rfl⟩
  have hB : VAt W0 (w.heap.size + 1) k1 n1 s1 y1 e1 := ⟨by rw [← hW0, ← hz1]; exact heap_alloc_new W1 _⟩
  have hF2 : Fr noB W1 W0 := by rw [← hW0]; exact (Fr.refl noB W1).alloc _
  have hA : VAt W0 w.heap.size k1 n1 s1 y1 e1 := hA1.fr hF2 id
  have HF0 : Hid (Fr noB w W0) := hF1.trans hF2
  rw [hW1, hW0]
  clear hW0 hW1 hF1 hF2 hA1 hz1
  have a0 := hA.c0
  have b0 := hB.c0
  have a1 := hA.c1
  have b1 := hB.c1
  have a2 := hA.c2
  have b2 := hB.c2
  have a3 := hA.c3
  have b3 := hB.c3
  have a4 := hA.c4
  have b4 := hB.c4
  clear hA hB
  go_quiet (fail)
  go_wp2_with fail
  go_ret
  exact ⟨ret_bool (by simp), HF0.out.drewN _⟩
set_option maxRecDepth 100000 in
set_option maxHeartbeats 2000000 in
theorem rsame_any (k1 : Int) (n1 : Nat) (s1 : ByteArray) (y1 : Bool) (e1 : Int) (k2 : Int) (n2 : Nat) (s2 : ByteArray) (y2 : Bool) (e2 : Int) (w : World) :
    Calls Tryz.prog 21 #[(.agg #[.int .i64 k1, .float .f64 n1, .string s1, .bool y1, .int .i64 e1]), (.agg #[.int .i64 k2, .float .f64 n2, .string s2, .bool y2, .int .i64 e2])] w fun e w' => e = .returned (.bool (smB k1 n1 s1 y1 e1 k2 n2 s2 y2 e2)) ∧ Fr noB w w' := by
  have r1 : ∀ W, _ := run_bits n1
  have r2 : ∀ W, _ := run_bits n2
  by_cases c : k1 = k2
  rotate_left
  · have hR : smB k1 n1 s1 y1 e1 k2 n2 s2 y2 e2 = false := by unfold smB; exact decide_eq_false (fun h => c (by simp [h]))
    rw [hR]
    have hk : (k1 == k2) = false := by simpa using c
    clear hR c
    go_enter Tryz.func21, Tryz.ntmps21
    go_wp2_with fail
    obtain ⟨W1, hW1⟩ : ∃ W1, w.alloc (.cells #[.int .i64 k1, .float .f64 n1, .string s1, .bool y1, .int .i64 e1] 43 (0, 0)) = W1 := ⟨_, rfl⟩
    have hz1 : W1.heap.size = w.heap.size + 1 := by rw [← hW1]; simp
    have hA1 : VAt W1 w.heap.size k1 n1 s1 y1 e1 := ⟨by rw [← hW1]; exact heap_alloc_new w _⟩
    have hF1 : Fr noB w W1 := by rw [← hW1]; exact (Fr.refl noB w).alloc _
    obtain ⟨W0, hW0⟩ : ∃ W0, W1.alloc (.cells #[.int .i64 k2, .float .f64 n2, .string s2, .bool y2, .int .i64 e2] 43 (0, 0)) = W0 := ⟨_, rfl⟩
    have hB : VAt W0 (w.heap.size + 1) k2 n2 s2 y2 e2 := ⟨by rw [← hW0, ← hz1]; exact heap_alloc_new W1 _⟩
    have hF2 : Fr noB W1 W0 := by rw [← hW0]; exact (Fr.refl noB W1).alloc _
    have hA : VAt W0 w.heap.size k1 n1 s1 y1 e1 := hA1.fr hF2 id
    have HF0 : Hid (Fr noB w W0) := hF1.trans hF2
    rw [hW1, hW0]
    clear hW0 hW1 hF1 hF2 hA1 hz1
    have a0 := hA.c0
    have b0 := hB.c0
    have a1 := hA.c1
    have b1 := hB.c1
    have a2 := hA.c2
    have b2 := hB.c2
    have a3 := hA.c3
    have b3 := hB.c3
    have a4 := hA.c4
    have b4 := hB.c4
    clear hA hB
    go_quiet (fail)
    go_wp2_with fail
    go_ret
    exact ⟨rfl, HF0.out.drewN _⟩
  subst c
  by_cases c : s1 = s2
  rotate_left
  · have hR : smB k1 n1 s1 y1 e1 k1 n2 s2 y2 e2 = false := by unfold smB; exact decide_eq_false (fun h => c (by simp [h]))
    rw [hR]
    have hs : (s1.toList == s2.toList) = false := by rw [beq_eq_false_iff_ne]; intro h; exact c (toList_inj h)
    clear hR c
    go_enter Tryz.func21, Tryz.ntmps21
    go_wp2_with fail
    obtain ⟨W1, hW1⟩ : ∃ W1, w.alloc (.cells #[.int .i64 k1, .float .f64 n1, .string s1, .bool y1, .int .i64 e1] 43 (0, 0)) = W1 := ⟨_, rfl⟩
    have hz1 : W1.heap.size = w.heap.size + 1 := by rw [← hW1]; simp
    have hA1 : VAt W1 w.heap.size k1 n1 s1 y1 e1 := ⟨by rw [← hW1]; exact heap_alloc_new w _⟩
    have hF1 : Fr noB w W1 := by rw [← hW1]; exact (Fr.refl noB w).alloc _
    obtain ⟨W0, hW0⟩ : ∃ W0, W1.alloc (.cells #[.int .i64 k1, .float .f64 n2, .string s2, .bool y2, .int .i64 e2] 43 (0, 0)) = W0 := ⟨_, rfl⟩
    have hB : VAt W0 (w.heap.size + 1) k1 n2 s2 y2 e2 := ⟨by rw [← hW0, ← hz1]; exact heap_alloc_new W1 _⟩
    have hF2 : Fr noB W1 W0 := by rw [← hW0]; exact (Fr.refl noB W1).alloc _
    have hA : VAt W0 w.heap.size k1 n1 s1 y1 e1 := hA1.fr hF2 id
    have HF0 : Hid (Fr noB w W0) := hF1.trans hF2
    rw [hW1, hW0]
    clear hW0 hW1 hF1 hF2 hA1 hz1
    have a0 := hA.c0
    have b0 := hB.c0
    have a1 := hA.c1
    have b1 := hB.c1
    have a2 := hA.c2
    have b2 := hB.c2
    have a3 := hA.c3
    have b3 := hB.c3
    have a4 := hA.c4
    have b4 := hB.c4
    clear hA hB
    go_quiet (fail)
    go_wp2_with fail
    go_ret
    exact ⟨rfl, HF0.out.drewN _⟩
  subst c
  by_cases c : y1 = y2
  rotate_left
  · have hR : smB k1 n1 s1 y1 e1 k1 n2 s1 y2 e2 = false := by unfold smB; exact decide_eq_false (fun h => c (by simp [h]))
    rw [hR]
    have hy : (y1 == y2) = false := by simpa using c
    clear hR c
    go_enter Tryz.func21, Tryz.ntmps21
    go_wp2_with fail
    obtain ⟨W1, hW1⟩ : ∃ W1, w.alloc (.cells #[.int .i64 k1, .float .f64 n1, .string s1, .bool y1, .int .i64 e1] 43 (0, 0)) = W1 := ⟨_, rfl⟩
    have hz1 : W1.heap.size = w.heap.size + 1 := by rw [← hW1]; simp
    have hA1 : VAt W1 w.heap.size k1 n1 s1 y1 e1 := ⟨by rw [← hW1]; exact heap_alloc_new w _⟩
    have hF1 : Fr noB w W1 := by rw [← hW1]; exact (Fr.refl noB w).alloc _
    obtain ⟨W0, hW0⟩ : ∃ W0, W1.alloc (.cells #[.int .i64 k1, .float .f64 n2, .string s1, .bool y2, .int .i64 e2] 43 (0, 0)) = W0 := ⟨_, rfl⟩
    have hB : VAt W0 (w.heap.size + 1) k1 n2 s1 y2 e2 := ⟨by rw [← hW0, ← hz1]; exact heap_alloc_new W1 _⟩
    have hF2 : Fr noB W1 W0 := by rw [← hW0]; exact (Fr.refl noB W1).alloc _
    have hA : VAt W0 w.heap.size k1 n1 s1 y1 e1 := hA1.fr hF2 id
    have HF0 : Hid (Fr noB w W0) := hF1.trans hF2
    rw [hW1, hW0]
    clear hW0 hW1 hF1 hF2 hA1 hz1
    have a0 := hA.c0
    have b0 := hB.c0
    have a1 := hA.c1
    have b1 := hB.c1
    have a2 := hA.c2
    have b2 := hB.c2
    have a3 := hA.c3
    have b3 := hB.c3
    have a4 := hA.c4
    have b4 := hB.c4
    clear hA hB
    go_quiet (fail)
    go_wp2_with fail
    go_ret
    exact ⟨rfl, HF0.out.drewN _⟩
  subst c
  by_cases c : e1 = e2
  rotate_left
  · have hR : smB k1 n1 s1 y1 e1 k1 n2 s1 y1 e2 = false := by unfold smB; exact decide_eq_false (fun h => c (by simp [h]))
    rw [hR]
    have he : (e1 == e2) = false := by simpa using c
    clear hR c
    go_enter Tryz.func21, Tryz.ntmps21
    go_wp2_with fail
    obtain ⟨W1, hW1⟩ : ∃ W1, w.alloc (.cells #[.int .i64 k1, .float .f64 n1, .string s1, .bool y1, .int .i64 e1] 43 (0, 0)) = W1 := ⟨_, rfl⟩
    have hz1 : W1.heap.size = w.heap.size + 1 := by rw [← hW1]; simp
    have hA1 : VAt W1 w.heap.size k1 n1 s1 y1 e1 := ⟨by rw [← hW1]; exact heap_alloc_new w _⟩
    have hF1 : Fr noB w W1 := by rw [← hW1]; exact (Fr.refl noB w).alloc _
    obtain ⟨W0, hW0⟩ : ∃ W0, W1.alloc (.cells #[.int .i64 k1, .float .f64 n2, .string s1, .bool y1, .int .i64 e2] 43 (0, 0)) = W0 := ⟨_, rfl⟩
    have hB : VAt W0 (w.heap.size + 1) k1 n2 s1 y1 e2 := ⟨by rw [← hW0, ← hz1]; exact heap_alloc_new W1 _⟩
    have hF2 : Fr noB W1 W0 := by rw [← hW0]; exact (Fr.refl noB W1).alloc _
    have hA : VAt W0 w.heap.size k1 n1 s1 y1 e1 := hA1.fr hF2 id
    have HF0 : Hid (Fr noB w W0) := hF1.trans hF2
    rw [hW1, hW0]
    clear hW0 hW1 hF1 hF2 hA1 hz1
    have a0 := hA.c0
    have b0 := hB.c0
    have a1 := hA.c1
    have b1 := hB.c1
    have a2 := hA.c2
    have b2 := hB.c2
    have a3 := hA.c3
    have b3 := hB.c3
    have a4 := hA.c4
    have b4 := hB.c4
    clear hA hB
    go_quiet (fail)
    go_wp2_with fail
    go_ret
    exact ⟨rfl, HF0.out.drewN _⟩
  subst c
  by_cases c : n1 = n2
  rotate_left
  · have hR : smB k1 n1 s1 y1 e1 k1 n2 s1 y1 e1 = false := by unfold smB; exact decide_eq_false (fun h => c (by simp [h]))
    rw [hR]
    have hn : ((n1 : Int) == (n2 : Int)) = false := by rw [beq_eq_false_iff_ne]; omega
    clear hR c
    go_enter Tryz.func21, Tryz.ntmps21
    go_wp2_with fail
    obtain ⟨W1, hW1⟩ : ∃ W1, w.alloc (.cells #[.int .i64 k1, .float .f64 n1, .string s1, .bool y1, .int .i64 e1] 43 (0, 0)) = W1 := ⟨_, rfl⟩
    have hz1 : W1.heap.size = w.heap.size + 1 := by rw [← hW1]; simp
    have hA1 : VAt W1 w.heap.size k1 n1 s1 y1 e1 := ⟨by rw [← hW1]; exact heap_alloc_new w _⟩
    have hF1 : Fr noB w W1 := by rw [← hW1]; exact (Fr.refl noB w).alloc _
    obtain ⟨W0, hW0⟩ : ∃ W0, W1.alloc (.cells #[.int .i64 k1, .float .f64 n2, .string s1, .bool y1, .int .i64 e1] 43 (0, 0)) = W0 := ⟨_, rfl⟩
    have hB : VAt W0 (w.heap.size + 1) k1 n2 s1 y1 e1 := ⟨by rw [← hW0, ← hz1]; exact heap_alloc_new W1 _⟩
    have hF2 : Fr noB W1 W0 := by rw [← hW0]; exact (Fr.refl noB W1).alloc _
    have hA : VAt W0 w.heap.size k1 n1 s1 y1 e1 := hA1.fr hF2 id
    have HF0 : Hid (Fr noB w W0) := hF1.trans hF2
    rw [hW1, hW0]
    clear hW0 hW1 hF1 hF2 hA1 hz1
    have a0 := hA.c0
    have b0 := hB.c0
    have a1 := hA.c1
    have b1 := hB.c1
    have a2 := hA.c2
    have b2 := hB.c2
    have a3 := hA.c3
    have b3 := hB.c3
    have a4 := hA.c4
    have b4 := hB.c4
    clear hA hB
    go_quiet (fail)
    go_wp2_with fail
    go_ret
    exact ⟨rfl, HF0.out.drewN _⟩
  subst c
  have hR : smB k1 n1 s1 y1 e1 k1 n1 s1 y1 e1 = true := smB_self _ _ _ _ _
  rw [hR]
  have hs : (s1.toList == s1.toList) = true := by simp
  clear hR
  go_enter Tryz.func21, Tryz.ntmps21
  go_wp2_with fail
  obtain ⟨W1, hW1⟩ : ∃ W1, w.alloc (.cells #[.int .i64 k1, .float .f64 n1, .string s1, .bool y1, .int .i64 e1] 43 (0, 0)) = W1 := ⟨_, rfl⟩
  have hz1 : W1.heap.size = w.heap.size + 1 := by rw [← hW1]; simp
  have hA1 : VAt W1 w.heap.size k1 n1 s1 y1 e1 := ⟨by rw [← hW1]; exact heap_alloc_new w _⟩
  have hF1 : Fr noB w W1 := by rw [← hW1]; exact (Fr.refl noB w).alloc _
  obtain ⟨W0, hW0⟩ : ∃ W0, W1.alloc (.cells #[.int .i64 k1, .float .f64 n1, .string s1, .bool y1, .int .i64 e1] 43 (0, 0)) = W0 := ⟨_, rfl⟩
  have hB : VAt W0 (w.heap.size + 1) k1 n1 s1 y1 e1 := ⟨by rw [← hW0, ← hz1]; exact heap_alloc_new W1 _⟩
  have hF2 : Fr noB W1 W0 := by rw [← hW0]; exact (Fr.refl noB W1).alloc _
  have hA : VAt W0 w.heap.size k1 n1 s1 y1 e1 := hA1.fr hF2 id
  have HF0 : Hid (Fr noB w W0) := hF1.trans hF2
  rw [hW1, hW0]
  clear hW0 hW1 hF1 hF2 hA1 hz1
  have a0 := hA.c0
  have b0 := hB.c0
  have a1 := hA.c1
  have b1 := hB.c1
  have a2 := hA.c2
  have b2 := hB.c2
  have a3 := hA.c3
  have b3 := hB.c3
  have a4 := hA.c4
  have b4 := hB.c4
  clear hA hB
  go_quiet (fail)
  go_wp2_with fail
  go_ret
  exact ⟨ret_bool (by simp), HF0.out.drewN _⟩
#print axioms psame_any
#print axioms rsame_any
end Go.Proofs.YtaobnfjkggpdlaaGreatDoor
