/- begun: the simplest values come. -/
import Derived.Test.YtjdgpnhinjahjaaGreatDoorVVal
namespace Go.Proofs.YtjdgpnhinjahjaaGreatDoor
open Go.RowKit Ieee Go.Shelf
attribute [local go_sem] run_store_float

/-- The errors' texts. -/
def errL : List ByteArray := [⟨#[35, 78, 85, 76, 76, 33]⟩, ⟨#[35, 68, 73, 86, 47, 48, 33]⟩, ⟨#[35, 86, 65, 76, 85, 69, 33]⟩, ⟨#[35, 82, 69, 70, 33]⟩, ⟨#[35, 78, 65, 77, 69, 63]⟩, ⟨#[35, 78, 85, 77, 33]⟩, ⟨#[35, 78, 47, 65]⟩, ⟨#[35, 67, 89, 67, 76, 69, 33]⟩, ⟨#[35, 76, 73, 77, 73, 84, 33]⟩]
/-- The program's table of them lies where it should. -/
def ETab (w : World) : Prop := 1 < w.heap.size ∧ ∀ i, i < 9 → w.cell? ⟨1, i, none⟩ = some (.string (errL.getD i ⟨#[]⟩))
theorem ETab.fr {w w' : World} (h : ETab w) (hF : Fr noB w w') : ETab w' := ⟨Nat.lt_of_lt_of_le h.1 hF.size, fun i hi => (hF.cell (a := ⟨1, i, none⟩) h.1 id).trans (h.2 i hi)⟩
theorem ETab.cell {w : World} (h : ETab w) (i : Nat) (hi : i < 9) : w.cell? ⟨1, i, none⟩ = some (.string (errL.getD i ⟨#[]⟩)) := h.2 i hi
/-- All that the statements read of variables. -/
structure VTabs (w : World) : Prop where
  n : NTab w
  r : RTab w
  e : ETab w
theorem VTabs.fr {w w' : World} (h : VTabs w) (hF : Fr noB w w') : VTabs w' := ⟨h.n.fr hF, h.r.fr hF, h.e.fr hF⟩
/-- The text of an error's code. -/
def eT (c : Int) : ByteArray := if 1 ≤ c ∧ c ≤ 9 then errL.getD (c - 1).toNat ⟨#[]⟩ else ⟨#[]⟩
set_option maxRecDepth 100000 in
theorem isCode_any (c : Int) (w : World) : Calls Tryz.prog 35 #[.int .i64 c] w fun e w' => e = .returned (.bool (decide (1 ≤ c ∧ c ≤ 9))) ∧ w' = w := by
  go_enter Tryz.func35, Tryz.ntmps35
  go_wp2
  all_goals
    go_ret
    refine ⟨ret_bool ?_, rfl⟩
    rw [Bool.eq_iff_iff]
    simp
    try omega
set_option maxRecDepth 100000 in
set_option maxHeartbeats 1000000 in
theorem errText_any (c : Int) (w : World) (hT : ETab w) : Calls Tryz.prog 23 #[.int .i64 c] w fun e w' => e = .returned (.string (eT c)) ∧ w' = w := by
  have HC := isCode_any c
  by_cases h : 1 ≤ c ∧ c ≤ 9
  · rw [decide_eq_true h] at HC
    obtain ⟨i, rfl⟩ : ∃ i : Nat, c = (i : Int) + 1 := ⟨(c - 1).toNat, by omega⟩
    have hc := hT.cell i (by omega)
    have hi : i < 9 := by omega
    have he : eT ((i : Int) + 1) = errL.getD i ⟨#[]⟩ := by
      unfold eT
      rw [if_pos h]
      congr 1
      omega
    rw [he]
    generalize errL.getD i ⟨#[]⟩ = t at *
    clear h hT he
    go_enter Tryz.func23, Tryz.ntmps23
    go_wp2_with (go_at_call 35; refine (HC _).mono ?_; rintro e w1 ⟨rfl, rfl⟩)
    go_ret
    exact ⟨rfl, rfl⟩
  · rw [decide_eq_false h] at HC
    have he : eT c = ⟨#[]⟩ := by unfold eT; rw [if_neg h]
    rw [he]
    clear h he
    go_enter Tryz.func23, Tryz.ntmps23
    go_wp2_with (go_at_call 35; refine (HC _).mono ?_; rintro e w1 ⟨rfl, rfl⟩)
    go_ret
    exact ⟨rfl, rfl⟩
set_option maxRecDepth 100000 in
set_option maxHeartbeats 1000000 in
theorem readNumber15 (w : World) (hT : VTabs w) : Calls Tryz.prog 52 #[.string t15] w fun e w' => e = .returned (.agg #[.int .i64 1, .float .f64 4609434218613702656, .string ⟨#[]⟩, .bool false, .int .i64 0]) ∧ Fr noB w w' := by
  have H1 : Hid (∀ W, Fr noB w W → Calls Tryz.prog 63 #[.string t15] W fun e w' => e = .returned (.tuple #[.float .f64 4609434218613702656, .int .i64 0]) ∧ Fr noB W w') := fun W hW => nparse15 W (hT.fr hW).n.x (hT.fr hW).r
  have H2 := pnum_any 4609434218613702656
  clear hT
  generalize t15 = s at *
  go_enter Tryz.func52, Tryz.ntmps52
  go_wp2_with fail
  obtain ⟨W0, hW0⟩ : ∃ W0, w.alloc (.cells #[.int .i64 0, .float .f64 0, .string ⟨#[]⟩, .bool false, .int .i64 0] 28 (0, 0)) = W0 := ⟨_, rfl⟩
  have hO : VAt W0 w.heap.size 0 0 ⟨#[]⟩ false 0 := ⟨by rw [← hW0]; exact heap_alloc_new w _⟩
  have hF0 : Fr noB w W0 := by rw [← hW0]; exact (Fr.refl noB w).alloc _
  have HO : Hid _ := hO
  rw [hW0]
  clear hW0 hO
  refine (H1.out _ hF0).mono ?_
  rintro e w1 ⟨rfl, hF1⟩
  have HP : Hid (∀ w2, Fr noB w1 w2 → VAt w2 w.heap.size 0 0 ⟨#[]⟩ false 0 ∧ Fr noB w w2) := fun w2 h => ⟨HO.out.fr (hF1.trans h) id, hF0.trans (hF1.trans h)⟩
  clear hF0 hF1
  go_wp2_with fail
  refine (H2 _).mono ?_
  rintro e w2 ⟨rfl, hF2⟩
  obtain ⟨hO2, hG2⟩ := HP.out w2 hF2
  have k0 := hO2.c0
  have k1 := hO2.c1
  have k2 := hO2.c2
  have k3 := hO2.c3
  have k4 := hO2.c4
  have f0 := freeOf 0 hO2.o
  have f1 := freeOf 1 hO2.o
  have f2 := freeOf 2 hO2.o
  have f3 := freeOf 3 hO2.o
  have f4 := freeOf 4 hO2.o
  have HQ : Hid _ := And.intro (hO2.set 1 4609434218613702656 ⟨#[]⟩ false 0) (fr5 hG2 w.heap.size (Or.inr (Nat.le_refl _)) (.int .i64 1) (.float .f64 4609434218613702656) (.string ⟨#[]⟩) (.bool false) (.int .i64 0))
  clear hO2 hG2 hF2
  go_wp2_with fail
  exact bodyPost_ret (vret Tryz.results52 _ _ w.heap.size rfl HQ.out.1) rfl ⟨rfl, HQ.out.2⟩
set_option maxRecDepth 100000 in
set_option maxHeartbeats 1000000 in
theorem writeNumber01 (w : World) (hT : VTabs w) : Calls Tryz.prog 54 #[.float .f64 4591870180066957722] w fun e w' => e = .returned (.agg #[.int .i64 2, .float .f64 0, .string ⟨#[48, 46, 49]⟩, .bool false, .int .i64 0]) ∧ Fr noB w w' := by
  have H1 : Hid (∀ W, Fr noB w W → Calls Tryz.prog 64 #[.float .f64 4591870180066957722] W fun e w' => e = .returned (.tuple #[.string ⟨#[48, 46, 49]⟩, .int .i64 0]) ∧ Fr noB W w') := fun W hW => text01 W (hT.fr hW).n
  have H2 := ptext_any ⟨#[48, 46, 49]⟩
  clear hT
  generalize (⟨#[48, 46, 49]⟩ : ByteArray) = t at *
  go_enter Tryz.func54, Tryz.ntmps54
  go_wp2_with fail
  obtain ⟨W0, hW0⟩ : ∃ W0, w.alloc (.cells #[.int .i64 0, .float .f64 0, .string ⟨#[]⟩, .bool false, .int .i64 0] 28 (0, 0)) = W0 := ⟨_, rfl⟩
  have hO : VAt W0 w.heap.size 0 0 ⟨#[]⟩ false 0 := ⟨by rw [← hW0]; exact heap_alloc_new w _⟩
  have hF0 : Fr noB w W0 := by rw [← hW0]; exact (Fr.refl noB w).alloc _
  have HO : Hid _ := hO
  rw [hW0]
  clear hW0 hO
  refine (H1.out _ hF0).mono ?_
  rintro e w1 ⟨rfl, hF1⟩
  have HP : Hid (∀ w2, Fr noB w1 w2 → VAt w2 w.heap.size 0 0 ⟨#[]⟩ false 0 ∧ Fr noB w w2) := fun w2 h => ⟨HO.out.fr (hF1.trans h) id, hF0.trans (hF1.trans h)⟩
  clear hF0 hF1
  go_wp2_with fail
  refine (H2 _).mono ?_
  rintro e w2 ⟨rfl, hF2⟩
  obtain ⟨hO2, hG2⟩ := HP.out w2 hF2
  have k0 := hO2.c0
  have k1 := hO2.c1
  have k2 := hO2.c2
  have k3 := hO2.c3
  have k4 := hO2.c4
  have f0 := freeOf 0 hO2.o
  have f1 := freeOf 1 hO2.o
  have f2 := freeOf 2 hO2.o
  have f3 := freeOf 3 hO2.o
  have f4 := freeOf 4 hO2.o
  have HQ : Hid _ := And.intro (hO2.set 2 0 t false 0) (fr5 hG2 w.heap.size (Or.inr (by omega)) (.int .i64 2) (.float .f64 0) (.string t) (.bool false) (.int .i64 0))
  clear hO2 hG2 hF2
  go_wp2_with fail
  exact bodyPost_ret (vret Tryz.results54 _ _ w.heap.size rfl HQ.out.1) rfl ⟨rfl, HQ.out.2⟩
set_option maxRecDepth 100000 in
set_option maxHeartbeats 1000000 in
theorem asNumber15 (w : World) (hT : VTabs w) : Calls Tryz.prog 29 #[(.agg #[.int .i64 2, .float .f64 0, .string t15, .bool false, .int .i64 0])] w fun e w' => e = .returned (.agg #[.int .i64 1, .float .f64 4609434218613702656, .string ⟨#[]⟩, .bool false, .int .i64 0]) ∧ Fr noB w w' := by
  have H1 : Hid (∀ W, Fr noB w W → Calls Tryz.prog 52 #[.string t15] W fun e w' => e = .returned (.agg #[.int .i64 1, .float .f64 4609434218613702656, .string ⟨#[]⟩, .bool false, .int .i64 0]) ∧ Fr noB W w') := fun W hW => readNumber15 W (hT.fr hW)
  clear hT
  generalize t15 = t at *
  go_enter Tryz.func29, Tryz.ntmps29
  go_wp2_with fail
  obtain ⟨W1, hW1⟩ : ∃ W1, w.alloc (.cells #[.int .i64 2, .float .f64 0, .string t, .bool false, .int .i64 0] 28 (0, 0)) = W1 := ⟨_, rfl⟩
  have hz1 : W1.heap.size = w.heap.size + 1 := by rw [← hW1]; simp
  have hA1 : VAt W1 w.heap.size 2  0  t  false  0 := ⟨by rw [← hW1]; exact heap_alloc_new w _⟩
  have hF1 : Fr noB w W1 := by rw [← hW1]; exact (Fr.refl noB w).alloc _
  obtain ⟨W0, hW0⟩ : ∃ W0, W1.alloc (.cells #[.int .i64 0, .float .f64 0, .string ⟨#[]⟩, .bool false, .int .i64 0] 28 (0, 0)) = W0 := ⟨_, rfl⟩
  have hO : VAt W0 (w.heap.size + 1) 0 0 ⟨#[]⟩ false 0 := ⟨by rw [← hW0, ← hz1]; exact heap_alloc_new W1 _⟩
  have hF2 : Fr noB W1 W0 := by rw [← hW0]; exact (Fr.refl noB W1).alloc _
  have hA : VAt W0 w.heap.size 2  0  t  false  0 := hA1.fr hF2 id
  have hF0 : Fr noB w W0 := hF1.trans hF2
  have HO : Hid _ := hO
  rw [hW1, hW0]
  clear hW0 hW1 hO hF1 hF2 hA1 hz1
  have a0 := hA.c0
  have a1 := hA.c1
  have a2 := hA.c2
  clear hA
  go_wp2_with fail
  refine (H1.out _ hF0).mono ?_
  rintro e w2 ⟨rfl, hF2⟩
  have hO2 := HO.out.fr hF2 id
  have hG2 := hF0.trans hF2
  clear hF0 a0 a1 a2
  have k0 := hO2.c0
  have k1 := hO2.c1
  have k2 := hO2.c2
  have k3 := hO2.c3
  have k4 := hO2.c4
  have f0 := freeOf 0 hO2.o
  have f1 := freeOf 1 hO2.o
  have f2 := freeOf 2 hO2.o
  have f3 := freeOf 3 hO2.o
  have f4 := freeOf 4 hO2.o
  have HQ : Hid _ := And.intro (hO2.set 1 4609434218613702656 ⟨#[]⟩ false 0) (fr5 hG2 (w.heap.size + 1) (Or.inr (by omega)) (.int .i64 1) (.float .f64 4609434218613702656) (.string ⟨#[]⟩) (.bool false) (.int .i64 0))
  clear hO2 hG2 hF2
  go_wp2_with fail
  exact bodyPost_ret (vret Tryz.results29 _ _ (w.heap.size + 1) rfl HQ.out.1) rfl ⟨rfl, HQ.out.2⟩
set_option maxRecDepth 100000 in
set_option maxHeartbeats 1000000 in
theorem asText01 (w : World) (hT : VTabs w) : Calls Tryz.prog 30 #[(.agg #[.int .i64 1, .float .f64 4591870180066957722, .string ⟨#[]⟩, .bool false, .int .i64 0])] w fun e w' => e = .returned (.agg #[.int .i64 2, .float .f64 0, .string ⟨#[48, 46, 49]⟩, .bool false, .int .i64 0]) ∧ Fr noB w w' := by
  have H1 : Hid (∀ W, Fr noB w W → Calls Tryz.prog 54 #[.float .f64 4591870180066957722] W fun e w' => e = .returned (.agg #[.int .i64 2, .float .f64 0, .string ⟨#[48, 46, 49]⟩, .bool false, .int .i64 0]) ∧ Fr noB W w') := fun W hW => writeNumber01 W (hT.fr hW)
  clear hT
  generalize (⟨#[48, 46, 49]⟩ : ByteArray) = t at *
  go_enter Tryz.func30, Tryz.ntmps30
  go_wp2_with fail
  obtain ⟨W1, hW1⟩ : ∃ W1, w.alloc (.cells #[.int .i64 1, .float .f64 4591870180066957722, .string ⟨#[]⟩, .bool false, .int .i64 0] 28 (0, 0)) = W1 := ⟨_, rfl⟩
  have hz1 : W1.heap.size = w.heap.size + 1 := by rw [← hW1]; simp
  have hA1 : VAt W1 w.heap.size 1  4591870180066957722  ⟨#[]⟩  false  0 := ⟨by rw [← hW1]; exact heap_alloc_new w _⟩
  have hF1 : Fr noB w W1 := by rw [← hW1]; exact (Fr.refl noB w).alloc _
  obtain ⟨W0, hW0⟩ : ∃ W0, W1.alloc (.cells #[.int .i64 0, .float .f64 0, .string ⟨#[]⟩, .bool false, .int .i64 0] 28 (0, 0)) = W0 := ⟨_, rfl⟩
  have hO : VAt W0 (w.heap.size + 1) 0 0 ⟨#[]⟩ false 0 := ⟨by rw [← hW0, ← hz1]; exact heap_alloc_new W1 _⟩
  have hF2 : Fr noB W1 W0 := by rw [← hW0]; exact (Fr.refl noB W1).alloc _
  have hA : VAt W0 w.heap.size 1  4591870180066957722  ⟨#[]⟩  false  0 := hA1.fr hF2 id
  have hF0 : Fr noB w W0 := hF1.trans hF2
  have HO : Hid _ := hO
  rw [hW1, hW0]
  clear hW0 hW1 hO hF1 hF2 hA1 hz1
  have a0 := hA.c0
  have a1 := hA.c1
  have a2 := hA.c2
  clear hA
  go_wp2_with fail
  refine (H1.out _ hF0).mono ?_
  rintro e w2 ⟨rfl, hF2⟩
  have hO2 := HO.out.fr hF2 id
  have hG2 := hF0.trans hF2
  clear hF0 a0 a1 a2
  have k0 := hO2.c0
  have k1 := hO2.c1
  have k2 := hO2.c2
  have k3 := hO2.c3
  have k4 := hO2.c4
  have f0 := freeOf 0 hO2.o
  have f1 := freeOf 1 hO2.o
  have f2 := freeOf 2 hO2.o
  have f3 := freeOf 3 hO2.o
  have f4 := freeOf 4 hO2.o
  have HQ : Hid _ := And.intro (hO2.set 2 0 t false 0) (fr5 hG2 (w.heap.size + 1) (Or.inr (by omega)) (.int .i64 2) (.float .f64 0) (.string t) (.bool false) (.int .i64 0))
  clear hO2 hG2 hF2
  go_wp2_with fail
  exact bodyPost_ret (vret Tryz.results30 _ _ (w.heap.size + 1) rfl HQ.out.1) rfl ⟨rfl, HQ.out.2⟩
theorem eq15 (W : World) : (binOp .eql 28 (.agg #[.int .i64 1, .float .f64 4609434218613702656, .string ⟨#[]⟩, .bool false, .int .i64 0]) (.agg #[.int .i64 1, .float .f64 4609434218613702656, .string ⟨#[]⟩, .bool false, .int .i64 0])).run Tryz.prog W = .ok (.bool true) W := by kernel_rfl
theorem eq01 (W : World) : (binOp .eql 28 (.agg #[.int .i64 2, .float .f64 0, .string ⟨#[48, 46, 49]⟩, .bool false, .int .i64 0]) (.agg #[.int .i64 2, .float .f64 0, .string ⟨#[48, 46, 49]⟩, .bool false, .int .i64 0])).run Tryz.prog W = .ok (.bool true) W := by kernel_rfl
set_option maxRecDepth 100000 in
set_option maxHeartbeats 1000000 in
theorem begun_true (w : World) (hT : VTabs w) : Calls Tryz.prog 8 #[] w fun e w' => e = .returned (.bool true) ∧ Fr noB w w' := by
  have H1 := asNumber15 w hT
  have H2 : Hid (∀ W, Fr noB w W → Calls Tryz.prog 30 #[(.agg #[.int .i64 1, .float .f64 4591870180066957722, .string ⟨#[]⟩, .bool false, .int .i64 0])] W fun e w' => e = .returned (.agg #[.int .i64 2, .float .f64 0, .string ⟨#[48, 46, 49]⟩, .bool false, .int .i64 0]) ∧ Fr noB W w') := fun W hW => asText01 W (hT.fr hW)
  have H3 : Hid (∀ W, Fr noB w W → Calls Tryz.prog 23 #[.int .i64 7] W fun e w' => e = .returned (.string ⟨#[35, 78, 47, 65]⟩) ∧ w' = W) := fun W hW => errText_any 7 W (hT.fr hW).e
  have q1 := eq15
  have q2 := eq01
  clear hT
  go_enter Tryz.func8, Tryz.ntmps8
  go_wp2_with (first
    | (go_at_call 29; refine H1.mono ?_; rintro e w1 ⟨rfl, hF1⟩)
    | (go_at_call 30; refine (H2.out _ hF1).mono ?_; rintro e w2 ⟨rfl, hF2⟩)
    | (go_at_call 23; refine (H3.out _ (hF1.trans hF2)).mono ?_; rintro e w3 ⟨rfl, rfl⟩))
  go_ret
  exact ⟨ret_bool (by simp), hF1.trans hF2⟩
#print axioms begun_true
end Go.Proofs.YtjdgpnhinjahjaaGreatDoor
