/- The errors' texts and back: the program's and the document's. -/
import Derived.Test.YtjdgpnhinjahjaaGreatDoorVMkW
namespace Go.Proofs.YtjdgpnhinjahjaaGreatDoor
open Go.RowKit Ieee Go.Shelf
attribute [local go_sem] run_store_float

/-- The code of a text, by a list of texts. -/
def peL : List ByteArray → Int → ByteArray → Int × Bool
  | [], _, _ => (0, false)
  | t :: L, k, s => if s = t then (k, true) else peL L (k + 1) s
theorem peL_hit {t s : ByteArray} (L : List ByteArray) (k : Int) (h : s = t) : peL (t :: L) k s = (k, true) := by unfold peL; rw [if_pos h]
theorem peL_miss {t s : ByteArray} (L : List ByteArray) (k : Int) (h : ¬ s = t) : peL (t :: L) k s = peL L (k + 1) s := by rw [peL, if_neg h]
theorem tl_true {s t : ByteArray} (h : s = t) : (t.toList == s.toList) = true := by subst h; simp
theorem tl_false {s t : ByteArray} (h : ¬ s = t) : (t.toList == s.toList) = false := by rw [beq_eq_false_iff_ne]; intro e; exact h (toList_inj e).symm
theorem info_arr9 : (Tryz.prog.info? 45).map (·.size) = some 9 := by kernel_rfl
theorem idx9_0 (t0 t1 t2 t3 t4 t5 t6 t7 t8 : ByteArray) (w : World) : (Instr.index 45 (.agg #[.string t0, .string t1, .string t2, .string t3, .string t4, .string t5, .string t6, .string t7, .string t8]) (.int .i64 0)).run Tryz.prog w = .ok (.string t0) w := by kernel_rfl
theorem idx9_1 (t0 t1 t2 t3 t4 t5 t6 t7 t8 : ByteArray) (w : World) : (Instr.index 45 (.agg #[.string t0, .string t1, .string t2, .string t3, .string t4, .string t5, .string t6, .string t7, .string t8]) (.int .i64 1)).run Tryz.prog w = .ok (.string t1) w := by kernel_rfl
theorem idx9_2 (t0 t1 t2 t3 t4 t5 t6 t7 t8 : ByteArray) (w : World) : (Instr.index 45 (.agg #[.string t0, .string t1, .string t2, .string t3, .string t4, .string t5, .string t6, .string t7, .string t8]) (.int .i64 2)).run Tryz.prog w = .ok (.string t2) w := by kernel_rfl
theorem idx9_3 (t0 t1 t2 t3 t4 t5 t6 t7 t8 : ByteArray) (w : World) : (Instr.index 45 (.agg #[.string t0, .string t1, .string t2, .string t3, .string t4, .string t5, .string t6, .string t7, .string t8]) (.int .i64 3)).run Tryz.prog w = .ok (.string t3) w := by kernel_rfl
theorem idx9_4 (t0 t1 t2 t3 t4 t5 t6 t7 t8 : ByteArray) (w : World) : (Instr.index 45 (.agg #[.string t0, .string t1, .string t2, .string t3, .string t4, .string t5, .string t6, .string t7, .string t8]) (.int .i64 4)).run Tryz.prog w = .ok (.string t4) w := by kernel_rfl
theorem idx9_5 (t0 t1 t2 t3 t4 t5 t6 t7 t8 : ByteArray) (w : World) : (Instr.index 45 (.agg #[.string t0, .string t1, .string t2, .string t3, .string t4, .string t5, .string t6, .string t7, .string t8]) (.int .i64 5)).run Tryz.prog w = .ok (.string t5) w := by kernel_rfl
theorem idx9_6 (t0 t1 t2 t3 t4 t5 t6 t7 t8 : ByteArray) (w : World) : (Instr.index 45 (.agg #[.string t0, .string t1, .string t2, .string t3, .string t4, .string t5, .string t6, .string t7, .string t8]) (.int .i64 6)).run Tryz.prog w = .ok (.string t6) w := by kernel_rfl
theorem idx9_7 (t0 t1 t2 t3 t4 t5 t6 t7 t8 : ByteArray) (w : World) : (Instr.index 45 (.agg #[.string t0, .string t1, .string t2, .string t3, .string t4, .string t5, .string t6, .string t7, .string t8]) (.int .i64 7)).run Tryz.prog w = .ok (.string t7) w := by kernel_rfl
theorem idx9_8 (t0 t1 t2 t3 t4 t5 t6 t7 t8 : ByteArray) (w : World) : (Instr.index 45 (.agg #[.string t0, .string t1, .string t2, .string t3, .string t4, .string t5, .string t6, .string t7, .string t8]) (.int .i64 8)).run Tryz.prog w = .ok (.string t8) w := by kernel_rfl
set_option maxRecDepth 100000 in
set_option maxHeartbeats 2000000 in
theorem parseErr_any (s : ByteArray) (w : World) (hT : ETab w) : Calls Tryz.prog 21 #[.string s] w fun e w' => e = .returned (.tuple #[.int .i64 (peL errL 1 s).1, .bool (peL errL 1 s).2]) ∧ w' = w := by
  obtain ⟨ANS, hANS⟩ : ∃ A, peL errL 1 s = A := ⟨_, rfl⟩
  rw [hANS]
  have u0 : w.cell? ⟨1, 0, none⟩ = some (.string (errL.getD 0 ⟨#[]⟩)) := hT.2 0 (by omega)
  have u1 : w.cell? ⟨1, 1, none⟩ = some (.string (errL.getD 1 ⟨#[]⟩)) := hT.2 1 (by omega)
  have u2 : w.cell? ⟨1, 2, none⟩ = some (.string (errL.getD 2 ⟨#[]⟩)) := hT.2 2 (by omega)
  have u3 : w.cell? ⟨1, 3, none⟩ = some (.string (errL.getD 3 ⟨#[]⟩)) := hT.2 3 (by omega)
  have u4 : w.cell? ⟨1, 4, none⟩ = some (.string (errL.getD 4 ⟨#[]⟩)) := hT.2 4 (by omega)
  have u5 : w.cell? ⟨1, 5, none⟩ = some (.string (errL.getD 5 ⟨#[]⟩)) := hT.2 5 (by omega)
  have u6 : w.cell? ⟨1, 6, none⟩ = some (.string (errL.getD 6 ⟨#[]⟩)) := hT.2 6 (by omega)
  have u7 : w.cell? ⟨1, 7, none⟩ = some (.string (errL.getD 7 ⟨#[]⟩)) := hT.2 7 (by omega)
  have u8 : w.cell? ⟨1, 8, none⟩ = some (.string (errL.getD 8 ⟨#[]⟩)) := hT.2 8 (by omega)
  unfold errL at hANS u0 u1 u2 u3 u4 u5 u6 u7 u8
  simp only [List.getD_cons_zero, List.getD_cons_succ] at u0 u1 u2 u3 u4 u5 u6 u7 u8
  clear hT
  generalize (⟨#[35, 78, 85, 76, 76, 33]⟩ : ByteArray) = t0 at *
  generalize (⟨#[35, 68, 73, 86, 47, 48, 33]⟩ : ByteArray) = t1 at *
  generalize (⟨#[35, 86, 65, 76, 85, 69, 33]⟩ : ByteArray) = t2 at *
  generalize (⟨#[35, 82, 69, 70, 33]⟩ : ByteArray) = t3 at *
  generalize (⟨#[35, 78, 65, 77, 69, 63]⟩ : ByteArray) = t4 at *
  generalize (⟨#[35, 78, 85, 77, 33]⟩ : ByteArray) = t5 at *
  generalize (⟨#[35, 78, 47, 65]⟩ : ByteArray) = t6 at *
  generalize (⟨#[35, 67, 89, 67, 76, 69, 33]⟩ : ByteArray) = t7 at *
  generalize (⟨#[35, 76, 73, 77, 73, 84, 33]⟩ : ByteArray) = t8 at *
  have HA : Hid (peL [t0, t1, t2, t3, t4, t5, t6, t7, t8] 1 s = ANS) := hANS
  clear hANS
  have x0 := idx9_0 t0 t1 t2 t3 t4 t5 t6 t7 t8
  have x1 := idx9_1 t0 t1 t2 t3 t4 t5 t6 t7 t8
  have x2 := idx9_2 t0 t1 t2 t3 t4 t5 t6 t7 t8
  have x3 := idx9_3 t0 t1 t2 t3 t4 t5 t6 t7 t8
  have x4 := idx9_4 t0 t1 t2 t3 t4 t5 t6 t7 t8
  have x5 := idx9_5 t0 t1 t2 t3 t4 t5 t6 t7 t8
  have x6 := idx9_6 t0 t1 t2 t3 t4 t5 t6 t7 t8
  have x7 := idx9_7 t0 t1 t2 t3 t4 t5 t6 t7 t8
  have x8 := idx9_8 t0 t1 t2 t3 t4 t5 t6 t7 t8
  go_enter Tryz.func21, Tryz.ntmps21
  go_wp2_with fail
  clear u0 u1 u2 u3 u4 u5 u6 u7 u8
  refine wp_loop_rounds 10 ?_
  rw [rounds_succ]
  by_cases c : s = t0
  · have h1 := tl_true c
    have HB : Hid ((1, true) = ANS) := by
      show _ = _
      exact (peL_hit _ _ c).symm.trans HA.out
    clear HA c
    go_wp2_with fail
    go_ret2
    rw [← HB.out]
    exact ⟨rfl, rfl⟩
  have h0 := tl_false c
  have HA := HA.out
  rw [peL_miss _ _ c] at HA
  have HA : Hid _ := HA
  clear c
  go_wp2_with fail
  clear h0
  rw [rounds_succ]
  by_cases c : s = t1
  · have h1 := tl_true c
    have HB : Hid ((2, true) = ANS) := by
      show _ = _
      exact (peL_hit _ _ c).symm.trans HA.out
    clear HA c
    go_wp2_with fail
    go_ret2
    rw [← HB.out]
    exact ⟨rfl, rfl⟩
  have h1 := tl_false c
  have HA := HA.out
  rw [peL_miss _ _ c] at HA
  have HA : Hid _ := HA
  clear c
  go_wp2_with fail
  clear h1
  rw [rounds_succ]
  by_cases c : s = t2
  · have h1 := tl_true c
    have HB : Hid ((3, true) = ANS) := by
      show _ = _
      exact (peL_hit _ _ c).symm.trans HA.out
    clear HA c
    go_wp2_with fail
    go_ret2
    rw [← HB.out]
    exact ⟨rfl, rfl⟩
  have h2 := tl_false c
  have HA := HA.out
  rw [peL_miss _ _ c] at HA
  have HA : Hid _ := HA
  clear c
  go_wp2_with fail
  clear h2
  rw [rounds_succ]
  by_cases c : s = t3
  · have h1 := tl_true c
    have HB : Hid ((4, true) = ANS) := by
      show _ = _
      exact (peL_hit _ _ c).symm.trans HA.out
    clear HA c
    go_wp2_with fail
    go_ret2
    rw [← HB.out]
    exact ⟨rfl, rfl⟩
  have h3 := tl_false c
  have HA := HA.out
  rw [peL_miss _ _ c] at HA
  have HA : Hid _ := HA
  clear c
  go_wp2_with fail
  clear h3
  rw [rounds_succ]
  by_cases c : s = t4
  · have h1 := tl_true c
    have HB : Hid ((5, true) = ANS) := by
      show _ = _
      exact (peL_hit _ _ c).symm.trans HA.out
    clear HA c
    go_wp2_with fail
    go_ret2
    rw [← HB.out]
    exact ⟨rfl, rfl⟩
  have h4 := tl_false c
  have HA := HA.out
  rw [peL_miss _ _ c] at HA
  have HA : Hid _ := HA
  clear c
  go_wp2_with fail
  clear h4
  rw [rounds_succ]
  by_cases c : s = t5
  · have h1 := tl_true c
    have HB : Hid ((6, true) = ANS) := by
      show _ = _
      exact (peL_hit _ _ c).symm.trans HA.out
    clear HA c
    go_wp2_with fail
    go_ret2
    rw [← HB.out]
    exact ⟨rfl, rfl⟩
  have h5 := tl_false c
  have HA := HA.out
  rw [peL_miss _ _ c] at HA
  have HA : Hid _ := HA
  clear c
  go_wp2_with fail
  clear h5
  rw [rounds_succ]
  by_cases c : s = t6
  · have h1 := tl_true c
    have HB : Hid ((7, true) = ANS) := by
      show _ = _
      exact (peL_hit _ _ c).symm.trans HA.out
    clear HA c
    go_wp2_with fail
    go_ret2
    rw [← HB.out]
    exact ⟨rfl, rfl⟩
  have h6 := tl_false c
  have HA := HA.out
  rw [peL_miss _ _ c] at HA
  have HA : Hid _ := HA
  clear c
  go_wp2_with fail
  clear h6
  rw [rounds_succ]
  by_cases c : s = t7
  · have h1 := tl_true c
    have HB : Hid ((8, true) = ANS) := by
      show _ = _
      exact (peL_hit _ _ c).symm.trans HA.out
    clear HA c
    go_wp2_with fail
    go_ret2
    rw [← HB.out]
    exact ⟨rfl, rfl⟩
  have h7 := tl_false c
  have HA := HA.out
  rw [peL_miss _ _ c] at HA
  have HA : Hid _ := HA
  clear c
  go_wp2_with fail
  clear h7
  rw [rounds_succ]
  by_cases c : s = t8
  · have h1 := tl_true c
    have HB : Hid ((9, true) = ANS) := by
      show _ = _
      exact (peL_hit _ _ c).symm.trans HA.out
    clear HA c
    go_wp2_with fail
    go_ret2
    rw [← HB.out]
    exact ⟨rfl, rfl⟩
  have h8 := tl_false c
  have HA := HA.out
  rw [peL_miss _ _ c] at HA
  have HA : Hid _ := HA
  clear c
  go_wp2_with fail
  clear h8
  rw [rounds_succ]
  have HB : Hid ((0, false) = ANS) := HA.out
  clear HA
  go_wp2_with fail
  go_ret2
  rw [← HB.out]
  exact ⟨rfl, rfl⟩
#print axioms parseErr_any
set_option maxRecDepth 100000 in
set_option maxHeartbeats 2000000 in
theorem rerrText_any (c : Int) (w : World) : Calls Tryz.prog 24 #[.int .i64 c] w fun e w' => e = .returned (.string (eT c)) ∧ Fr noB w w' := by
  by_cases h : 1 ≤ c ∧ c ≤ 9
  · obtain ⟨i, rfl⟩ : ∃ i : Nat, c = (i : Int) + 1 := ⟨(c - 1).toNat, by omega⟩
    have hi : i < 9 := by omega
    have he : eT ((i : Int) + 1) = errL.getD i ⟨#[]⟩ := by
      unfold eT
      rw [if_pos h]
      congr 1
      omega
    rw [he]
    clear h he
    go_enter Tryz.func24, Tryz.ntmps24
    go_wp2_with fail
    all_goals
      go_ret
      refine ⟨?_, (Fr.refl noB w).alloc _⟩
      have e : i = 0 ∨ i = 1 ∨ i = 2 ∨ i = 3 ∨ i = 4 ∨ i = 5 ∨ i = 6 ∨ i = 7 ∨ i = 8 := by omega
      rcases e with rfl | rfl | rfl | rfl | rfl | rfl | rfl | rfl | rfl <;> rfl
  · have he : eT c = ⟨#[]⟩ := by unfold eT; rw [if_neg h]
    rw [he]
    clear he
    by_cases h1 : c < 1
    · clear h
      go_enter Tryz.func24, Tryz.ntmps24
      go_wp2_with fail
      go_ret
      exact ⟨rfl, (Fr.refl noB w).alloc _⟩
    · have h2 : 9 < c := by omega
      clear h
      go_enter Tryz.func24, Tryz.ntmps24
      go_wp2_with fail
      go_ret
      exact ⟨rfl, (Fr.refl noB w).alloc _⟩
set_option maxRecDepth 100000 in
set_option maxHeartbeats 2000000 in
theorem rparseErr_any (s : ByteArray) (w : World) : Calls Tryz.prog 22 #[.string s] w fun e w' => e = .returned (.tuple #[.int .i64 (peL errL 1 s).1, .bool (peL errL 1 s).2]) ∧ Fr noB w w' := by
  obtain ⟨ANS, hANS⟩ : ∃ A, peL errL 1 s = A := ⟨_, rfl⟩
  rw [hANS]
  have E0 : ∀ W, Calls Tryz.prog 24 #[.int .i64 1] W fun e w' => e = .returned (.string ⟨#[35, 78, 85, 76, 76, 33]⟩) ∧ Fr noB W w' := rerrText_any 1
  have E1 : ∀ W, Calls Tryz.prog 24 #[.int .i64 2] W fun e w' => e = .returned (.string ⟨#[35, 68, 73, 86, 47, 48, 33]⟩) ∧ Fr noB W w' := rerrText_any 2
  have E2 : ∀ W, Calls Tryz.prog 24 #[.int .i64 3] W fun e w' => e = .returned (.string ⟨#[35, 86, 65, 76, 85, 69, 33]⟩) ∧ Fr noB W w' := rerrText_any 3
  have E3 : ∀ W, Calls Tryz.prog 24 #[.int .i64 4] W fun e w' => e = .returned (.string ⟨#[35, 82, 69, 70, 33]⟩) ∧ Fr noB W w' := rerrText_any 4
  have E4 : ∀ W, Calls Tryz.prog 24 #[.int .i64 5] W fun e w' => e = .returned (.string ⟨#[35, 78, 65, 77, 69, 63]⟩) ∧ Fr noB W w' := rerrText_any 5
  have E5 : ∀ W, Calls Tryz.prog 24 #[.int .i64 6] W fun e w' => e = .returned (.string ⟨#[35, 78, 85, 77, 33]⟩) ∧ Fr noB W w' := rerrText_any 6
  have E6 : ∀ W, Calls Tryz.prog 24 #[.int .i64 7] W fun e w' => e = .returned (.string ⟨#[35, 78, 47, 65]⟩) ∧ Fr noB W w' := rerrText_any 7
  have E7 : ∀ W, Calls Tryz.prog 24 #[.int .i64 8] W fun e w' => e = .returned (.string ⟨#[35, 67, 89, 67, 76, 69, 33]⟩) ∧ Fr noB W w' := rerrText_any 8
  have E8 : ∀ W, Calls Tryz.prog 24 #[.int .i64 9] W fun e w' => e = .returned (.string ⟨#[35, 76, 73, 77, 73, 84, 33]⟩) ∧ Fr noB W w' := rerrText_any 9
  unfold errL at hANS
  generalize (⟨#[35, 78, 85, 76, 76, 33]⟩ : ByteArray) = t0 at *
  generalize (⟨#[35, 68, 73, 86, 47, 48, 33]⟩ : ByteArray) = t1 at *
  generalize (⟨#[35, 86, 65, 76, 85, 69, 33]⟩ : ByteArray) = t2 at *
  generalize (⟨#[35, 82, 69, 70, 33]⟩ : ByteArray) = t3 at *
  generalize (⟨#[35, 78, 65, 77, 69, 63]⟩ : ByteArray) = t4 at *
  generalize (⟨#[35, 78, 85, 77, 33]⟩ : ByteArray) = t5 at *
  generalize (⟨#[35, 78, 47, 65]⟩ : ByteArray) = t6 at *
  generalize (⟨#[35, 67, 89, 67, 76, 69, 33]⟩ : ByteArray) = t7 at *
  generalize (⟨#[35, 76, 73, 77, 73, 84, 33]⟩ : ByteArray) = t8 at *
  have HA : Hid (peL [t0, t1, t2, t3, t4, t5, t6, t7, t8] 1 s = ANS) := hANS
  clear hANS
  go_enter Tryz.func22, Tryz.ntmps22
  go_wp2_with fail
  refine wp_loop_rounds 10 ?_
  have hF : Fr noB w w := Fr.refl _ _
  rw [rounds_succ]
  go_wp2_with fail
  refine (E0 _).mono ?_
  rintro e w0 ⟨rfl, hF2⟩
  have hF := hF.trans hF2
  clear hF2 E0
  by_cases c : s = t0
  · have h1 := tl_true c
    have HB : Hid ((1, true) = ANS) := by
      show _ = _
      exact (peL_hit _ _ c).symm.trans HA.out
    clear HA c
    go_wp2_with fail
    go_ret2
    rw [← HB.out]
    exact ⟨rfl, hF⟩
  have h0 := tl_false c
  have HA := HA.out
  rw [peL_miss _ _ c] at HA
  have HA : Hid _ := HA
  clear c
  go_wp2_with fail
  clear h0
  rw [rounds_succ]
  go_wp2_with fail
  refine (E1 _).mono ?_
  rintro e w1 ⟨rfl, hF2⟩
  have hF := hF.trans hF2
  clear hF2 E1
  by_cases c : s = t1
  · have h1 := tl_true c
    have HB : Hid ((2, true) = ANS) := by
      show _ = _
      exact (peL_hit _ _ c).symm.trans HA.out
    clear HA c
    go_wp2_with fail
    go_ret2
    rw [← HB.out]
    exact ⟨rfl, hF⟩
  have h1 := tl_false c
  have HA := HA.out
  rw [peL_miss _ _ c] at HA
  have HA : Hid _ := HA
  clear c
  go_wp2_with fail
  clear h1
  rw [rounds_succ]
  go_wp2_with fail
  refine (E2 _).mono ?_
  rintro e w2 ⟨rfl, hF2⟩
  have hF := hF.trans hF2
  clear hF2 E2
  by_cases c : s = t2
  · have h1 := tl_true c
    have HB : Hid ((3, true) = ANS) := by
      show _ = _
      exact (peL_hit _ _ c).symm.trans HA.out
    clear HA c
    go_wp2_with fail
    go_ret2
    rw [← HB.out]
    exact ⟨rfl, hF⟩
  have h2 := tl_false c
  have HA := HA.out
  rw [peL_miss _ _ c] at HA
  have HA : Hid _ := HA
  clear c
  go_wp2_with fail
  clear h2
  rw [rounds_succ]
  go_wp2_with fail
  refine (E3 _).mono ?_
  rintro e w3 ⟨rfl, hF2⟩
  have hF := hF.trans hF2
  clear hF2 E3
  by_cases c : s = t3
  · have h1 := tl_true c
    have HB : Hid ((4, true) = ANS) := by
      show _ = _
      exact (peL_hit _ _ c).symm.trans HA.out
    clear HA c
    go_wp2_with fail
    go_ret2
    rw [← HB.out]
    exact ⟨rfl, hF⟩
  have h3 := tl_false c
  have HA := HA.out
  rw [peL_miss _ _ c] at HA
  have HA : Hid _ := HA
  clear c
  go_wp2_with fail
  clear h3
  rw [rounds_succ]
  go_wp2_with fail
  refine (E4 _).mono ?_
  rintro e w4 ⟨rfl, hF2⟩
  have hF := hF.trans hF2
  clear hF2 E4
  by_cases c : s = t4
  · have h1 := tl_true c
    have HB : Hid ((5, true) = ANS) := by
      show _ = _
      exact (peL_hit _ _ c).symm.trans HA.out
    clear HA c
    go_wp2_with fail
    go_ret2
    rw [← HB.out]
    exact ⟨rfl, hF⟩
  have h4 := tl_false c
  have HA := HA.out
  rw [peL_miss _ _ c] at HA
  have HA : Hid _ := HA
  clear c
  go_wp2_with fail
  clear h4
  rw [rounds_succ]
  go_wp2_with fail
  refine (E5 _).mono ?_
  rintro e w5 ⟨rfl, hF2⟩
  have hF := hF.trans hF2
  clear hF2 E5
  by_cases c : s = t5
  · have h1 := tl_true c
    have HB : Hid ((6, true) = ANS) := by
      show _ = _
      exact (peL_hit _ _ c).symm.trans HA.out
    clear HA c
    go_wp2_with fail
    go_ret2
    rw [← HB.out]
    exact ⟨rfl, hF⟩
  have h5 := tl_false c
  have HA := HA.out
  rw [peL_miss _ _ c] at HA
  have HA : Hid _ := HA
  clear c
  go_wp2_with fail
  clear h5
  rw [rounds_succ]
  go_wp2_with fail
  refine (E6 _).mono ?_
  rintro e w6 ⟨rfl, hF2⟩
  have hF := hF.trans hF2
  clear hF2 E6
  by_cases c : s = t6
  · have h1 := tl_true c
    have HB : Hid ((7, true) = ANS) := by
      show _ = _
      exact (peL_hit _ _ c).symm.trans HA.out
    clear HA c
    go_wp2_with fail
    go_ret2
    rw [← HB.out]
    exact ⟨rfl, hF⟩
  have h6 := tl_false c
  have HA := HA.out
  rw [peL_miss _ _ c] at HA
  have HA : Hid _ := HA
  clear c
  go_wp2_with fail
  clear h6
  rw [rounds_succ]
  go_wp2_with fail
  refine (E7 _).mono ?_
  rintro e w7 ⟨rfl, hF2⟩
  have hF := hF.trans hF2
  clear hF2 E7
  by_cases c : s = t7
  · have h1 := tl_true c
    have HB : Hid ((8, true) = ANS) := by
      show _ = _
      exact (peL_hit _ _ c).symm.trans HA.out
    clear HA c
    go_wp2_with fail
    go_ret2
    rw [← HB.out]
    exact ⟨rfl, hF⟩
  have h7 := tl_false c
  have HA := HA.out
  rw [peL_miss _ _ c] at HA
  have HA : Hid _ := HA
  clear c
  go_wp2_with fail
  clear h7
  rw [rounds_succ]
  go_wp2_with fail
  refine (E8 _).mono ?_
  rintro e w8 ⟨rfl, hF2⟩
  have hF := hF.trans hF2
  clear hF2 E8
  by_cases c : s = t8
  · have h1 := tl_true c
    have HB : Hid ((9, true) = ANS) := by
      show _ = _
      exact (peL_hit _ _ c).symm.trans HA.out
    clear HA c
    go_wp2_with fail
    go_ret2
    rw [← HB.out]
    exact ⟨rfl, hF⟩
  have h8 := tl_false c
  have HA := HA.out
  rw [peL_miss _ _ c] at HA
  have HA : Hid _ := HA
  clear c
  go_wp2_with fail
  clear h8
  rw [rounds_succ]
  have HB : Hid ((0, false) = ANS) := HA.out
  clear HA
  go_wp2_with fail
  go_ret2
  rw [← HB.out]
  exact ⟨rfl, hF⟩
#print axioms rparseErr_any
end Go.Proofs.YtjdgpnhinjahjaaGreatDoor
