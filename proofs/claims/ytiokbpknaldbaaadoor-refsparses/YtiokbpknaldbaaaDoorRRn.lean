/- run: as far as characters of a kind go. -/
import Derived.Test.YtiokbpknaldbaaaDoorRRdr
namespace Go.Proofs.YtiokbpknaldbaaaDoor
open Go.RowKit Go.Shelf

set_option maxRecDepth 100000 in
theorem nqu_any (r : Nat) (w : World) : Calls Tryd.prog 51 #[.int .i32 (r : Int)] w fun e w' => e = .returned (.bool (nquK r)) ∧ w' = w := by
  go_enter Tryd.func51, Tryd.ntmps51
  go_wp2_with fail
  go_ret
  exact ⟨ret_bool (by unfold nquK; rw [Bool.eq_iff_iff]; simp; try omega), rfl⟩
set_option maxRecDepth 100000 in
theorem run1_any (g : Nat) (K : Nat → Bool) (eg : ∀ args w, (callFunc g args).run Tryd.prog w = .ok (.enter g args) w) (hg : ∀ (r : Nat) (W : World), Calls Tryd.prog g #[.int .i32 (r : Int)] W fun e w' => e = .returned (.bool (K r)) ∧ w' = W)
    (kb r : Nat) (W : World) (hc : W.cell? ⟨kb, 0, none⟩ = some (.func (.func g) #[] #[])) :
    Calls Tryd.prog 61 #[.int .i32 (r : Int), .pointer (some ⟨kb, 0, none⟩)] W fun e w' => e = .returned (.bool (!(K r))) ∧ w' = W := by
  go_enter Tryd.func61, Tryd.ntmps61
  go_wp2_with (go_at_fn g; refine (hg _ _).mono ?_; rintro e w1 ⟨rfl, rfl⟩)
  go_ret
  exact ⟨rfl, rfl⟩
/-- The index that IndexFunc tells, in words of the kind's end. -/
theorem idx_end (K : Nat → Bool) (c : Bool) (hk : Kin K K c) (s : ByteArray) : ∀ (f pos : Nat), s.size ≤ pos + f → pos ≤ s.size → Lib.idxFuncFrom (fun r => !(K r)) true s f pos = (if endK K s pos < s.size then (endK K s pos : Int) else -1)
  | 0, pos, h1, h2 => by
    rw [Lib.idxFuncFrom_end _ _ _ _ _ (by omega), endK_stop K s pos (by omega), if_neg (by omega)]
  | f + 1, pos, h1, h2 => by
    by_cases hp : pos < s.size
    · have hwd := width_pos s pos hp
      have hwf := width_fits s pos hp
      simp only [Lib.idxFuncFrom, hp, if_true]
      rcases Bool.eq_false_or_eq_true (K (Utf8.decode s pos).1) with hc | hc
      · have e := kin_yes hk s pos hp hc
        rw [e, if_neg (by rw [hc]; simp)]
        exact idx_end K c hk s f (pos + (Utf8.decode s pos).2) (by omega) hwf
      · have e := (kin_no hk s pos hp hc).1
        rw [e, if_pos (by rw [hc]; rfl), if_pos hp]
    · rw [Lib.idxFuncFrom_end _ _ _ _ _ hp, endK_stop K s pos (by omega), if_neg (by omega)]
set_option maxRecDepth 100000 in
theorem idxFunc_any (g : Nat) (K : Nat → Bool) (c : Bool) (hk : Kin K K c) (eg : ∀ args w, (callFunc g args).run Tryd.prog w = .ok (.enter g args) w) (hg : ∀ (r : Nat) (W : World), Calls Tryd.prog g #[.int .i32 (r : Int)] W fun e w' => e = .returned (.bool (K r)) ∧ w' = W)
    (kb : Nat) (s : ByteArray) (w : World) (hb : kb < w.heap.size) (hc : w.cell? ⟨kb, 0, none⟩ = some (.func (.func g) #[] #[])) :
    Calls Tryd.prog 60 #[.string s, .func (.func 61) #[] #[.pointer (some ⟨kb, 0, none⟩)]] w fun e w' => e = .returned (.int .i64 (if endK K s 0 < s.size then (endK K s 0 : Int) else -1)) ∧ Fr noB w w' := by
  have H := Any.strings_indexFunc Tryd.laysLaysn315 61 #[.pointer (some ⟨kb, 0, none⟩)] (enters_of Tryd.func61 (by kernel_rfl) rfl) (fun r => !(K r)) true s w (fun W x hbl => by
    refine (run1_any g K eg hg kb x W ?_).mono ?_
    · rw [← hc]
      exact hbl.cell (p := ⟨kb, 0, none⟩) hb
    · rintro e w' ⟨rfl, rfl⟩
      exact ⟨rfl, 0, rfl⟩)
  rw [show Lib.idxFunc (fun r => !(K r)) true s = _ from idx_end K c hk s _ 0 (by omega) (Nat.zero_le _)] at H
  generalize (if endK K s 0 < s.size then (endK K s 0 : Int) else -1) = V at *
  clear hc
  go_enter Tryd.func60, Tryd.ntmps60
  go_wp2_with (go_at_call 68; refine (show Calls Tryd.prog 68 _ _ _ from H).mono ?_; rintro e w1 ⟨rfl, hB⟩)
  go_ret
  exact ⟨rfl, Fr.ofBelow hB⟩

theorem tail_end (K : Nat → Bool) (s : ByteArray) (p : Nat) (hp : p ≤ s.size) : ∃ m, endK K (s.extract p s.size) 0 = m ∧ p + m = endK K s p ∧ p + m ≤ s.size ∧ (s.extract p s.size).size = s.size - p ∧ (s.extract p s.size).extract 0 m = s.extract p (endK K s p) := by
  have h1 := endK_tail K s p hp
  have hz : (s.extract p s.size).size = s.size - p := by simp
  have h2 := endK_le K (s.extract p s.size) 0 (Nat.zero_le _)
  refine ⟨_, rfl, h1, by omega, hz, ?_⟩
  rw [← h1]
  apply ByteArray.ext
  rw [ByteArray.data_extract, ByteArray.data_extract, ByteArray.data_extract, Array.extract_extract]
  congr 1
  omega
set_option maxRecDepth 100000 in
set_option maxHeartbeats 4000000 in
theorem run_any (g : Nat) (K : Nat → Bool) (c : Bool) (hk : Kin K K c) (eg : ∀ args w, (callFunc g args).run Tryd.prog w = .ok (.enter g args) w) (hg : ∀ (r : Nat) (W : World), Calls Tryd.prog g #[.int .i32 (r : Int)] W fun e w' => e = .returned (.bool (K r)) ∧ w' = W)
    (rb : Nat) (s : ByteArray) (p : Nat) (w : World) (h : RdAt w rb s p) (hp : p ≤ s.size) (hz : s.size ≤ 140737488355328) :
    Calls Tryd.prog 49 #[.pointer (some ⟨rb, 0, none⟩), .func (.func g) #[] #[]] w fun e w' => e = .returned (.string (s.extract p (endK K s p))) ∧ RdAt w' rb s (endK K s p) ∧ Fr (oneB rb) w w' := by
  obtain ⟨m, e1, e2, e3, e4, e5⟩ := tail_end K s p hp
  obtain ⟨q, hq⟩ : ∃ q, endK K s p = q := ⟨_, rfl⟩
  rw [hq] at e2 e5 ⊢
  have hlt := h.lt
  have hne : ¬ rb = w.heap.size := by omega
  obtain ⟨W0, hW0⟩ : ∃ W0, w.alloc (.cells #[.func (.func g) #[] #[]] 76 (0, 0)) = W0 := ⟨_, rfl⟩
  have hF0 : Fr noB w W0 := by rw [← hW0]; exact (Fr.refl noB w).alloc _
  have h0 : RdAt W0 rb s p := h.fr hF0 id
  have d0 := h0.c0
  have d1 := h0.c1
  have hkc : W0.heap[w.heap.size]? = some (.cells #[.func (.func g) #[] #[]] 76 (0, 0)) := by rw [← hW0]; exact heap_alloc_new w _
  obtain ⟨T, hT⟩ : ∃ T, s.extract p s.size = T := ⟨_, rfl⟩
  rw [hT] at e1 e4 e5
  have hTs : ((T.size : Nat) : Int) = (s.size : Int) - (p : Int) := by omega
  have HI : Hid (∀ W, Fr noB W0 W → Calls Tryd.prog 60 #[.string T, .func (.func 61) #[] #[.pointer (some ⟨w.heap.size, 0, none⟩)]] W fun e w' => e = .returned (.int .i64 (if m < T.size then (m : Int) else -1)) ∧ Fr noB W w') := fun W hW => by
    have := idxFunc_any g K c hk eg hg w.heap.size T W (lt_of_block (hW.obj hkc id)) (cellOf (hW.obj hkc id) rfl)
    rwa [e1] at this
  have HR : Hid (RdAt W0 rb s p) := h0
  have HQ : Hid (p + m = q) := e2
  have HE : Hid (T.extract 0 m = s.extract p q) := e5
  have hmf : ∀ (fn : Fn) (first cap : Array Value) (w : World), (Instr.makeFunc fn first cap).run Tryd.prog w = .ok (.func fn first cap) w := fun _ _ _ _ => rfl
  have hpm : (p : Int) + (m : Int) = (q : Int) := by omega
  have hql : (q : Int) ≤ (s.size : Int) := by omega
  have HF0 : Hid (Fr noB w W0) := hF0
  clear h h0 hF0 hkc e1 e2 e5 hq hg hk
  by_cases hm : m < T.size
  · have hm2 : ¬ (m : Int) < 0 := by omega
    have hm3 : (m : Int) ≤ (T.size : Int) := by omega
    have HJ : Hid (∀ W, Fr noB W0 W → Calls Tryd.prog 60 #[.string T, .func (.func 61) #[] #[.pointer (some ⟨w.heap.size, 0, none⟩)]] W fun e w' => e = .returned (.int .i64 (m : Int)) ∧ Fr noB W w') := fun W hW => by
      have := HI.out W hW
      rwa [if_pos hm] at this
    clear HI hm
    go_enter Tryd.func49, Tryd.ntmps49
    go_wp2_with fail
    try rw [hW0]
    go_quiet (fail)
    obtain ⟨W1, hW1⟩ : ∃ W1, W0.drewN nq = W1 := ⟨_, rfl⟩
    have hF1 : Fr noB W0 W1 := by rw [← hW1]; exact (Fr.refl noB _).drewN _
    rw [hW1]
    clear hW1 hT hW0
    go_wp2_with (go_at_call 60; refine (HJ.out _ hF1).mono ?_; rintro e W2 ⟨rfl, hF2⟩; have hR2 := HR.out.fr (hF1.trans hF2) id; have k1 := hR2.c1; have f1 := hR2.f1; have HR2 : Hid _ := hR2; clear hR2)
    go_ret
    rw [HE.out]
    exact ⟨rfl, HR2.out.set q, (((HF0.out.trans hF1).trans hF2).weak).setOne _ _⟩
  · have hm1 : T.size = m := by omega
    have HJ : Hid (∀ W, Fr noB W0 W → Calls Tryd.prog 60 #[.string T, .func (.func 61) #[] #[.pointer (some ⟨w.heap.size, 0, none⟩)]] W fun e w' => e = .returned (.int .i64 (-1)) ∧ Fr noB W w') := fun W hW => by
      have := HI.out W hW
      rwa [if_neg hm] at this
    clear HI hm e4 hTs
    go_enter Tryd.func49, Tryd.ntmps49
    go_wp2_with fail
    try rw [hW0]
    go_quiet (fail)
    obtain ⟨W1, hW1⟩ : ∃ W1, W0.drewN nq = W1 := ⟨_, rfl⟩
    have hF1 : Fr noB W0 W1 := by rw [← hW1]; exact (Fr.refl noB _).drewN _
    rw [hW1]
    clear hW1 hT hW0
    go_wp2_with (go_at_call 60; refine (HJ.out _ hF1).mono ?_; rintro e W2 ⟨rfl, hF2⟩; have hR2 := HR.out.fr (hF1.trans hF2) id; have k1 := hR2.c1; have f1 := hR2.f1; have HR2 : Hid _ := hR2; clear hR2)
    go_ret
    rw [HE.out]
    exact ⟨rfl, HR2.out.set q, (((HF0.out.trans hF1).trans hF2).weak).setOne _ _⟩
#print axioms idxFunc_any
end Go.Proofs.YtiokbpknaldbaaaDoor
