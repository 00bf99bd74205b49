/- Which tokens may be. -/
import Derived.Test.YtdmjbhbiehjelaaGreatDoorK46
import Derived.Deep.DeepCutAuto
import Derived.Laws.AppendOwn
namespace Go.Proofs.YtdmjbhbiehjelaaGreatDoor
open Go.RowKit Go.Shelf

/-- All tables that the law's road looks into. -/
structure PT (w : World) : Prop where
  n : NTab w
  u : UTab_r w
  e : EvTab w
  x : XTab w
  t : Tabs w
  o : OpT w
  p : PrT w
theorem PT.fr {w w' : World} (h : PT w) (hF : Fr noB w w') : PT w' := ⟨h.n.fr hF, h.u.fr hF, h.e.fr hF, h.x.fr hF, h.t.keep hF, h.o.fr hF, h.p.fr hF⟩
theorem ptpv_no {c : Bool} (T : ByteArray) (h : c = false) : tpv c T = .tuple #[.string ⟨#[]⟩, .int .i64 1] := by rw [h]; rfl
theorem pwrL_pos (L : List UInt8) (e : Int) (h : 1 ≤ L.length) : 1 ≤ (wrL L e).length := by
  unfold wrL
  split
  · rw [List.length_append, List.length_cons]; omega
  · split
    · rw [List.length_cons]; omega
    · split
      · rw [List.length_append]; omega
      · rw [List.length_append, List.length_cons]; omega
theorem pemp_dec : decide ((⟨#[]⟩ : ByteArray).size ≠ 0) = false := rfl
theorem ptt_fin {x : Nat} (h : finB x = true) : (baL (ttL x)).size ≠ 0 := by
  rw [baL_size]
  unfold ttL
  rw [if_neg (by rw [h]; simp), List.length_append]
  have hd := (dg_facts x h).1
  have := pwrL_pos (dgL x) (dgE x) hd
  omega
theorem ptt_inf {x : Nat} (h : finB x = false) : (baL (ttL x)).size = 0 := by
  rw [baL_size]
  unfold ttL
  rw [if_pos h]
  rfl
theorem pbrk_size (r1 r2 : ByteArray) (r3 r4 : Bool) (r5 r6 : Int) (r7 r8 : Bool) (r9 r10 : Int) (r11 r12 : Bool) : decide ((brk r1 r2 r3 r4 r5 r6 r7 r8 r9 r10 r11 r12).size ≠ 0) = decide (chkF r1 r2 r3 r4 r5 r6 r9 r10 r11 r12 = 0) := by
  unfold brk
  by_cases h : chkF r1 r2 r3 r4 r5 r6 r9 r10 r11 r12 = 0
  · rw [if_pos h, decide_eq_true h]
    refine decide_eq_true ?_
    rw [ByteArray.size_append, ByteArray.size_append, show (⟨#[91]⟩ : ByteArray).size = 1 from rfl]
    omega
  · rw [if_neg h, decide_eq_false h]
    rfl
theorem pnm_pos {t : ByteArray} (h : nmF t = true) : t.size ≠ 0 := by
  intro e
  rw [nmF_no (fun f => by omega)] at h
  cases h
theorem peT_size (er : Int) : decide ((eT er).size ≠ 0) = decide (1 ≤ er ∧ er ≤ 9) := by
  unfold eT
  by_cases h : 1 ≤ er ∧ er ≤ 9
  · rw [if_pos h, decide_eq_true h]
    refine decide_eq_true ?_
    have e : ∀ k : _root_.Fin 9, (errL.getD k.val ⟨#[]⟩).size ≠ 0 := by decide
    exact e ⟨(er - 1).toNat, by omega⟩
  · rw [if_neg h, decide_eq_false h]
    rfl
theorem tpv_err (c : Bool) (T : ByteArray) : ∃ a, tpv c T = .tuple #[.string a, .int .i64 (if c = true then 0 else 1)] := by
  cases c
  · exact ⟨_, rfl⟩
  · exact ⟨_, rfl⟩
set_option maxRecDepth 100000 in
set_option maxHeartbeats 2000000 in
theorem isTok1 (x : Nat) (hx : x < 18446744073709551616) (w : World) (hT : PT w) : Calls Tryz.prog 99 #[(.agg #[.int .i64 1, .float .f64 x, .string ⟨#[]⟩, .string ⟨#[]⟩, .string ⟨#[]⟩, .bool false, .bool false, .int .i64 0, .int .i64 0, .bool false, .bool false, .int .i64 0, .int .i64 0, .bool false, .bool false, .int .i64 0, .int .i64 0])] w fun e w' => e = .returned (.bool (finB x && decide (x < 9223372036854775808))) ∧ Fr noB w w' := by
  obtain ⟨A, HX⟩ : ∃ A, Hid (∀ W, Fr noB w W → Calls Tryz.prog 129 #[(.agg #[.int .i64 1, .float .f64 x, .string ⟨#[]⟩, .string ⟨#[]⟩, .string ⟨#[]⟩, .bool false, .bool false, .int .i64 0, .int .i64 0, .bool false, .bool false, .int .i64 0, .int .i64 0, .bool false, .bool false, .int .i64 0, .int .i64 0])] W fun e w' => e = .returned (.tuple #[.string A, .int .i64 (if (finB x && decide (x < 9223372036854775808)) = true then 0 else 1)]) ∧ Fr noB W w') := by
    obtain ⟨A, hA⟩ := tpv_err (finB x && decide (x < 9223372036854775808)) (baL (ttL x))
    refine ⟨A, fun W hW => ?_⟩
    rw [← hA]
    have hN := (hT.fr hW).n
    by_cases hs : x < 9223372036854775808
    · have h := text_gen 1 x ⟨#[]⟩ ⟨#[]⟩ ⟨#[]⟩ false false 0 0 false false 0 0 false false 0 0 W (by decide) _ _ (fun V => bare_lx1 x ⟨#[]⟩ ⟨#[]⟩ ⟨#[]⟩ false false 0 0 false false 0 0 false false 0 0 V) (fun V hV => wr1n x ⟨#[]⟩ ⟨#[]⟩ ⟨#[]⟩ false false 0 0 false false 0 0 false false 0 0 V hs (hN.fr hV))
      have e : tpv ((Op.floatEq .f64 x x && (⟨#[]⟩ : ByteArray).toList.isEmpty && rz ⟨#[]⟩ ⟨#[]⟩ false false 0 0 false false 0 0 false false && ((0 : Int) == 0)) && decide ((baL (ttL x)).size ≠ 0)) (baL (ttL x)) = tpv (finB x && decide (x < 9223372036854775808)) (baL (ttL x)) := by
        congr 1
        rw [decide_eq_true hs, show (⟨#[]⟩ : ByteArray).toList.isEmpty = true by rw [ByteArray.toList_eq]; rfl, show rz ⟨#[]⟩ ⟨#[]⟩ false false 0 0 false false 0 0 false false = true by unfold rz; rw [ByteArray.toList_eq]; rfl]
        cases hf : finB x with
        | true => rw [eq_self hf, decide_eq_true (ptt_fin hf)]; rfl
        | false => rw [decide_eq_false (by simpa using ptt_inf hf)]; simp
      rw [e] at h
      exact h
    · have h := text_gen 1 x ⟨#[]⟩ ⟨#[]⟩ ⟨#[]⟩ false false 0 0 false false 0 0 false false 0 0 W (by decide) _ _ (fun V => bare_lx1 x ⟨#[]⟩ ⟨#[]⟩ ⟨#[]⟩ false false 0 0 false false 0 0 false false 0 0 V) (fun V hV => wr1s x ⟨#[]⟩ ⟨#[]⟩ ⟨#[]⟩ false false 0 0 false false 0 0 false false 0 0 V (by omega) hx)
      rw [ptpv_no _ (by rw [pemp_dec, Bool.and_false])] at h
      rw [ptpv_no _ (by rw [decide_eq_false hs, Bool.and_false])]
      exact h
  obtain ⟨E, hE⟩ : ∃ E : Int, (if (finB x && decide (x < 9223372036854775808)) = true then 0 else 1) = E := ⟨_, rfl⟩
  obtain ⟨R, hR⟩ : ∃ R : Bool, (finB x && decide (x < 9223372036854775808)) = R := ⟨_, rfl⟩
  have HR : Hid ((E == 0) = R) := by
    show (E == 0) = R
    rw [← hE, ← hR]
    first | rfl | (split <;> simp_all)
  rw [hE] at HX
  rw [hR]
  clear hE hR hT
  go_enter Tryz.func99, Tryz.ntmps99
  go_upto_region 1 with fail
  obtain ⟨W0, hW0⟩ : ∃ W0, w.alloc (.cells #[.int .i64 1, .float .f64 x, .string ⟨#[]⟩, .string ⟨#[]⟩, .string ⟨#[]⟩, .bool false, .bool false, .int .i64 0, .int .i64 0, .bool false, .bool false, .int .i64 0, .int .i64 0, .bool false, .bool false, .int .i64 0, .int .i64 0] 116 (0, 0)) = W0 := ⟨_, rfl⟩
  have HA : Hid (W0.heap[w.heap.size]? = some (.cells #[.int .i64 1, .float .f64 x, .string ⟨#[]⟩, .string ⟨#[]⟩, .string ⟨#[]⟩, .bool false, .bool false, .int .i64 0, .int .i64 0, .bool false, .bool false, .int .i64 0, .int .i64 0, .bool false, .bool false, .int .i64 0, .int .i64 0] 116 (0, 0))) := by rw [← hW0]; exact heap_alloc_new w _
  have HF : Hid (Fr noB w W0) := by rw [← hW0]; exact (Fr.refl noB w).alloc _
  rw [hW0]
  clear hW0
  generalize w.heap.size = H at *
  go_wp2_with (first
    | (refine wpList_load_row rfl 116 (.tmp 1) rfl H rfl 116 #[.int .i64 1, .float .f64 x, .string ⟨#[]⟩, .string ⟨#[]⟩, .string ⟨#[]⟩, .bool false, .bool false, .int .i64 0, .int .i64 0, .bool false, .bool false, .int .i64 0, .int .i64 0, .bool false, .bool false, .int .i64 0, .int .i64 0] (0, 0) _ HA.out Tryz.underlying116 rfl info_lx ?_)
    | (go_at_call 129; refine (HX.out _ HF.out).mono ?_; rintro e w1 ⟨rfl, hF1⟩))
  go_ret
  exact ⟨by rw [← HR.out]; rfl, HF.out.trans hF1⟩
set_option maxRecDepth 100000 in
set_option maxHeartbeats 2000000 in
theorem isTok2 (t : ByteArray) (w : World) (hT : PT w) : Calls Tryz.prog 99 #[(.agg #[.int .i64 2, .float .f64 0, .string t, .string ⟨#[]⟩, .string ⟨#[]⟩, .bool false, .bool false, .int .i64 0, .int .i64 0, .bool false, .bool false, .int .i64 0, .int .i64 0, .bool false, .bool false, .int .i64 0, .int .i64 0])] w fun e w' => e = .returned (.bool (decide (qtE t = 0))) ∧ Fr noB w w' := by
  obtain ⟨A, HX⟩ : ∃ A, Hid (∀ W, Fr noB w W → Calls Tryz.prog 129 #[(.agg #[.int .i64 2, .float .f64 0, .string t, .string ⟨#[]⟩, .string ⟨#[]⟩, .bool false, .bool false, .int .i64 0, .int .i64 0, .bool false, .bool false, .int .i64 0, .int .i64 0, .bool false, .bool false, .int .i64 0, .int .i64 0])] W fun e w' => e = .returned (.tuple #[.string A, .int .i64 (qtE t)]) ∧ Fr noB W w') := by
    refine ⟨if qtE t = 0 then qtF t else ⟨#[]⟩, fun W hW => ?_⟩
    have h := text_two 0 t ⟨#[]⟩ ⟨#[]⟩ false false 0 0 false false 0 0 false false 0 0 W (hT.fr hW).x _ (fun V => bare_lx0 2 0 t ⟨#[]⟩ ⟨#[]⟩ false false 0 0 false false 0 0 false false 0 0 V (by decide) (by decide) (by decide))
    rw [if_pos (by show (Op.floatEq .f64 0 0 && rz ⟨#[]⟩ ⟨#[]⟩ false false 0 0 false false 0 0 false false && ((0 : Int) == 0)) = true; rw [show rz ⟨#[]⟩ ⟨#[]⟩ false false 0 0 false false 0 0 false false = true by unfold rz; rw [ByteArray.toList_eq]; rfl, show Op.floatEq .f64 0 0 = true by decide +kernel]; rfl)] at h
    exact h
  obtain ⟨E, hE⟩ : ∃ E : Int, (qtE t) = E := ⟨_, rfl⟩
  obtain ⟨R, hR⟩ : ∃ R : Bool, (decide (qtE t = 0)) = R := ⟨_, rfl⟩
  have HR : Hid ((E == 0) = R) := by
    show (E == 0) = R
    rw [← hE, ← hR]
    first | rfl | (split <;> simp_all)
  rw [hE] at HX
  rw [hR]
  clear hE hR hT
  go_enter Tryz.func99, Tryz.ntmps99
  go_upto_region 1 with fail
  obtain ⟨W0, hW0⟩ : ∃ W0, w.alloc (.cells #[.int .i64 2, .float .f64 0, .string t, .string ⟨#[]⟩, .string ⟨#[]⟩, .bool false, .bool false, .int .i64 0, .int .i64 0, .bool false, .bool false, .int .i64 0, .int .i64 0, .bool false, .bool false, .int .i64 0, .int .i64 0] 116 (0, 0)) = W0 := ⟨_, rfl⟩
  have HA : Hid (W0.heap[w.heap.size]? = some (.cells #[.int .i64 2, .float .f64 0, .string t, .string ⟨#[]⟩, .string ⟨#[]⟩, .bool false, .bool false, .int .i64 0, .int .i64 0, .bool false, .bool false, .int .i64 0, .int .i64 0, .bool false, .bool false, .int .i64 0, .int .i64 0] 116 (0, 0))) := by rw [← hW0]; exact heap_alloc_new w _
  have HF : Hid (Fr noB w W0) := by rw [← hW0]; exact (Fr.refl noB w).alloc _
  rw [hW0]
  clear hW0
  generalize w.heap.size = H at *
  go_wp2_with (first
    | (refine wpList_load_row rfl 116 (.tmp 1) rfl H rfl 116 #[.int .i64 2, .float .f64 0, .string t, .string ⟨#[]⟩, .string ⟨#[]⟩, .bool false, .bool false, .int .i64 0, .int .i64 0, .bool false, .bool false, .int .i64 0, .int .i64 0, .bool false, .bool false, .int .i64 0, .int .i64 0] (0, 0) _ HA.out Tryz.underlying116 rfl info_lx ?_)
    | (go_at_call 129; refine (HX.out _ HF.out).mono ?_; rintro e w1 ⟨rfl, hF1⟩))
  go_ret
  exact ⟨by rw [← HR.out]; rfl, HF.out.trans hF1⟩
set_option maxRecDepth 100000 in
set_option maxHeartbeats 2000000 in
theorem isTok3 (r1 r2 : ByteArray) (r3 r4 : Bool) (r5 r6 : Int) (r7 r8 : Bool) (r9 r10 : Int) (r11 r12 : Bool) (w : World) (hT : PT w) : Calls Tryz.prog 99 #[(.agg #[.int .i64 3, .float .f64 0, .string ⟨#[]⟩, .string r1, .string r2, .bool r3, .bool r4, .int .i64 r5, .int .i64 r6, .bool r7, .bool r8, .int .i64 r9, .int .i64 r10, .bool r11, .bool r12, .int .i64 0, .int .i64 0])] w fun e w' => e = .returned (.bool (decide (chkF r1 r2 r3 r4 r5 r6 r9 r10 r11 r12 = 0))) ∧ Fr noB w w' := by
  obtain ⟨A, HX⟩ : ∃ A, Hid (∀ W, Fr noB w W → Calls Tryz.prog 129 #[(.agg #[.int .i64 3, .float .f64 0, .string ⟨#[]⟩, .string r1, .string r2, .bool r3, .bool r4, .int .i64 r5, .int .i64 r6, .bool r7, .bool r8, .int .i64 r9, .int .i64 r10, .bool r11, .bool r12, .int .i64 0, .int .i64 0])] W fun e w' => e = .returned (.tuple #[.string A, .int .i64 (if decide (chkF r1 r2 r3 r4 r5 r6 r9 r10 r11 r12 = 0) = true then 0 else 1)]) ∧ Fr noB W w') := by
    obtain ⟨A, hA⟩ := tpv_err (decide (chkF r1 r2 r3 r4 r5 r6 r9 r10 r11 r12 = 0)) (brk r1 r2 r3 r4 r5 r6 r7 r8 r9 r10 r11 r12)
    refine ⟨A, fun W hW => ?_⟩
    rw [← hA]
    have h := text_gen 3 0 ⟨#[]⟩ r1 r2 r3 r4 r5 r6 r7 r8 r9 r10 r11 r12 0 0 W (by decide) _ _ (fun V => bare_lx3 0 ⟨#[]⟩ r1 r2 r3 r4 r5 r6 r7 r8 r9 r10 r11 r12 0 0 V) (fun V hV => wr3 0 ⟨#[]⟩ r1 r2 r3 r4 r5 r6 r7 r8 r9 r10 r11 r12 0 0 V ((hT.fr hW).fr hV).u)
    rw [pbrk_size, show (Op.floatEq .f64 0 0 && (⟨#[]⟩ : ByteArray).toList.isEmpty && ((0 : Int) == 0)) = true by rw [show (⟨#[]⟩ : ByteArray).toList.isEmpty = true by rw [ByteArray.toList_eq]; rfl, show Op.floatEq .f64 0 0 = true by decide +kernel]; rfl, Bool.true_and] at h
    exact h
  obtain ⟨E, hE⟩ : ∃ E : Int, (if decide (chkF r1 r2 r3 r4 r5 r6 r9 r10 r11 r12 = 0) = true then 0 else 1) = E := ⟨_, rfl⟩
  obtain ⟨R, hR⟩ : ∃ R : Bool, (decide (chkF r1 r2 r3 r4 r5 r6 r9 r10 r11 r12 = 0)) = R := ⟨_, rfl⟩
  have HR : Hid ((E == 0) = R) := by
    show (E == 0) = R
    rw [← hE, ← hR]
    first | rfl | (split <;> simp_all)
  rw [hE] at HX
  rw [hR]
  clear hE hR hT
  go_enter Tryz.func99, Tryz.ntmps99
  go_upto_region 1 with fail
  obtain ⟨W0, hW0⟩ : ∃ W0, w.alloc (.cells #[.int .i64 3, .float .f64 0, .string ⟨#[]⟩, .string r1, .string r2, .bool r3, .bool r4, .int .i64 r5, .int .i64 r6, .bool r7, .bool r8, .int .i64 r9, .int .i64 r10, .bool r11, .bool r12, .int .i64 0, .int .i64 0] 116 (0, 0)) = W0 := ⟨_, rfl⟩
  have HA : Hid (W0.heap[w.heap.size]? = some (.cells #[.int .i64 3, .float .f64 0, .string ⟨#[]⟩, .string r1, .string r2, .bool r3, .bool r4, .int .i64 r5, .int .i64 r6, .bool r7, .bool r8, .int .i64 r9, .int .i64 r10, .bool r11, .bool r12, .int .i64 0, .int .i64 0] 116 (0, 0))) := by rw [← hW0]; exact heap_alloc_new w _
  have HF : Hid (Fr noB w W0) := by rw [← hW0]; exact (Fr.refl noB w).alloc _
  rw [hW0]
  clear hW0
  generalize w.heap.size = H at *
  go_wp2_with (first
    | (refine wpList_load_row rfl 116 (.tmp 1) rfl H rfl 116 #[.int .i64 3, .float .f64 0, .string ⟨#[]⟩, .string r1, .string r2, .bool r3, .bool r4, .int .i64 r5, .int .i64 r6, .bool r7, .bool r8, .int .i64 r9, .int .i64 r10, .bool r11, .bool r12, .int .i64 0, .int .i64 0] (0, 0) _ HA.out Tryz.underlying116 rfl info_lx ?_)
    | (go_at_call 129; refine (HX.out _ HF.out).mono ?_; rintro e w1 ⟨rfl, hF1⟩))
  go_ret
  exact ⟨by rw [← HR.out]; rfl, HF.out.trans hF1⟩
set_option maxRecDepth 100000 in
set_option maxHeartbeats 2000000 in
theorem isTok4 (t : ByteArray) (ht : t.size ≤ 140737488355328) (w : World)  : Calls Tryz.prog 99 #[(.agg #[.int .i64 4, .float .f64 0, .string t, .string ⟨#[]⟩, .string ⟨#[]⟩, .bool false, .bool false, .int .i64 0, .int .i64 0, .bool false, .bool false, .int .i64 0, .int .i64 0, .bool false, .bool false, .int .i64 0, .int .i64 0])] w fun e w' => e = .returned (.bool (nmF t)) ∧ Fr noB w w' := by
  obtain ⟨A, HX⟩ : ∃ A, Hid (∀ W, Fr noB w W → Calls Tryz.prog 129 #[(.agg #[.int .i64 4, .float .f64 0, .string t, .string ⟨#[]⟩, .string ⟨#[]⟩, .bool false, .bool false, .int .i64 0, .int .i64 0, .bool false, .bool false, .int .i64 0, .int .i64 0, .bool false, .bool false, .int .i64 0, .int .i64 0])] W fun e w' => e = .returned (.tuple #[.string A, .int .i64 (if nmF t = true then 0 else 1)]) ∧ Fr noB W w') := by
    obtain ⟨A, hA⟩ := tpv_err (nmF t) t
    refine ⟨A, fun W hW => ?_⟩
    rw [← hA]
    have hz : (Op.floatEq .f64 0 0 && rz ⟨#[]⟩ ⟨#[]⟩ false false 0 0 false false 0 0 false false && ((0 : Int) == 0)) = true := by rw [show rz ⟨#[]⟩ ⟨#[]⟩ false false 0 0 false false 0 0 false false = true by unfold rz; rw [ByteArray.toList_eq]; rfl, show Op.floatEq .f64 0 0 = true by decide +kernel]; rfl
    cases hn : nmF t with
    | true =>
      have h := text_gen 4 0 t ⟨#[]⟩ ⟨#[]⟩ false false 0 0 false false 0 0 false false 0 0 W (by decide) _ _ (fun V => bare_lx0 4 0 t ⟨#[]⟩ ⟨#[]⟩ false false 0 0 false false 0 0 false false 0 0 V (by decide) (by decide) (by decide)) (fun V hV => wr4t 0 t ⟨#[]⟩ ⟨#[]⟩ false false 0 0 false false 0 0 false false 0 0 V hn (by omega))
      rw [hz, decide_eq_true (pnm_pos hn)] at h
      exact h
    | false =>
      have h := text_gen 4 0 t ⟨#[]⟩ ⟨#[]⟩ false false 0 0 false false 0 0 false false 0 0 W (by decide) _ _ (fun V => bare_lx0 4 0 t ⟨#[]⟩ ⟨#[]⟩ false false 0 0 false false 0 0 false false 0 0 V (by decide) (by decide) (by decide)) (fun V hV => wr4f 0 t ⟨#[]⟩ ⟨#[]⟩ false false 0 0 false false 0 0 false false 0 0 V hn)
      rw [ptpv_no _ (by rw [pemp_dec, Bool.and_false])] at h
      exact h
  obtain ⟨E, hE⟩ : ∃ E : Int, (if nmF t = true then 0 else 1) = E := ⟨_, rfl⟩
  obtain ⟨R, hR⟩ : ∃ R : Bool, (nmF t) = R := ⟨_, rfl⟩
  have HR : Hid ((E == 0) = R) := by
    show (E == 0) = R
    rw [← hE, ← hR]
    first | rfl | (split <;> simp_all)
  rw [hE] at HX
  rw [hR]
  clear hE hR
  go_enter Tryz.func99, Tryz.ntmps99
  go_upto_region 1 with fail
  obtain ⟨W0, hW0⟩ : ∃ W0, w.alloc (.cells #[.int .i64 4, .float .f64 0, .string t, .string ⟨#[]⟩, .string ⟨#[]⟩, .bool false, .bool false, .int .i64 0, .int .i64 0, .bool false, .bool false, .int .i64 0, .int .i64 0, .bool false, .bool false, .int .i64 0, .int .i64 0] 116 (0, 0)) = W0 := ⟨_, rfl⟩
  have HA : Hid (W0.heap[w.heap.size]? = some (.cells #[.int .i64 4, .float .f64 0, .string t, .string ⟨#[]⟩, .string ⟨#[]⟩, .bool false, .bool false, .int .i64 0, .int .i64 0, .bool false, .bool false, .int .i64 0, .int .i64 0, .bool false, .bool false, .int .i64 0, .int .i64 0] 116 (0, 0))) := by rw [← hW0]; exact heap_alloc_new w _
  have HF : Hid (Fr noB w W0) := by rw [← hW0]; exact (Fr.refl noB w).alloc _
  rw [hW0]
  clear hW0
  generalize w.heap.size = H at *
  go_wp2_with (first
    | (refine wpList_load_row rfl 116 (.tmp 1) rfl H rfl 116 #[.int .i64 4, .float .f64 0, .string t, .string ⟨#[]⟩, .string ⟨#[]⟩, .bool false, .bool false, .int .i64 0, .int .i64 0, .bool false, .bool false, .int .i64 0, .int .i64 0, .bool false, .bool false, .int .i64 0, .int .i64 0] (0, 0) _ HA.out Tryz.underlying116 rfl info_lx ?_)
    | (go_at_call 129; refine (HX.out _ HF.out).mono ?_; rintro e w1 ⟨rfl, hF1⟩))
  go_ret
  exact ⟨by rw [← HR.out]; rfl, HF.out.trans hF1⟩
set_option maxRecDepth 100000 in
set_option maxHeartbeats 2000000 in
theorem isTok5 (er : Int) (w : World) (hT : PT w) : Calls Tryz.prog 99 #[(.agg #[.int .i64 5, .float .f64 0, .string ⟨#[]⟩, .string ⟨#[]⟩, .string ⟨#[]⟩, .bool false, .bool false, .int .i64 0, .int .i64 0, .bool false, .bool false, .int .i64 0, .int .i64 0, .bool false, .bool false, .int .i64 er, .int .i64 0])] w fun e w' => e = .returned (.bool (decide (1 ≤ er ∧ er ≤ 9))) ∧ Fr noB w w' := by
  obtain ⟨A, HX⟩ : ∃ A, Hid (∀ W, Fr noB w W → Calls Tryz.prog 129 #[(.agg #[.int .i64 5, .float .f64 0, .string ⟨#[]⟩, .string ⟨#[]⟩, .string ⟨#[]⟩, .bool false, .bool false, .int .i64 0, .int .i64 0, .bool false, .bool false, .int .i64 0, .int .i64 0, .bool false, .bool false, .int .i64 er, .int .i64 0])] W fun e w' => e = .returned (.tuple #[.string A, .int .i64 (if decide (1 ≤ er ∧ er ≤ 9) = true then 0 else 1)]) ∧ Fr noB W w') := by
    obtain ⟨A, hA⟩ := tpv_err (decide (1 ≤ er ∧ er ≤ 9)) (eT er)
    refine ⟨A, fun W hW => ?_⟩
    rw [← hA]
    have h := text_gen 5 0 ⟨#[]⟩ ⟨#[]⟩ ⟨#[]⟩ false false 0 0 false false 0 0 false false er 0 W (by decide) _ _ (fun V => bare_lx5 0 ⟨#[]⟩ ⟨#[]⟩ ⟨#[]⟩ false false 0 0 false false 0 0 false false er 0 V) (fun V hV => wr5 0 ⟨#[]⟩ ⟨#[]⟩ ⟨#[]⟩ false false 0 0 false false 0 0 false false er 0 V ((hT.fr hW).fr hV).e)
    rw [peT_size, show (Op.floatEq .f64 0 0 && (⟨#[]⟩ : ByteArray).toList.isEmpty && rz ⟨#[]⟩ ⟨#[]⟩ false false 0 0 false false 0 0 false false) = true by rw [show (⟨#[]⟩ : ByteArray).toList.isEmpty = true by rw [ByteArray.toList_eq]; rfl, show rz ⟨#[]⟩ ⟨#[]⟩ false false 0 0 false false 0 0 false false = true by unfold rz; rw [ByteArray.toList_eq]; rfl, show Op.floatEq .f64 0 0 = true by decide +kernel]; rfl, Bool.true_and] at h
    exact h
  obtain ⟨E, hE⟩ : ∃ E : Int, (if decide (1 ≤ er ∧ er ≤ 9) = true then 0 else 1) = E := ⟨_, rfl⟩
  obtain ⟨R, hR⟩ : ∃ R : Bool, (decide (1 ≤ er ∧ er ≤ 9)) = R := ⟨_, rfl⟩
  have HR : Hid ((E == 0) = R) := by
    show (E == 0) = R
    rw [← hE, ← hR]
    first | rfl | (split <;> simp_all)
  rw [hE] at HX
  rw [hR]
  clear hE hR hT
  go_enter Tryz.func99, Tryz.ntmps99
  go_upto_region 1 with fail
  obtain ⟨W0, hW0⟩ : ∃ W0, w.alloc (.cells #[.int .i64 5, .float .f64 0, .string ⟨#[]⟩, .string ⟨#[]⟩, .string ⟨#[]⟩, .bool false, .bool false, .int .i64 0, .int .i64 0, .bool false, .bool false, .int .i64 0, .int .i64 0, .bool false, .bool false, .int .i64 er, .int .i64 0] 116 (0, 0)) = W0 := ⟨_, rfl⟩
  have HA : Hid (W0.heap[w.heap.size]? = some (.cells #[.int .i64 5, .float .f64 0, .string ⟨#[]⟩, .string ⟨#[]⟩, .string ⟨#[]⟩, .bool false, .bool false, .int .i64 0, .int .i64 0, .bool false, .bool false, .int .i64 0, .int .i64 0, .bool false, .bool false, .int .i64 er, .int .i64 0] 116 (0, 0))) := by rw [← hW0]; exact heap_alloc_new w _
  have HF : Hid (Fr noB w W0) := by rw [← hW0]; exact (Fr.refl noB w).alloc _
  rw [hW0]
  clear hW0
  generalize w.heap.size = H at *
  go_wp2_with (first
    | (refine wpList_load_row rfl 116 (.tmp 1) rfl H rfl 116 #[.int .i64 5, .float .f64 0, .string ⟨#[]⟩, .string ⟨#[]⟩, .string ⟨#[]⟩, .bool false, .bool false, .int .i64 0, .int .i64 0, .bool false, .bool false, .int .i64 0, .int .i64 0, .bool false, .bool false, .int .i64 er, .int .i64 0] (0, 0) _ HA.out Tryz.underlying116 rfl info_lx ?_)
    | (go_at_call 129; refine (HX.out _ HF.out).mono ?_; rintro e w1 ⟨rfl, hF1⟩))
  go_ret
  exact ⟨by rw [← HR.out]; rfl, HF.out.trans hF1⟩
theorem slV_ex (sl : Option (Nat × Nat)) (n cap : Nat) : ∃ g, slV sl n cap = .slice g n cap := by
  cases sl with
  | none => exact ⟨_, rfl⟩
  | some p => exact ⟨_, rfl⟩
set_option maxRecDepth 100000 in
set_option maxHeartbeats 2000000 in
theorem constS_any (f : TF) (n cap : Nat) (sl : Option (Nat × Nat)) (b o : Nat) (w : World) (hT : PT w) (hk : f.ok) (hn : n ≤ 140737488355328) (h : RowAt w b o (f.cells (slV sl n cap))) : Calls Tryz.prog 100 #[.pointer (some ⟨b, o, none⟩)] w fun e w' => e = .returned (.bool (decide (n = 0) && constF f)) ∧ Fr noB w w' := by
  obtain ⟨g, hg⟩ := slV_ex sl n cap
  rw [hg] at h
  obtain ⟨op, x, t, er, nm, r1, r2, r3, r4, r5, r6, r7, r8, r9, r10, r11, r12, rows⟩ := f
  have c0 := h.2 0 _ rfl
  have c18 := h.2 18 _ rfl
  have c1 := h.2 1 _ rfl
  have c2 := h.2 2 _ rfl
  have c3 := h.2 3 _ rfl
  simp only [Nat.add_zero] at c0
  have H1 := isTok1 x hk.x w hT
  have H2 := isTok2 t w hT
  have H5 := isTok5 er w hT
  by_cases h0 : n = 0
  · subst h0
    rw [decide_eq_true rfl, Bool.true_and]
    by_cases k1 : op = 1
    · subst k1
      unfold constF
      rw [if_pos rfl]
      generalize (finB x && decide (x < 9223372036854775808)) = B at *
      clear H2 H5 h hT hk c2 c3
      go_enter Tryz.func100, Tryz.ntmps100
      go_wp2_with (go_at_call 99; refine H1.mono ?_; rintro e w1 ⟨rfl, hF1⟩)
      go_ret
      exact ⟨rfl, hF1⟩
    by_cases k2 : op = 2
    · subst k2
      unfold constF
      rw [if_neg (by simp), if_pos rfl]
      generalize decide (qtE t = 0) = B at *
      clear H1 H5 h hT hk c1 c3
      go_enter Tryz.func100, Tryz.ntmps100
      go_wp2_with (go_at_call 99; refine H2.mono ?_; rintro e w1 ⟨rfl, hF1⟩)
      go_ret
      exact ⟨rfl, hF1⟩
    by_cases k3 : op = 3
    · subst k3
      unfold constF
      rw [if_neg (by simp), if_neg (by simp), if_pos rfl]
      generalize decide (1 ≤ er ∧ er ≤ 9) = B at *
      clear H1 H2 h hT hk c1 c2
      go_enter Tryz.func100, Tryz.ntmps100
      go_wp2_with (go_at_call 99; refine H5.mono ?_; rintro e w1 ⟨rfl, hF1⟩)
      go_ret
      exact ⟨rfl, hF1⟩
    · unfold constF
      rw [if_neg k1, if_neg k2, if_neg k3]
      clear H1 H2 H5 h hT hk c1 c2 c3
      go_enter Tryz.func100, Tryz.ntmps100
      go_wp2_with fail
      go_ret
      exact ⟨rfl, Fr.refl _ _⟩
  · rw [decide_eq_false h0, Bool.false_and]
    have hp : (0 : Int) < (n : Int) := by omega
    clear H1 H2 H5 h hT hk c1 c2 c3 h0
    go_enter Tryz.func100, Tryz.ntmps100
    go_wp2_with fail
    go_ret
    exact ⟨rfl, Fr.refl _ _⟩
#print axioms constS_any
#print axioms isTok1
#print axioms isTok2
#print axioms isTok3
#print axioms isTok4
#print axioms isTok5
end Go.Proofs.YtdmjbhbiehjelaaGreatDoor
/- The operators in one row with a term's. -/
namespace Go.Proofs.YtdmjbhbiehjelaaGreatDoor
open Go.RowKit Go.Shelf

theorem qown_keep {base e size n : Nat} {v : Value} {xs : List Value} {w w' : World} (h : w.ownsRow base e size v n xs) (hf : Fr noB w w') : w'.ownsRow base e size v n xs := by
  refine ⟨h.1, ?_⟩
  rcases h.2 with h0 | ⟨g, cap, cur, hv, hb, hg, r⟩
  · exact .inl h0
  · exact .inr ⟨g, cap, cur, hv, hb, hf.obj hg id, r⟩
theorem qown_form {base e n : Nat} {v : Value} {xs : List Value} {w : World} (h : w.ownsRow base e 1 v n xs) : ∃ so sc, v = .slice so n sc := by
  rcases h.2 with ⟨hv, h0⟩ | ⟨g, cap, cur, hv, _⟩
  · exact ⟨none, 0, by rw [hv, h0]⟩
  · exact ⟨_, _, hv⟩
theorem qone_src (w : World) (x : Value) (t : TypeId) : ∀ j u, [x][j]? = some u → (w.alloc (.cells #[x] t (0, 0))).cell? ((⟨w.heap.size, 0, none⟩ : Addr).add j) = some u := by
  intro j u hj
  match j, hj with
  | 0, hj =>
    simp at hj
    subst hj
    rw [add_none]
    exact cellOf (heap_alloc_new _ _) (by simp)
  | j + 1, hj => simp at hj
theorem qown_cells {base e n : Nat} {so : Option Addr} {sc : Nat} {xs : List Value} {w : World} (h : w.ownsRow base e 1 (.slice so n sc) n xs) (h0 : 0 < n) : ∃ g, so = some ⟨g, 0, none⟩ ∧ base ≤ g ∧ n ≤ sc ∧ ∀ j u, xs[j]? = some u → w.cell? ⟨g, j, none⟩ = some u := by
  rcases h.2 with ⟨hv, hz⟩ | ⟨g, cap, cur, hv, hb, hg, hn, _⟩
  · omega
  · cases hv
    refine ⟨g, rfl, hb, by omega, fun j u hj => ?_⟩
    have := h.cells (g := g) rfl j u hj
    rwa [add_none, Nat.zero_add] at this
theorem pinfo : (Tryz.prog.info? 41).map (fun i => (i.zero, i.size, i.bytes)) = some (some (.pointer none), 1, 8) := by kernel_rfl
/-- A term with its place. -/
abbrev TP := Tm × Nat × Nat
def prV (e : TP) : Value := .pointer (some ⟨e.2.1, e.2.2, none⟩)
/-- Terms of one row, each the first of the Args of the one ahead of it. -/
def GoodE (w : World) (ln : Nat) (E : List TP) : Prop :=
  ∀ i e, E[i]? = some e → TAt w e.2.1 e.2.2 e.1 ∧ lnF e.1.f.op = ln ∧ ∀ e', E[i + 1]? = some e' → e.1.args.head? = some e'.1
/-- Nothing follows, or too many there are. -/
def EndE (ln : Nat) (E : List TP) : Prop := E.length = 65 ∨ ∀ e a, E.getLast? = some e → e.1.args.head? = some a → ¬ lnF a.f.op = ln
theorem chain_at (t a : Tm) (h : t.args.head? = some a) : chainF t = if lnF a.f.op = lnF t.f.op then chainF a + 1 else 1 := by
  cases t with
  | mk f sl cap args =>
    cases args with
    | nil => simp [Tm.args] at h
    | cons x l =>
      simp [Tm.args] at h
      subst h
      rw [chainF]
      rfl
theorem chain_pos (t : Tm) : 1 ≤ chainF t := by
  cases t with
  | mk f sl cap args =>
    cases args with
    | nil => rw [chainF]; exact Nat.le_refl _
    | cons x l =>
      rw [chainF]
      split <;> omega
theorem chain_none (t : Tm) (h : t.args.head? = none) : chainF t = 1 := by
  cases t with
  | mk f sl cap args =>
    cases args with
    | nil => rw [chainF]
    | cons x l => simp [Tm.args] at h
/-- How many operators a row has from a place on. -/
theorem good_ge {w : World} {ln : Nat} {E : List TP} (h : GoodE w ln E) : ∀ (k i : Nat) (e : TP), E.length - i = k → E[i]? = some e → E.length - i ≤ chainF e.1
  | 0, i, e, hk, he => by omega
  | k + 1, i, e, hk, he => by
    by_cases hn : i + 1 < E.length
    · have h2 := h i e he
      have h3 := h2.2.2 E[i + 1] (List.getElem?_eq_getElem hn)
      have h4 := h (i + 1) E[i + 1] (List.getElem?_eq_getElem hn)
      have ih := good_ge h k (i + 1) E[i + 1] (by omega) (List.getElem?_eq_getElem hn)
      rw [chain_at e.1 _ h3, if_pos (h4.2.1.trans h2.2.1.symm)]
      omega
    · have := chain_pos e.1
      omega
theorem good_eq {w : World} {ln : Nat} {E : List TP} (h : GoodE w ln E) (hx : ∀ e a, E.getLast? = some e → e.1.args.head? = some a → ¬ lnF a.f.op = ln) : ∀ (k i : Nat) (e : TP), E.length - i = k → E[i]? = some e → chainF e.1 = E.length - i
  | 0, i, e, hk, he => by
    have : i < E.length := by
      rcases Nat.lt_or_ge i E.length with h' | h'
      · exact h'
      · rw [List.getElem?_eq_none h'] at he; cases he
    omega
  | k + 1, i, e, hk, he => by
    by_cases hn : i + 1 < E.length
    · have h2 := h i e he
      have h3 := h2.2.2 E[i + 1] (List.getElem?_eq_getElem hn)
      have h4 := h (i + 1) E[i + 1] (List.getElem?_eq_getElem hn)
      have ih := good_eq h hx k (i + 1) E[i + 1] (by omega) (List.getElem?_eq_getElem hn)
      rw [chain_at e.1 _ h3, if_pos (h4.2.1.trans h2.2.1.symm), ih]
      omega
    · have hl : E.getLast? = some e := by rw [List.getLast?_eq_getElem?, show E.length - 1 = i by omega]; exact he
      have h2 := h i e he
      cases ha : e.1.args.head? with
      | none => rw [chain_none _ ha]; omega
      | some a =>
        rw [chain_at e.1 a ha, if_neg (fun f => hx e a hl ha (f.trans h2.2.1))]
        omega
theorem good_snoc {w : World} {ln : Nat} {E : List TP} {e e' : TP} (h : GoodE w ln E) (hl : E.getLast? = some e) (ha : TAt w e'.2.1 e'.2.2 e'.1) (hn : lnF e'.1.f.op = ln) (hh : e.1.args.head? = some e'.1) : GoodE w ln (E ++ [e']) := by
  intro i x hx
  by_cases hi : i < E.length
  · rw [List.getElem?_append_left hi] at hx
    have := h i x hx
    refine ⟨this.1, this.2.1, fun y hy => ?_⟩
    by_cases hj : i + 1 < E.length
    · rw [List.getElem?_append_left hj] at hy
      exact this.2.2 y hy
    · rw [List.getElem?_append_right (by omega), show i + 1 - E.length = 0 by omega] at hy
      simp at hy
      subst hy
      have : E.getLast? = some x := by rw [List.getLast?_eq_getElem?, show E.length - 1 = i by omega]; exact hx
      rw [hl] at this
      cases this
      exact hh
  · rw [List.getElem?_append_right (by omega)] at hx
    have h0 : i - E.length = 0 := by
      rcases Nat.eq_zero_or_pos (i - E.length) with h' | h'
      · exact h'
      · rw [List.getElem?_eq_none (by simp; omega)] at hx; cases hx
    rw [h0] at hx
    simp at hx
    subst hx
    refine ⟨ha, hn, fun y hy => ?_⟩
    rw [List.getElem?_append_right (by omega), List.getElem?_eq_none (by simp; omega)] at hy
    cases hy
def slLen : Value → Nat
  | .slice _ n _ => n
  | _ => 0
/-- What a term's slice is: nothing, or its first Arg lies there. -/
theorem TAt.head {w : World} {b o : Nat} {t : Tm} (h : TAt w b o t) : (t.args = [] ∧ ∃ so, t.sv = .slice so 0 t.cap) ∨ ∃ a l g q, t.args = a :: l ∧ t.sv = .slice (some ⟨g, q, none⟩) (l.length + 1) t.cap ∧ TAt w g q a ∧ a.size < t.size ∧ l.length + 1 ≤ t.cap := by
  cases ha : t.args with
  | nil =>
    refine .inl ⟨rfl, ?_⟩
    unfold Tm.sv
    rw [ha]
    cases t.sl with
    | none => exact ⟨_, rfl⟩
    | some p => exact ⟨_, rfl⟩
  | cons a l =>
    obtain ⟨g, q, hs, hall⟩ := h.lies.at (by rw [ha]; simp)
    have hc := h.lies.cap
    refine .inr ⟨a, l, g, q, rfl, ?_, ?_, Tm.size_arg (by rw [ha]; simp), by rw [ha] at hc; simpa using hc.1⟩
    · unfold Tm.sv
      rw [ha, hs]
      rfl
    · simpa using hall 0 a (by rw [ha]; rfl)
theorem TAt.c0 {w : World} {b o : Nat} {t : Tm} (h : TAt w b o t) : w.cell? ⟨b, o, none⟩ = some (.int .i64 t.f.op) := by
  have := h.row.2 0 _ rfl
  simpa using this
theorem TAt.c18 {w : World} {b o : Nat} {t : Tm} (h : TAt w b o t) : w.cell? ⟨b, o + 18, none⟩ = some t.sv := h.row.2 18 _ rfl
set_option maxRecDepth 100000 in
set_option maxHeartbeats 2000000 in
theorem opsOf_any (t : Tm) (b o : Nat) (w : World) (hA : TAt w b o t) (hT : PT w) : Calls Tryz.prog 101 #[.pointer (some ⟨b, o, none⟩), .int .i64 (lnF t.f.op : Int)] w fun e w' =>
    ∃ (E : List TP) (so : Option Addr) (sc : Nat), e = .returned (.slice so E.length sc) ∧ w'.ownsRow w.heap.size 41 1 (.slice so E.length sc) E.length (E.map prV) ∧ Fr noB w w' ∧ GoodE w (lnF t.f.op) E ∧ E[0]? = some (t, b, o) ∧ EndE (lnF t.f.op) E ∧ E.length ≤ 65 := by
  obtain ⟨i0, hi, hz0, hz1, hz2⟩ := info_parts pinfo
  obtain ⟨LN, hLN⟩ : ∃ LN, lnF t.f.op = LN := ⟨_, rfl⟩
  have H0 : Hid (GoodE w LN [(t, b, o)]) := by
    intro i e he
    cases i with
    | zero =>
      simp at he
      subst he
      exact ⟨hA, hLN, fun e' h' => by simp at h'⟩
    | succ i => simp at he
  have HT : Hid (PT w) := hT
  rw [hLN]
  clear hT hLN hA
  go_enter Tryz.func101, Tryz.ntmps101
  go_wp2_with fail
  go_loopw [0, 5] (fun pv rv wr => ∃ (E : List TP) (x : Tm) (bx ox : Nat) (so : Option Addr) (sc : Nat), pv = .pointer (some ⟨bx, ox, none⟩) ∧ rv = .slice so E.length sc ∧ Hid (E.getLast? = some (x, bx, ox)) ∧ Hid (wr.ownsRow w.heap.size 41 1 (.slice so E.length sc) E.length (E.map prV)) ∧ Hid (Fr noB w wr) ∧ Hid (GoodE w LN E ∧ E[0]? = some (t, b, o)) ∧ E.length ≤ 65 ∧ E.length ≤ sc) (fun _ rv _ => 66 - slLen rv)
  case atStart => exact ⟨[(t, b, o)], t, b, o, _, _, rfl, rfl, rfl, World.ownsRow_lit w #[prV (t, b, o)] 1 (Nat.le_refl _) (by unfold maxLen; omega) rfl, (Fr.refl noB w).alloc _, ⟨H0.out, rfl⟩, by simp, Nat.le_refl _⟩
  case round =>
    obtain ⟨E, x, bx, ox, so, sc, rfl, rfl, HL, HO, HF, HG, hE, hsc⟩ := hrel
    have hA0 : TAt w bx ox x := by
      have e := HL.out
      rw [List.getLast?_eq_getElem?] at e
      exact (HG.out.1 _ _ e).1
    have hA := hA0.fr HF.out
    have c18 := hA.c18
    have HEn : Hid (E.length ≤ 65 ∧ 1 ≤ E.length) := ⟨hE, by
      have e := HL.out
      cases E with
      | nil => simp at e
      | cons _ _ => simp⟩
    obtain ⟨N, hN⟩ : ∃ N, E.length = N := ⟨_, rfl⟩
    have HON : Hid (wr.ownsRow w.heap.size 41 1 (.slice so N sc) N (E.map prV)) := by
      show wr.ownsRow w.heap.size 41 1 (.slice so N sc) N (E.map prV)
      rw [← hN]
      exact HO.out
    rcases hA.head with ⟨ha, so', hs⟩ | ⟨a, l, g, q, ha, hs, hAa, hsz, hcl⟩
    · rw [hs] at c18
      have HX : Hid (EndE LN E) := .inr fun e y h1 h2 => by
        rw [HL.out] at h1
        cases h1
        simp only at h2
        rw [ha] at h2
        simp at h2
      rw [hN] at hE hsc ⊢
      clear hA0 hA hs ha
      generalize x.cap = cc at *
      go_wp2_with fail
      go_ret
      exact ⟨E, so, sc, by rw [hN]; rfl, HO.out, HF.out, HG.out.1, HG.out.2, HX.out, HEn.out.1⟩
    · rw [hs] at c18
      have d0 := hAa.c0
      have HLn : Hid (Calls Tryz.prog 64 #[.int .i64 a.f.op] wr fun e w' => e = .returned (.int .i64 (lnF a.f.op : Int)) ∧ Fr noB wr w') := lineOf_any a.f.op wr (HT.out.fr HF.out).o
      have HA2 : Hid (x.args.head? = some a) := by
        show x.args.head? = some a
        rw [ha]
        rfl
      have HAa : Hid (TAt w g q a) := by
        rcases hA0.head with ⟨ha', _⟩ | ⟨a', l', g', q', ha', hs', hAa', _⟩
        · rw [ha] at ha'; cases ha'
        · rw [ha] at ha'
          cases ha'
          rw [hs] at hs'
          cases hs'
          exact hAa'
      have hcap := hA.lies.cap
      have hc2 : x.cap ≤ 7407762545966 := hcap.2
      have hl2 : l.length + 1 ≤ x.cap := hcl
      obtain ⟨M, hM⟩ : ∃ M, lnF a.f.op = M := ⟨_, rfl⟩
      have HM : Hid (lnF a.f.op = M) := hM
      rw [hM] at HLn
      obtain ⟨n, hn⟩ : ∃ n, l.length = n := ⟨_, rfl⟩
      rw [hn] at c18 hl2 hcl
      have hpos : (0 : Int) < (n : Int) + 1 := by omega
      rw [hN] at hE hsc ⊢
      have HXn : Hid (¬ M = LN → EndE LN E) := fun hML => .inr fun e y h1 h2 => by
        rw [HL.out] at h1
        cases h1
        simp only at h2
        rw [HA2.out] at h2
        cases h2
        rw [HM.out]
        exact hML
      have HXs : Hid (M = LN → GoodE w LN (E ++ [(a, g, q)])) := fun e => good_snoc HG.out.1 HL.out HAa.out (HM.out.trans e) HA2.out
      clear hA0 hA hs ha hsz hAa hcap hM hn
      generalize x.cap = cc at *
      generalize a.f.op = aop at *
      by_cases hML : M = LN
      · by_cases h64 : N ≤ 64
        · have HX : Hid _ := HXs.out hML
          subst hML
          have h64i : (N : Int) ≤ 64 := by omega
          clear HXs HXn
          go_wp2_with (first
            | (go_at_call 64; refine HLn.out.mono ?_; rintro e w1 ⟨rfl, hF1⟩; have e18 := (hF1.cell (a := ⟨bx, ox + 18, none⟩) (World.block_lt_of_cell? _ _ c18) id).trans c18)
            | (at_builtin; refine wpList_append_own _ rfl (.tmp 36) (.tmp 38) 117 rfl w.heap.size 41 i0 (.pointer none) 1 8 Tryz.underlying117 hi hz0 hz1 hz2 rfl (by decide) _ N (E.map prV) rfl ((qown_keep HON.out hF1).alloc _) ⟨w1.heap.size, 0, none⟩ 1 1 [.pointer (some ⟨g, q, none⟩)] rfl rfl (qone_src w1 _ _) (by intro u hu; simp at hu; subst hu; rfl) (by unfold maxLen; omega) (by omega) (by have h1 := HF.out.size; have h2 := hF1.size; simp; omega) ?_; intro v2 w2 hown hg _; have HFw : Hid (Fr noB w w2) := ((HF.out.trans hF1).alloc (.cells #[.pointer (some ⟨g, q, none⟩)] 41 (0, 0))).grown hg (fun k hk => Or.inr ((((qown_keep HON.out hF1).alloc (.cells #[.pointer (some ⟨g, q, none⟩)] 41 (0, 0)))).lt k hk).1); obtain ⟨so2, sc2, rfl⟩ := qown_form hown; have HO2 : Hid _ := hown; clear hown hg))
          go_roundw
          case rel =>
            have hm : (E ++ [(a, g, q)]).map prV = E.map prV ++ [.pointer (some ⟨g, q, none⟩)] := by simp [prV]
            have hz : (E ++ [(a, g, q)]).length = N + 1 := by simp [hN]
            refine ⟨E ++ [(a, g, q)], a, g, q, so2, sc2, rfl, by rw [hz], (show (E ++ [(a, g, q)]).getLast? = some (a, g, q) by simp), ?_, HFw, ⟨HX.out, ?_⟩, by omega, ?_⟩
            · show World.ownsRow _ _ _ _ _ _ _
              rw [hz, hm]
              exact HO2.out
            · rw [List.getElem?_append_left (show 0 < E.length from HEn.out.2)]
              exact HG.out.2
            · rw [hz]
              rcases HO2.out.2 with ⟨_, h0⟩ | ⟨_, _, _, hv, _, _, hnc, _⟩
              · omega
              · cases hv
                exact hnc
          case measure => simp [slLen]; omega
        · have HX : Hid (EndE LN E) := .inl (by omega)
          have hN5 : N = 65 := by omega
          subst hML
          subst hN5
          clear HXs HXn
          go_wp2_with (go_at_call 64; refine HLn.out.mono ?_; rintro e w1 ⟨rfl, hF1⟩)
          go_ret
          exact ⟨E, so, sc, by rw [hN]; rfl, qown_keep HO.out hF1, HF.out.trans hF1, HG.out.1, HG.out.2, HX.out, HEn.out.1⟩
      · have HX : Hid (EndE LN E) := HXn.out hML
        have hMi : ((M : Int) == (LN : Int)) = false := by rw [beq_eq_false_iff_ne]; omega
        clear HXs HXn
        go_wp2_with (go_at_call 64; refine HLn.out.mono ?_; rintro e w1 ⟨rfl, hF1⟩)
        go_ret
        exact ⟨E, so, sc, by rw [hN]; rfl, qown_keep HO.out hF1, HF.out.trans hF1, HG.out.1, HG.out.2, HX.out, HEn.out.1⟩
#print axioms opsOf_any
end Go.Proofs.YtdmjbhbiehjelaaGreatDoor
/- A row of operators stands. -/
namespace Go.Proofs.YtdmjbhbiehjelaaGreatDoor
open Go.RowKit Go.Shelf

/-- What stands answers of a term. -/
def StOk (a : Tm) : Prop := ∀ (b o line d : Nat) (W : World), TAt W b o a → PT W → 1 ≤ line → line ≤ 10 → d ≤ 200 →
  Calls Tryz.prog 37 #[.pointer (some ⟨b, o, none⟩), .int .i64 (line : Int), .int .i64 (d : Int)] W fun e w' => e = .returned (.bool (fitsF a (d + (if lnF a.f.op < line then 1 else 0)))) ∧ Fr noB W w'
theorem fits_op (t : Tm) (d : Nat) (h1 : 1 ≤ lnF t.f.op) (h2 : lnF t.f.op ≤ 9) (h7 : ¬ lnF t.f.op = 7) : fitsF t d = (decide (d ≤ 64) && (bareF t.f && (decide (d + chainF t ≤ 64) && operF t.args (lnF t.f.op) (chainF t) d))) := by
  cases t with
  | mk f sl cap args =>
    have h1 : 1 ≤ lnF f.op := h1
    have h2 : lnF f.op ≤ 9 := h2
    have h7 : ¬ lnF f.op = 7 := h7
    have n6 : ¬ f.op = 6 := fun e => by rw [e] at h2; exact absurd h2 (by decide)
    have n7 : ¬ f.op = 7 := fun e => by rw [e] at h2; exact absurd h2 (by decide)
    have n8 : ¬ (f.op = 8 ∨ lnF f.op = 0) := fun e => by
      rcases e with e | e
      · rw [e] at h2; exact absurd h2 (by decide)
      · omega
    rw [fitsF, if_neg n6, if_neg n7, if_neg n8, if_neg (by omega), decide_eq_false h7, Bool.false_or]
    rfl
/-- A row's operator with two operands. -/
theorem fits_two (t a b : Tm) (d : Nat) (h1 : 1 ≤ lnF t.f.op) (h2 : lnF t.f.op ≤ 9) (h7 : ¬ lnF t.f.op = 7) (h6 : ¬ lnF t.f.op = 6) (ha : t.args = [a, b]) (hd : d + chainF t ≤ 64) (hb : bareF t.f = true) :
    fitsF t d = (fitsF a (d + (if lnF a.f.op < lnF t.f.op then 1 else 0)) && fitsF b (d + chainF t + (if lnF b.f.op < lnF t.f.op + 1 then 1 else 0))) := by
  rw [fits_op t d h1 h2 h7, ha, hb, decide_eq_true (show d ≤ 64 by omega), decide_eq_true hd, operF, secF, if_neg h7, decide_eq_true (show ¬ (lnF t.f.op = 6 ∨ lnF t.f.op = 7) by omega)]
  simp only [Bool.true_and, List.isEmpty_nil, Nat.add_zero, Nat.lt_succ_iff]
theorem fits_one (t a : Tm) (d : Nat) (h6 : lnF t.f.op = 6) (ha : t.args = [a]) (hd : d + chainF t ≤ 64) (hb : bareF t.f = true) :
    fitsF t d = fitsF a (d + (if lnF a.f.op < lnF t.f.op then 1 else 0)) := by
  rw [fits_op t d (by omega) (by omega) (by omega), ha, hb, decide_eq_true (show d ≤ 64 by omega), decide_eq_true hd, operF, secF, if_neg (by omega), decide_eq_true (show lnF t.f.op = 6 ∨ lnF t.f.op = 7 from .inl h6)]
  simp only [Bool.true_and, Bool.and_true, Nat.add_zero]
theorem fits_bad (t : Tm) (d : Nat) (h1 : 1 ≤ lnF t.f.op) (h2 : lnF t.f.op ≤ 9) (h7 : ¬ lnF t.f.op = 7) (h : ¬ t.args.length = if lnF t.f.op = 6 then 1 else 2) : fitsF t d = false := by
  rw [fits_op t d h1 h2 h7]
  have e : operF t.args (lnF t.f.op) (chainF t) d = false := by
    cases ha : t.args with
    | nil => rw [operF]
    | cons a l =>
      rw [ha] at h
      rw [operF]
      cases l with
      | nil =>
        rw [secF]
        by_cases h6 : lnF t.f.op = 6
        · rw [if_pos h6] at h
          simp at h
        · rw [decide_eq_false (by omega), Bool.and_false]
      | cons b l =>
        rw [secF]
        by_cases h6 : lnF t.f.op = 6
        · rw [decide_eq_false (by omega)]
          simp
        · rw [if_neg h6] at h
          cases l with
          | nil => simp at h
          | cons c l => simp
  rw [e]
  simp
theorem fits_nb (t : Tm) (d : Nat) (h1 : 1 ≤ lnF t.f.op) (h2 : lnF t.f.op ≤ 9) (h7 : ¬ lnF t.f.op = 7) (h : bareF t.f = false) : fitsF t d = false := by
  rw [fits_op t d h1 h2 h7, h]
  simp
theorem fits_deep (t : Tm) (d : Nat) (h1 : 1 ≤ lnF t.f.op) (h2 : lnF t.f.op ≤ 9) (h7 : ¬ lnF t.f.op = 7) (h : ¬ d + chainF t ≤ 64) : fitsF t d = false := by
  rw [fits_op t d h1 h2 h7, decide_eq_false h]
  simp
theorem good_P {w : World} {ln : Nat} {E : List TP} (h : GoodE w ln E) (P : Tm → Prop) (hP : ∀ x a, P x → a ∈ x.args → P a) (t : TP) (h0 : E[0]? = some t) (ht : P t.1) : ∀ (i : Nat) (e : TP), E[i]? = some e → P e.1
  | 0, e, he => by rw [h0] at he; cases he; exact ht
  | i + 1, e, he => by
    have hi : i < E.length := by
      rcases Nat.lt_or_ge (i + 1) E.length with h' | h'
      · omega
      · rw [List.getElem?_eq_none h'] at he; cases he
    have ih := good_P h P hP t h0 ht i E[i] (List.getElem?_eq_getElem hi)
    have hh := (h i E[i] (List.getElem?_eq_getElem hi)).2.2 e he
    exact hP _ _ ih (List.mem_of_mem_head? hh)
/-- The Args of a term lie one behind the other. -/
theorem TAt.list {w : World} {b o : Nat} {t : Tm} (h : TAt w b o t) (hn : t.args ≠ []) : ∃ g q, t.sv = .slice (some ⟨g, q, none⟩) t.args.length t.cap ∧ ∀ i a, t.args[i]? = some a → TAt w g (q + 19 * i) a := by
  obtain ⟨g, q, hs, hall⟩ := h.lies.at hn
  refine ⟨g, q, ?_, hall⟩
  unfold Tm.sv
  rw [hs]
  rfl
theorem TAt.sv_ex {w : World} {b o : Nat} {t : Tm} (_h : TAt w b o t) : ∃ so, t.sv = .slice so t.args.length t.cap := by
  unfold Tm.sv
  cases t.sl with
  | none => exact ⟨_, rfl⟩
  | some p => exact ⟨_, rfl⟩
/-- What the rounds keep of a row. -/
def InvE (t : Tm) (d ln : Nat) (E : List TP) (i : Nat) : Prop :=
  (∀ e, E[i]? = some e → fitsF t d = fitsF e.1 d) ∧ (i = E.length → ∀ e, E.getLast? = some e → ∃ a, e.1.args.head? = some a ∧ fitsF t d = fitsF a (d + (if lnF a.f.op < ln then 1 else 0)))
theorem inv_next {w : World} {t : Tm} {d ln : Nat} {E : List TP} {i : Nat} {e : TP} {a : Tm} (hG : GoodE w ln E) (he : E[i]? = some e) (ha : e.1.args.head? = some a) (hv : fitsF t d = fitsF a (d + (if lnF a.f.op < ln then 1 else 0))) : InvE t d ln E (i + 1) := by
  have hi : i < E.length := by
    rcases Nat.lt_or_ge i E.length with h' | h'
    · exact h'
    · rw [List.getElem?_eq_none h'] at he; cases he
  refine ⟨fun y hy => ?_, fun hl y hy => ?_⟩
  · have hh := (hG i e he).2.2 y hy
    have hl := (hG (i + 1) y hy).2.1
    rw [ha] at hh
    cases hh
    rw [hv, hl, if_neg (Nat.lt_irrefl _), Nat.add_zero]
  · rw [List.getLast?_eq_getElem?, show E.length - 1 = i by omega, he] at hy
    cases hy
    exact ⟨a, ha, hv⟩
set_option maxRecDepth 100000 in
set_option maxHeartbeats 4000000 in
theorem rowS2 (t : Tm) (b o d : Nat) (w : World) (hA : TAt w b o t) (hT : PT w) (h1 : 1 ≤ lnF t.f.op) (h2 : lnF t.f.op ≤ 9) (h7 : ¬ lnF t.f.op = 7) (h6 : ¬ lnF t.f.op = 6) (hd : d ≤ 64) (P : Tm → Prop) (hP : ∀ x a, P x → a ∈ x.args → P a ∧ StOk a) (ht : P t) :
    Calls Tryz.prog 67 #[.pointer (some ⟨b, o, none⟩), .int .i64 (lnF t.f.op : Int), .int .i64 (d : Int)] w fun e w' => e = .returned (.bool (fitsF t d)) ∧ Fr noB w w' := by
  have HO := opsOf_any t b o w hA hT
  have HFB : Hid (∀ x : Tm, lnF x.f.op = lnF t.f.op → ¬ x.args.length = 2 → fitsF x d = false) := fun x e h => fits_bad x d (by omega) (by omega) (by omega) (by rw [e, if_neg h6]; exact h)
  have HFN : Hid (∀ x : Tm, lnF x.f.op = lnF t.f.op → bareF x.f = false → fitsF x d = false) := fun x e h => fits_nb x d (by omega) (by omega) (by omega) h
  have HFD : Hid (¬ d + chainF t ≤ 64 → fitsF t d = false) := fun h => fits_deep t d h1 h2 h7 h
  have HFT : Hid (∀ x a c : Tm, lnF x.f.op = lnF t.f.op → x.args = [a, c] → d + chainF x ≤ 64 → bareF x.f = true → fitsF x d = (fitsF a (d + (if lnF a.f.op < lnF t.f.op then 1 else 0)) && fitsF c (d + chainF x + (if lnF c.f.op < lnF t.f.op + 1 then 1 else 0)))) := fun x a c e ha hk hb => by
    rw [fits_two x a c d (by omega) (by omega) (by omega) (by omega) ha hk hb, e]
  have HIH : Hid (∀ x a, P x → a ∈ x.args → P a ∧ StOk a) := hP
  have HPt : Hid (P t) := ht
  have HT : Hid (PT w) := hT
  obtain ⟨LN, hLN⟩ : ∃ LN, lnF t.f.op = LN := ⟨_, rfl⟩
  obtain ⟨F, hF⟩ : ∃ F, fitsF t d = F := ⟨_, rfl⟩
  rw [hLN] at HO HFB HFN HFT h1 h2 h7 h6 ⊢
  rw [hF] at HFD ⊢
  have HF0 : Hid (fitsF t d = F) := hF
  have h6i : ((LN : Int) == 6) = false := by rw [beq_eq_false_iff_ne]; omega
  clear hA hT hP ht hF hLN
  go_enter Tryz.func67, Tryz.ntmps67
  go_upto_region 2 with (go_at_call 101; refine HO.mono ?_; rintro e w1 ⟨E, so, sc, rfl, hown, hF1, hG, h0, hE, h65⟩)
  have HOw : Hid _ := hown
  have HF1 : Hid _ := hF1
  have HG : Hid _ := hG
  have H0 : Hid _ := h0
  have HE : Hid _ := hE
  obtain ⟨N, hN⟩ : ∃ N, E.length = N := ⟨_, rfl⟩
  have hN1 : 1 ≤ N := by
    rcases Nat.eq_zero_or_pos N with e | e
    · rw [e] at hN
      have := List.eq_nil_of_length_eq_zero hN
      rw [this] at h0
      simp at h0
    · exact e
  rw [hN] at h65 ⊢
  have HNl : Hid (E.length = N) := hN
  clear hown hF1 hG h0 hE hN HO
  by_cases hdn : d + N ≤ 64
  · have hdi : ¬ (64 : Int) < (d : Int) + (N : Int) := by omega
    have HEq : Hid (∀ i e, E[i]? = some e → chainF e.1 = N - i) := fun i e he => by
      have h' := HE.out
      rcases h' with h' | h'
      · rw [HNl.out] at h'
        omega
      · rw [← HNl.out]
        exact good_eq HG.out h' _ i e rfl he
    obtain ⟨g, rfl, hgB, hsc, hcl⟩ := qown_cells HOw.out (by rw [HNl.out]; omega)
    have HCl : Hid _ := hcl
    have hsc2 : N ≤ sc := by rw [HNl.out] at hsc; exact hsc
    clear hcl hsc hgB
    go_wp2_with fail
    go_loopw [24] (fun iv wr => ∃ i : Nat, iv = .int .i64 (i : Int) ∧ i ≤ N ∧ Hid (Fr noB w1 wr) ∧ Hid (InvE t d LN E i)) (fun iv _ => N - (intOf iv).toNat)
    case atStart => exact ⟨0, rfl, by omega, Fr.refl _ _, ⟨fun e he => by rw [H0.out] at he; cases he; rfl, fun h => by rw [HNl.out] at h; omega⟩⟩
    case round =>
      obtain ⟨i, rfl, hi, HFr, HInv⟩ := hrel
      by_cases hlt : i < N
      · obtain ⟨⟨x, bx, ox⟩, he⟩ : ∃ e, E[i]? = some e := ⟨E[i]'(by rw [HNl.out]; exact hlt), List.getElem?_eq_getElem _⟩
        obtain ⟨hAx0, hlx, _⟩ := HG.out i _ he
        have hAx : TAt wr bx ox x := (hAx0.fr HF1.out).fr HFr.out
        have hr : w1.cell? ⟨g, i, none⟩ = some (.pointer (some ⟨bx, ox, none⟩)) := HCl.out i _ (by rw [List.getElem?_map, he]; rfl)
        have hr2 := (HFr.out.cell (a := ⟨g, i, none⟩) (World.block_lt_of_cell? _ _ hr) id).trans hr
        have HV : Hid (F = fitsF x d) := by
          show F = _
          rw [← HF0.out]
          exact HInv.out.1 _ he
        have hck := HEq.out i _ he
        have HCk : Hid (chainF x = N - i) := hck
        have HSz : Hid (P x) := good_P HG.out P (fun x a h1 h2 => (HIH.out x a h1 h2).1) _ H0.out HPt.out i _ he
        have HBa : Hid (Calls Tryz.prog 65 #[.pointer (some ⟨bx, ox, none⟩)] wr fun e w' => e = .returned (.bool (bareF x.f)) ∧ Fr noB wr w') := bareT_any x.f x.sv bx ox wr hAx.row
        have HPT : Hid (PT wr) := (HT.out.fr HF1.out).fr HFr.out
        have hcap := hAx.lies.cap.2
        have c18 := hAx.c18
        have HHe : Hid _ := he
        have HLx : Hid (lnF x.f.op = LN) := hlx
        have HAx : Hid _ := hAx
        clear hAx0 hr hck he hlx
        by_cases hn2 : x.args.length = 2
        · obtain ⟨a, c, hac⟩ : ∃ a c, x.args = [a, c] := by
            match hx : x.args, hn2 with
            | [a, c], _ => exact ⟨a, c, rfl⟩
          obtain ⟨g2, q2, hs, hall⟩ := hAx.list (by rw [hac]; simp)
          have hAc := hall 1 c (by rw [hac]; rfl)
          have HAa : Hid (x.args.head? = some a) := by
            show x.args.head? = some a
            rw [hac]
            rfl
          have HSc : Hid (StOk c) := (HIH.out x c HSz.out (by rw [hac]; simp)).2
          rw [hs, hn2] at c18
          have HAC : Hid (TAt wr g2 (q2 + 19) c) := hAc
          have hcp : 2 ≤ x.cap := by
            have := hAx.lies.cap.1
            omega
          have HFT2 : Hid (bareF x.f = true → fitsF x d = (fitsF a (d + (if lnF a.f.op < LN then 1 else 0)) && fitsF c (d + (N - i) + (if lnF c.f.op < LN + 1 then 1 else 0)))) := fun hb => by
            have e := HFT.out x a c HLx.out hac (by rw [HCk.out]; omega) hb
            rw [HCk.out] at e
            exact e
          clear hs hall hAc hAx hac hn2
          generalize x.cap = cc at *
          cases hb : bareF x.f with
          | false =>
            have HFf : Hid (F = false) := by
              show F = false
              rw [HV.out]
              exact HFN.out x HLx.out hb
            rw [hb] at HBa
            clear hb
            go_wp2_with (go_at_call 65; refine HBa.out.mono ?_; rintro e w2 ⟨rfl, hF2⟩)
            go_ret
            rw [HFf.out]
            exact ⟨rfl, (HF1.out.trans HFr.out).trans hF2⟩
          | true =>
            rw [hb] at HBa
            have HFx : Hid _ := HFT2.out hb
            obtain ⟨SC, hSC⟩ : ∃ SC, fitsF c (d + (N - i) + (if lnF c.f.op < LN + 1 then 1 else 0)) = SC := ⟨_, rfl⟩
            have HST : Hid (∀ W, Fr noB wr W → Calls Tryz.prog 37 #[.pointer (some ⟨g2, q2 + 19, none⟩), .int .i64 ((LN : Int) + 1), .int .i64 ((d : Int) + (N : Int) - (i : Int))] W fun e w' => e = .returned (.bool SC) ∧ Fr noB W w') := fun W hW => by
              have h := HSc.out g2 (q2 + 19) (LN + 1) (d + (N - i)) W (HAC.out.fr hW) (HPT.out.fr hW) (by omega) (by omega) (by omega)
              rw [hSC, show ((LN + 1 : Nat) : Int) = (LN : Int) + 1 by omega, show ((d + (N - i) : Nat) : Int) = (d : Int) + (N : Int) - (i : Int) by omega] at h
              exact h
            have HSC : Hid _ := hSC
            clear hb hSC HFT2
            cases SC with
            | false =>
              have HFf : Hid (F = false) := by
                show F = false
                rw [HV.out, HFx.out, HSC.out, Bool.and_false]
              go_wp2_with (first
                | (go_at_call 65; refine HBa.out.mono ?_; rintro e w2 ⟨rfl, hF2⟩; have e18 := (hF2.cell (a := ⟨bx, ox + 18, none⟩) (World.block_lt_of_cell? _ _ c18) id).trans c18)
                | (go_at_call 37; refine (HST.out _ hF2).mono ?_; rintro e w3 ⟨rfl, hF3⟩))
              go_ret
              rw [HFf.out]
              exact ⟨rfl, ((HF1.out.trans HFr.out).trans hF2).trans hF3⟩
            | true =>
              have HNx : Hid (InvE t d LN E (i + 1)) := inv_next HG.out HHe.out HAa.out (by rw [HF0.out, HV.out, HFx.out, HSC.out, Bool.and_true])
              go_wp2_with (first
                | (go_at_call 65; refine HBa.out.mono ?_; rintro e w2 ⟨rfl, hF2⟩; have e18 := (hF2.cell (a := ⟨bx, ox + 18, none⟩) (World.block_lt_of_cell? _ _ c18) id).trans c18)
                | (go_at_call 37; refine (HST.out _ hF2).mono ?_; rintro e w3 ⟨rfl, hF3⟩))
              go_roundw
              case rel => exact ⟨i + 1, by go_num, by omega, (HFr.out.trans hF2).trans hF3, HNx⟩
              case measure => simp [intOf]; omega
        · have HFf : Hid (F = false) := by
            show F = false
            rw [HV.out]
            exact HFB.out x HLx.out hn2
          obtain ⟨so', hs⟩ := hAx.sv_ex
          rw [hs] at c18
          have hni : (((x.args.length : Nat) : Int) != 2) = true := by
            rw [bne_iff_ne]
            omega
          clear hs hAx
          generalize x.args.length = n at *
          generalize x.cap = cc at *
          go_wp2_with fail
          go_ret
          rw [HFf.out]
          exact ⟨rfl, HF1.out.trans HFr.out⟩
      · obtain rfl : i = N := by omega
        obtain ⟨⟨x, bx, ox⟩, he⟩ : ∃ e, E[i - 1]? = some e := ⟨E[i - 1]'(by rw [HNl.out]; omega), List.getElem?_eq_getElem _⟩
        have hla : E.getLast? = some (x, bx, ox) := by rw [List.getLast?_eq_getElem?, HNl.out]; exact he
        obtain ⟨hAx0, hlx, _⟩ := HG.out (i - 1) _ he
        obtain ⟨a, hha, hva⟩ := HInv.out.2 HNl.out.symm _ hla
        have hna : ¬ lnF a.f.op = LN := by
          rcases HE.out with h' | h'
          · rw [HNl.out] at h'
            omega
          · exact h' _ a hla hha
        have hAx : TAt wr bx ox x := (hAx0.fr HF1.out).fr HFr.out
        have hr : w1.cell? ⟨g, i - 1, none⟩ = some (.pointer (some ⟨bx, ox, none⟩)) := HCl.out (i - 1) _ (by rw [List.getElem?_map, he]; rfl)
        have hr2 := (HFr.out.cell (a := ⟨g, i - 1, none⟩) (World.block_lt_of_cell? _ _ hr) id).trans hr
        have HSz : Hid (P x) := good_P HG.out P (fun x a h1 h2 => (HIH.out x a h1 h2).1) _ H0.out HPt.out (i - 1) _ he
        have c18 := hAx.c18
        have hcap := hAx.lies.cap.2
        obtain ⟨l, hac⟩ : ∃ l, x.args = a :: l := by
          cases hx : x.args with
          | nil => rw [hx] at hha; simp at hha
          | cons y l => rw [hx] at hha; simp at hha; exact ⟨l, by rw [hha]⟩
        obtain ⟨g2, q2, hs, hall⟩ := hAx.list (by rw [hac]; simp)
        have hAa : TAt wr g2 q2 a := by simpa using hall 0 a (by rw [hac]; rfl)
        have hcp := hAx.lies.cap.1
        have hlen : x.args.length = l.length + 1 := by rw [hac]; rfl
        rw [hs, hlen] at c18
        rw [hlen] at hcp
        have HST : Hid (Calls Tryz.prog 37 #[.pointer (some ⟨g2, q2, none⟩), .int .i64 ((LN : Int) + 1), .int .i64 (d : Int)] wr fun e w' => e = .returned (.bool F) ∧ Fr noB wr w') := by
          have h := (HIH.out x a HSz.out (by rw [hac]; simp)).2 g2 q2 (LN + 1) d wr hAa ((HT.out.fr HF1.out).fr HFr.out) (by omega) (by omega) (by omega)
          have e : fitsF a (d + (if lnF a.f.op < LN + 1 then 1 else 0)) = F := by
            rw [← HF0.out]
            refine Eq.trans ?_ hva.symm
            congr 2
            by_cases hq : lnF a.f.op < LN
            · rw [if_pos hq, if_pos (show lnF a.f.op < LN + 1 by omega)]
            · rw [if_neg hq, if_neg (show ¬ lnF a.f.op < LN + 1 by omega)]
          rw [e, show ((LN + 1 : Nat) : Int) = (LN : Int) + 1 by omega] at h
          exact h
        obtain ⟨k, rfl⟩ : ∃ k, i = k + 1 := ⟨i - 1, by omega⟩
        have hr3 : wr.cell? ⟨g, k, none⟩ = some (.pointer (some ⟨bx, ox, none⟩)) := hr2
        have hk2 : ((k + 1 : Nat) : Int) - 1 = (k : Int) := by omega
        clear hAx0 hlx hha hva hna hAx hr hr2 hla he hs hall hAa hac hlen
        generalize l.length = n at *
        generalize x.cap = cc at *
        go_wp2_with (go_at_call 37; refine HST.out.mono ?_; rintro e w3 ⟨rfl, hF3⟩)
        go_ret
        exact ⟨rfl, (HF1.out.trans HFr.out).trans hF3⟩
  · have hdi : (64 : Int) < (d : Int) + (N : Int) := by omega
    have HFf : Hid (F = false) := HFD.out (by
      have hge : N - 0 ≤ chainF t := by
        rw [← HNl.out]
        exact good_ge HG.out _ 0 _ rfl H0.out
      omega)
    go_wp2_with fail
    go_ret
    rw [HFf.out]
    exact ⟨rfl, HF1.out⟩
#print axioms rowS2
#print axioms fits_two
#print axioms inv_next
end Go.Proofs.YtdmjbhbiehjelaaGreatDoor
/- stands, by the line of the operation. -/
namespace Go.Proofs.YtdmjbhbiehjelaaGreatDoor
open Go.RowKit Go.Shelf

theorem fits_gt (t : Tm) (d : Nat) (h : ¬ d ≤ 64) : fitsF t d = false := by
  cases t
  rw [fitsF, decide_eq_false h, Bool.false_and]
theorem fits_un (t : Tm) (d : Nat) (h : bareF t.f = false) : fitsF t d = false := by
  cases t with
  | mk f sl cap args =>
    have h : bareF f = false := h
    rw [fitsF, h, Bool.false_and, Bool.and_false]
theorem fits_zero (t : Tm) (d : Nat) (h : lnF t.f.op = 0) : fitsF t d = false := by
  cases t with
  | mk f sl cap args =>
    have h : lnF f.op = 0 := h
    have n6 : ¬ f.op = 6 := fun e => by rw [e] at h; exact absurd h (by decide)
    have n7 : ¬ f.op = 7 := fun e => by rw [e] at h; exact absurd h (by decide)
    rw [fitsF, if_neg n6, if_neg n7, if_pos (Or.inr h), Bool.and_false, Bool.and_false]
theorem fits_leaf (t : Tm) (d : Nat) (h : t.f.op = 1 ∨ t.f.op = 2 ∨ t.f.op = 3 ∨ t.f.op = 4 ∨ t.f.op = 5) (hd : d ≤ 64) (hb : bareF t.f = true) : fitsF t d = (decide (t.args.length = 0) && leafF t.f) := by
  cases t with
  | mk f sl cap args =>
    have h : f.op = 1 ∨ f.op = 2 ∨ f.op = 3 ∨ f.op = 4 ∨ f.op = 5 := h
    have hb : bareF f = true := hb
    have hl : lnF f.op = 10 := by
      rcases h with e | e | e | e | e <;> rw [e] <;> decide
    rw [fitsF, if_neg (by omega), if_neg (by omega), if_neg (by omega), if_pos hl, hb, decide_eq_true hd, Bool.true_and, Bool.true_and]
    show (args.isEmpty && leafF f) = (decide (args.length = 0) && leafF f)
    congr 1
    cases args <;> simp
set_option maxRecDepth 100000 in
set_option maxHeartbeats 4000000 in
theorem st_row (t : Tm) (b o line d : Nat) (w : World) (hA : TAt w b o t) (hT : PT w) (hd : d ≤ 200) (h1 : 1 ≤ lnF t.f.op) (h2 : lnF t.f.op ≤ 9) (h7 : ¬ lnF t.f.op = 7)
    (HC : ∀ (D : Nat) W, D ≤ 64 → bareF t.f = true → Fr noB w W → Calls Tryz.prog 67 #[.pointer (some ⟨b, o, none⟩), .int .i64 (lnF t.f.op : Int), .int .i64 (D : Int)] W fun e w' => e = .returned (.bool (fitsF t D)) ∧ Fr noB W w') :
    Calls Tryz.prog 37 #[.pointer (some ⟨b, o, none⟩), .int .i64 (line : Int), .int .i64 (d : Int)] w fun e w' => e = .returned (.bool (fitsF t (d + (if lnF t.f.op < line then 1 else 0)))) ∧ Fr noB w w' := by
  have c0 := hA.c0
  have HLi := lineOf_any t.f.op w hT.o
  have HBa : Hid (∀ W, Fr noB w W → Calls Tryz.prog 65 #[.pointer (some ⟨b, o, none⟩)] W fun e w' => e = .returned (.bool (bareF t.f)) ∧ Fr noB W w') := fun W hW => bareT_any t.f t.sv b o W (hA.fr hW).row
  have HCC : Hid _ := HC
  have HG : Hid (∀ D, ¬ D ≤ 64 → fitsF t D = false) := fun D h => fits_gt t D h
  have HU : Hid (∀ D, bareF t.f = false → fitsF t D = false) := fun D h => fits_un t D h
  generalize fitsF t = FT at *
  obtain ⟨LN, hLN⟩ : ∃ LN, lnF t.f.op = LN := ⟨_, rfl⟩
  obtain ⟨B, hB⟩ : ∃ B, bareF t.f = B := ⟨_, rfl⟩
  rw [hLN] at HLi h1 h2 h7 HCC ⊢
  rw [hB] at HBa HU HCC
  clear HC hLN hB hA hT
  generalize t.f.op = op at *
  have z0 : ((LN : Int) == 0) = false := by rw [beq_eq_false_iff_ne]; omega
  have z10 : ((LN : Int) == 10) = false := by rw [beq_eq_false_iff_ne]; omega
  have z7 : ((LN : Int) == 7) = false := by rw [beq_eq_false_iff_ne]; omega
  by_cases hlt : LN < line
  · rw [if_pos hlt]
    have hli : ((LN : Int)) < (line : Int) := by omega
    by_cases hD : d + 1 ≤ 64
    · have hDi : ¬ (64 : Int) < (d : Int) + 1 := by omega
      cases B with
      | false =>
        have HFf : Hid _ := HU.out (d + 1) rfl
        go_enter Tryz.func37, Tryz.ntmps37
        go_wp2_with (first
          | (go_at_call 64; refine HLi.mono ?_; rintro e w1 ⟨rfl, hF1⟩)
          | (go_at_call 65; refine (HBa.out _ hF1).mono ?_; rintro e w2 ⟨rfl, hF2⟩))
        go_ret
        rw [HFf.out]
        exact ⟨rfl, hF1.trans hF2⟩
      | true =>
        have HC2 : Hid (∀ W, Fr noB w W → Calls Tryz.prog 67 #[.pointer (some ⟨b, o, none⟩), .int .i64 (LN : Int), .int .i64 ((d : Int) + 1)] W fun e w' => e = .returned (.bool (FT (d + 1))) ∧ Fr noB W w') := fun W hW => by
          have h := HCC.out (d + 1) W hD rfl hW
          rw [show ((d + 1 : Nat) : Int) = (d : Int) + 1 by omega] at h
          exact h
        generalize FT (d + 1) = V at *
        clear HCC HG HU
        go_enter Tryz.func37, Tryz.ntmps37
        go_wp2_with (first
          | (go_at_call 64; refine HLi.mono ?_; rintro e w1 ⟨rfl, hF1⟩)
          | (go_at_call 65; refine (HBa.out _ hF1).mono ?_; rintro e w2 ⟨rfl, hF2⟩)
          | (go_at_call 67; refine (HC2.out _ (hF1.trans hF2)).mono ?_; rintro e w3 ⟨rfl, hF3⟩))
        go_ret
        exact ⟨rfl, (hF1.trans hF2).trans hF3⟩
    · have hDi : (64 : Int) < (d : Int) + 1 := by omega
      have HFf : Hid _ := HG.out (d + 1) hD
      go_enter Tryz.func37, Tryz.ntmps37
      go_wp2_with (first
        | (go_at_call 64; refine HLi.mono ?_; rintro e w1 ⟨rfl, hF1⟩))
      go_ret
      rw [HFf.out]
      exact ⟨rfl, hF1⟩
  · rw [if_neg hlt]
    have hli : ¬ ((LN : Int)) < (line : Int) := by omega
    rw [Nat.add_zero]
    by_cases hD : d ≤ 64
    · have hDi : ¬ (64 : Int) < (d : Int) := by omega
      cases B with
      | false =>
        have HFf : Hid _ := HU.out (d) rfl
        go_enter Tryz.func37, Tryz.ntmps37
        go_wp2_with (first
          | (go_at_call 64; refine HLi.mono ?_; rintro e w1 ⟨rfl, hF1⟩)
          | (go_at_call 65; refine (HBa.out _ hF1).mono ?_; rintro e w2 ⟨rfl, hF2⟩))
        go_ret
        rw [HFf.out]
        exact ⟨rfl, hF1.trans hF2⟩
      | true =>
        have HC2 : Hid (∀ W, Fr noB w W → Calls Tryz.prog 67 #[.pointer (some ⟨b, o, none⟩), .int .i64 (LN : Int), .int .i64 ((d : Int))] W fun e w' => e = .returned (.bool (FT (d))) ∧ Fr noB W w') := fun W hW => by
          have h := HCC.out (d) W hD rfl hW
          skip
          exact h
        generalize FT (d) = V at *
        clear HCC HG HU
        go_enter Tryz.func37, Tryz.ntmps37
        go_wp2_with (first
          | (go_at_call 64; refine HLi.mono ?_; rintro e w1 ⟨rfl, hF1⟩)
          | (go_at_call 65; refine (HBa.out _ hF1).mono ?_; rintro e w2 ⟨rfl, hF2⟩)
          | (go_at_call 67; refine (HC2.out _ (hF1.trans hF2)).mono ?_; rintro e w3 ⟨rfl, hF3⟩))
        go_ret
        exact ⟨rfl, (hF1.trans hF2).trans hF3⟩
    · have hDi : (64 : Int) < (d : Int) := by omega
      have HFf : Hid _ := HG.out (d) hD
      go_enter Tryz.func37, Tryz.ntmps37
      go_wp2_with (first
        | (go_at_call 64; refine HLi.mono ?_; rintro e w1 ⟨rfl, hF1⟩))
      go_ret
      rw [HFf.out]
      exact ⟨rfl, hF1⟩
set_option maxRecDepth 100000 in
set_option maxHeartbeats 4000000 in
theorem st_prime (t : Tm) (b o line d : Nat) (w : World) (hA : TAt w b o t) (hT : PT w) (hd : d ≤ 200) (h1 : lnF t.f.op = 10)
    (HC : ∀ (D : Nat) W, D ≤ 64 → bareF t.f = true → Fr noB w W → Calls Tryz.prog 66 #[.pointer (some ⟨b, o, none⟩), .int .i64 (D : Int)] W fun e w' => e = .returned (.bool (fitsF t D)) ∧ Fr noB W w') :
    Calls Tryz.prog 37 #[.pointer (some ⟨b, o, none⟩), .int .i64 (line : Int), .int .i64 (d : Int)] w fun e w' => e = .returned (.bool (fitsF t (d + (if lnF t.f.op < line then 1 else 0)))) ∧ Fr noB w w' := by
  have c0 := hA.c0
  have HLi := lineOf_any t.f.op w hT.o
  have HBa : Hid (∀ W, Fr noB w W → Calls Tryz.prog 65 #[.pointer (some ⟨b, o, none⟩)] W fun e w' => e = .returned (.bool (bareF t.f)) ∧ Fr noB W w') := fun W hW => bareT_any t.f t.sv b o W (hA.fr hW).row
  have HCC : Hid _ := HC
  have HG : Hid (∀ D, ¬ D ≤ 64 → fitsF t D = false) := fun D h => fits_gt t D h
  have HU : Hid (∀ D, bareF t.f = false → fitsF t D = false) := fun D h => fits_un t D h
  generalize fitsF t = FT at *
  obtain ⟨LN, hLN⟩ : ∃ LN, lnF t.f.op = LN := ⟨_, rfl⟩
  obtain ⟨B, hB⟩ : ∃ B, bareF t.f = B := ⟨_, rfl⟩
  rw [hLN] at HLi h1  ⊢
  rw [hB] at HBa HU HCC
  clear HC hLN hB hA hT
  generalize t.f.op = op at *
  subst h1
  by_cases hlt : 10 < line
  · rw [if_pos hlt]
    have hli : ((10 : Int)) < (line : Int) := by omega
    by_cases hD : d + 1 ≤ 64
    · have hDi : ¬ (64 : Int) < (d : Int) + 1 := by omega
      cases B with
      | false =>
        have HFf : Hid _ := HU.out (d + 1) rfl
        go_enter Tryz.func37, Tryz.ntmps37
        go_wp2_with (first
          | (go_at_call 64; refine HLi.mono ?_; rintro e w1 ⟨rfl, hF1⟩)
          | (go_at_call 65; refine (HBa.out _ hF1).mono ?_; rintro e w2 ⟨rfl, hF2⟩))
        go_ret
        rw [HFf.out]
        exact ⟨rfl, hF1.trans hF2⟩
      | true =>
        have HC2 : Hid (∀ W, Fr noB w W → Calls Tryz.prog 66 #[.pointer (some ⟨b, o, none⟩), .int .i64 ((d : Int) + 1)] W fun e w' => e = .returned (.bool (FT (d + 1))) ∧ Fr noB W w') := fun W hW => by
          have h := HCC.out (d + 1) W hD rfl hW
          rw [show ((d + 1 : Nat) : Int) = (d : Int) + 1 by omega] at h
          exact h
        generalize FT (d + 1) = V at *
        clear HCC HG HU
        go_enter Tryz.func37, Tryz.ntmps37
        go_wp2_with (first
          | (go_at_call 64; refine HLi.mono ?_; rintro e w1 ⟨rfl, hF1⟩)
          | (go_at_call 65; refine (HBa.out _ hF1).mono ?_; rintro e w2 ⟨rfl, hF2⟩)
          | (go_at_call 66; refine (HC2.out _ (hF1.trans hF2)).mono ?_; rintro e w3 ⟨rfl, hF3⟩))
        go_ret
        exact ⟨rfl, (hF1.trans hF2).trans hF3⟩
    · have hDi : (64 : Int) < (d : Int) + 1 := by omega
      have HFf : Hid _ := HG.out (d + 1) hD
      go_enter Tryz.func37, Tryz.ntmps37
      go_wp2_with (first
        | (go_at_call 64; refine HLi.mono ?_; rintro e w1 ⟨rfl, hF1⟩))
      go_ret
      rw [HFf.out]
      exact ⟨rfl, hF1⟩
  · rw [if_neg hlt]
    have hli : ¬ ((10 : Int)) < (line : Int) := by omega
    rw [Nat.add_zero]
    by_cases hD : d ≤ 64
    · have hDi : ¬ (64 : Int) < (d : Int) := by omega
      cases B with
      | false =>
        have HFf : Hid _ := HU.out (d) rfl
        go_enter Tryz.func37, Tryz.ntmps37
        go_wp2_with (first
          | (go_at_call 64; refine HLi.mono ?_; rintro e w1 ⟨rfl, hF1⟩)
          | (go_at_call 65; refine (HBa.out _ hF1).mono ?_; rintro e w2 ⟨rfl, hF2⟩))
        go_ret
        rw [HFf.out]
        exact ⟨rfl, hF1.trans hF2⟩
      | true =>
        have HC2 : Hid (∀ W, Fr noB w W → Calls Tryz.prog 66 #[.pointer (some ⟨b, o, none⟩), .int .i64 ((d : Int))] W fun e w' => e = .returned (.bool (FT (d))) ∧ Fr noB W w') := fun W hW => by
          have h := HCC.out (d) W hD rfl hW
          skip
          exact h
        generalize FT (d) = V at *
        clear HCC HG HU
        go_enter Tryz.func37, Tryz.ntmps37
        go_wp2_with (first
          | (go_at_call 64; refine HLi.mono ?_; rintro e w1 ⟨rfl, hF1⟩)
          | (go_at_call 65; refine (HBa.out _ hF1).mono ?_; rintro e w2 ⟨rfl, hF2⟩)
          | (go_at_call 66; refine (HC2.out _ (hF1.trans hF2)).mono ?_; rintro e w3 ⟨rfl, hF3⟩))
        go_ret
        exact ⟨rfl, (hF1.trans hF2).trans hF3⟩
    · have hDi : (64 : Int) < (d : Int) := by omega
      have HFf : Hid _ := HG.out (d) hD
      go_enter Tryz.func37, Tryz.ntmps37
      go_wp2_with (first
        | (go_at_call 64; refine HLi.mono ?_; rintro e w1 ⟨rfl, hF1⟩))
      go_ret
      rw [HFf.out]
      exact ⟨rfl, hF1⟩
#print axioms st_row
#print axioms st_prime
end Go.Proofs.YtdmjbhbiehjelaaGreatDoor
