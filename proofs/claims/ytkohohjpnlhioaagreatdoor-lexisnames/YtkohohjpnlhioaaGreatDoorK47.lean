/- A token's text: the program's. -/
import Derived.Test.YtkohohjpnlhioaaGreatDoorK03
import Derived.Test.YtkohohjpnlhioaaGreatDoorLFx
import Derived.Test.YtkohohjpnlhioaaGreatDoorLNm
import Derived.Test.YtkohohjpnlhioaaGreatDoorK41
import Derived.Test.YtkohohjpnlhioaaGreatDoorLQu
import Derived.Test.YtkohohjpnlhioaaGreatDoorK46
import Derived.Deep.Cut
namespace Go.Proofs.YtkohohjpnlhioaaGreatDoor
open Go.RowKit Go.Shelf

/-- What Text answers: the text, or ErrArg. -/
def tpv (c : Bool) (T : ByteArray) : Value := if c = true then .tuple #[.string T, .int .i64 0] else .tuple #[.string ⟨#[]⟩, .int .i64 1]
theorem emp0 (T : ByteArray) : T.toList.isEmpty = decide (T.size = 0) := by
  by_cases h : T.size = 0
  · rw [emp_yes T h, decide_eq_true h]
  · rw [emp_no T (by omega), decide_eq_false h]
/-- A reference between brackets, or nothing. -/
def brk (r1 r2 : ByteArray) (r3 r4 : Bool) (r5 r6 : Int) (r7 r8 : Bool) (r9 r10 : Int) (r11 r12 : Bool) : ByteArray := if chkF r1 r2 r3 r4 r5 r6 r9 r10 r11 r12 = 0 then (⟨#[91]⟩ : ByteArray) ++ txtB r1 r2 r3 r4 r5 r6 r7 r8 r9 r10 r11 r12 ++ ⟨#[93]⟩ else ⟨#[]⟩
set_option maxRecDepth 100000 in
set_option maxHeartbeats 2000000 in
theorem bracket_tx (r1 r2 : ByteArray) (r3 r4 : Bool) (r5 r6 : Int) (r7 r8 : Bool) (r9 r10 : Int) (r11 r12 : Bool) (w : World) (hU : UTab_r w) : Calls Tryz.prog 33 #[(.agg #[.string r1, .string r2, .bool r3, .bool r4, .int .i64 r5, .int .i64 r6, .bool r7, .bool r8, .int .i64 r9, .int .i64 r10, .bool r11, .bool r12])] w fun e w' => e = .returned (.string (brk r1 r2 r3 r4 r5 r6 r7 r8 r9 r10 r11 r12)) ∧ Fr noB w w' := by
  have H1 : Hid (∀ W, Fr noB w W → Calls Tryz.prog 62 #[(.agg #[.string r1, .string r2, .bool r3, .bool r4, .int .i64 r5, .int .i64 r6, .bool r7, .bool r8, .int .i64 r9, .int .i64 r10, .bool r11, .bool r12])] W fun e w' => e = .returned (.tuple #[.string (txtB r1 r2 r3 r4 r5 r6 r7 r8 r9 r10 r11 r12), .int .i64 (chkF r1 r2 r3 r4 r5 r6 r9 r10 r11 r12)]) ∧ Fr noB W w') := fun W hW => reftext_any r1 r2 r3 r4 r5 r6 r7 r8 r9 r10 r11 r12 W (hU.fr hW)
  have hz := txtB_size r1 r2 r3 r4 r5 r6 r7 r8 r9 r10 r11 r12
  obtain ⟨V, hV⟩ : ∃ V, brk r1 r2 r3 r4 r5 r6 r7 r8 r9 r10 r11 r12 = V := ⟨_, rfl⟩
  have HV1 : Hid (chkF r1 r2 r3 r4 r5 r6 r9 r10 r11 r12 = 0 → V = (⟨#[91]⟩ : ByteArray) ++ txtB r1 r2 r3 r4 r5 r6 r7 r8 r9 r10 r11 r12 ++ ⟨#[93]⟩) := fun e => by rw [← hV]; unfold brk; rw [if_pos e]
  have HV2 : Hid (¬ chkF r1 r2 r3 r4 r5 r6 r9 r10 r11 r12 = 0 → V = ⟨#[]⟩) := fun e => by rw [← hV]; unfold brk; rw [if_neg e]
  rw [hV]
  clear hV
  generalize txtB r1 r2 r3 r4 r5 r6 r7 r8 r9 r10 r11 r12 = T at *
  generalize chkF r1 r2 r3 r4 r5 r6 r9 r10 r11 r12 = E at *
  have z1 : (⟨#[91]⟩ : ByteArray).size = 1 := rfl
  have z2 : (⟨#[93]⟩ : ByteArray).size = 1 := rfl
  clear hU
  go_enter Tryz.func33, Tryz.ntmps33
  go_upto_region 1 with fail
  obtain ⟨W0, hW0⟩ : ∃ W0, w.alloc (.cells #[.string r1, .string r2, .bool r3, .bool r4, .int .i64 r5, .int .i64 r6, .bool r7, .bool r8, .int .i64 r9, .int .i64 r10, .bool r11, .bool r12] 26 (0, 0)) = W0 := ⟨_, rfl⟩
  have hA : W0.heap[w.heap.size]? = some (.cells #[.string r1, .string r2, .bool r3, .bool r4, .int .i64 r5, .int .i64 r6, .bool r7, .bool r8, .int .i64 r9, .int .i64 r10, .bool r11, .bool r12] 26 (0, 0)) := by rw [← hW0]; exact heap_alloc_new w _
  have HF : Hid (Fr noB w W0) := by rw [← hW0]; exact (Fr.refl noB w).alloc _
  rw [hW0]
  clear hW0
  have HA : Hid _ := hA
  generalize w.heap.size = H at *
  clear hA
  by_cases hE : E = 0
  · subst hE
    have HV3 : Hid _ := HV1.out rfl
    clear HV1 HV2
    go_wp2_with (first
      | (refine wpList_load_row rfl 26 (.tmp 1) rfl H rfl 26 _ (0, 0) _ HA.out Tryz.underlying26 rfl info_rf ?_)
      | (go_at_call 62; refine (H1.out _ HF.out).mono ?_; rintro e w1 ⟨rfl, hF1⟩))
    go_ret
    rw [HV3.out]
    exact ⟨rfl, HF.out.trans hF1⟩
  · go_wp2_with (first
      | (refine wpList_load_row rfl 26 (.tmp 1) rfl H rfl 26 _ (0, 0) _ HA.out Tryz.underlying26 rfl info_rf ?_)
      | (go_at_call 62; refine (H1.out _ HF.out).mono ?_; rintro e w1 ⟨rfl, hF1⟩))
    go_ret
    rw [HV2.out hE]
    exact ⟨rfl, HF.out.trans hF1⟩
set_option maxRecDepth 100000 in
set_option maxHeartbeats 2000000 in
theorem wr1n (x : Nat) (t : ByteArray) (r1 r2 : ByteArray) (r3 r4 : Bool) (r5 r6 : Int) (r7 r8 : Bool) (r9 r10 : Int) (r11 r12 : Bool) (er pl : Int) (w : World) (hx : x < 9223372036854775808) (hN : NTab w) : Calls Tryz.prog 16 #[(.agg #[.int .i64 1, .float .f64 x, .string t, .string r1, .string r2, .bool r3, .bool r4, .int .i64 r5, .int .i64 r6, .bool r7, .bool r8, .int .i64 r9, .int .i64 r10, .bool r11, .bool r12, .int .i64 er, .int .i64 pl])] w fun e w' => e = .returned (.string (baL (ttL x))) ∧ Fr noB w w' := by
  have HS := signbit_lx x (by omega)
  rw [decide_eq_false (show ¬ 9223372036854775808 ≤ x by omega)] at HS
  have HX : Hid (∀ W, Fr noB w W → Calls Tryz.prog 32 #[.float .f64 x] W fun e w' => e = .returned (.tuple #[.string (baL (ttL x)), .int .i64 (dgN x)]) ∧ Fr noB W w') := fun W hW => ptext_any x W (by omega) (hN.fr hW)
  generalize baL (ttL x) = T at *
  generalize dgN x = D at *
  clear hN
  go_enter Tryz.func16, Tryz.ntmps16
  go_upto_region 1 with fail
  obtain ⟨W0, hW0⟩ : ∃ W0, w.alloc (.cells #[.int .i64 1, .float .f64 x, .string t, .string r1, .string r2, .bool r3, .bool r4, .int .i64 r5, .int .i64 r6, .bool r7, .bool r8, .int .i64 r9, .int .i64 r10, .bool r11, .bool r12, .int .i64 er, .int .i64 pl] 28 (0, 0)) = W0 := ⟨_, rfl⟩
  have hA : W0.heap[w.heap.size]? = some (.cells #[.int .i64 1, .float .f64 x, .string t, .string r1, .string r2, .bool r3, .bool r4, .int .i64 r5, .int .i64 r6, .bool r7, .bool r8, .int .i64 r9, .int .i64 r10, .bool r11, .bool r12, .int .i64 er, .int .i64 pl] 28 (0, 0)) := by rw [← hW0]; exact heap_alloc_new w _
  have HF : Hid (Fr noB w W0) := by rw [← hW0]; exact (Fr.refl noB w).alloc _
  rw [hW0]
  clear hW0
  have HA : Hid _ := hA
  have c0 := cellOf (o := 0) hA rfl; have c1 := cellOf (o := 1) hA rfl
  generalize w.heap.size = H at *
  clear hA
  go_wp2_with (first
    | (go_at_call 31; refine (HS _).mono ?_; rintro e w1 ⟨rfl, rfl⟩)
    | (go_at_call 32; refine (HX.out _ HF.out).mono ?_; rintro e w2 ⟨rfl, hF2⟩))
  go_ret
  exact ⟨rfl, HF.out.trans hF2⟩
set_option maxRecDepth 100000 in
set_option maxHeartbeats 2000000 in
theorem wr1s (x : Nat) (t : ByteArray) (r1 r2 : ByteArray) (r3 r4 : Bool) (r5 r6 : Int) (r7 r8 : Bool) (r9 r10 : Int) (r11 r12 : Bool) (er pl : Int) (w : World) (h1 : 9223372036854775808 ≤ x) (hx : x < 18446744073709551616) : Calls Tryz.prog 16 #[(.agg #[.int .i64 1, .float .f64 x, .string t, .string r1, .string r2, .bool r3, .bool r4, .int .i64 r5, .int .i64 r6, .bool r7, .bool r8, .int .i64 r9, .int .i64 r10, .bool r11, .bool r12, .int .i64 er, .int .i64 pl])] w fun e w' => e = .returned (.string (⟨#[]⟩)) ∧ Fr noB w w' := by
  have HS := signbit_lx x hx
  rw [decide_eq_true h1] at HS
  go_enter Tryz.func16, Tryz.ntmps16
  go_upto_region 1 with fail
  obtain ⟨W0, hW0⟩ : ∃ W0, w.alloc (.cells #[.int .i64 1, .float .f64 x, .string t, .string r1, .string r2, .bool r3, .bool r4, .int .i64 r5, .int .i64 r6, .bool r7, .bool r8, .int .i64 r9, .int .i64 r10, .bool r11, .bool r12, .int .i64 er, .int .i64 pl] 28 (0, 0)) = W0 := ⟨_, rfl⟩
  have hA : W0.heap[w.heap.size]? = some (.cells #[.int .i64 1, .float .f64 x, .string t, .string r1, .string r2, .bool r3, .bool r4, .int .i64 r5, .int .i64 r6, .bool r7, .bool r8, .int .i64 r9, .int .i64 r10, .bool r11, .bool r12, .int .i64 er, .int .i64 pl] 28 (0, 0)) := by rw [← hW0]; exact heap_alloc_new w _
  have HF : Hid (Fr noB w W0) := by rw [← hW0]; exact (Fr.refl noB w).alloc _
  rw [hW0]
  clear hW0
  have HA : Hid _ := hA
  have c0 := cellOf (o := 0) hA rfl; have c1 := cellOf (o := 1) hA rfl
  generalize w.heap.size = H at *
  clear hA
  go_wp2_with (first
    | (go_at_call 31; refine (HS _).mono ?_; rintro e w1 ⟨rfl, rfl⟩))
  go_ret
  exact ⟨rfl, HF.out⟩
set_option maxRecDepth 100000 in
set_option maxHeartbeats 2000000 in
theorem wr3 (x : Nat) (t : ByteArray) (r1 r2 : ByteArray) (r3 r4 : Bool) (r5 r6 : Int) (r7 r8 : Bool) (r9 r10 : Int) (r11 r12 : Bool) (er pl : Int) (w : World) (hU : UTab_r w) : Calls Tryz.prog 16 #[(.agg #[.int .i64 3, .float .f64 x, .string t, .string r1, .string r2, .bool r3, .bool r4, .int .i64 r5, .int .i64 r6, .bool r7, .bool r8, .int .i64 r9, .int .i64 r10, .bool r11, .bool r12, .int .i64 er, .int .i64 pl])] w fun e w' => e = .returned (.string (brk r1 r2 r3 r4 r5 r6 r7 r8 r9 r10 r11 r12)) ∧ Fr noB w w' := by
  have HX : Hid (∀ W, Fr noB w W → Calls Tryz.prog 33 #[(.agg #[.string r1, .string r2, .bool r3, .bool r4, .int .i64 r5, .int .i64 r6, .bool r7, .bool r8, .int .i64 r9, .int .i64 r10, .bool r11, .bool r12])] W fun e w' => e = .returned (.string (brk r1 r2 r3 r4 r5 r6 r7 r8 r9 r10 r11 r12)) ∧ Fr noB W w') := fun W hW => bracket_tx r1 r2 r3 r4 r5 r6 r7 r8 r9 r10 r11 r12 W (hU.fr hW)
  generalize brk r1 r2 r3 r4 r5 r6 r7 r8 r9 r10 r11 r12 = T at *
  clear hU
  go_enter Tryz.func16, Tryz.ntmps16
  go_upto_region 1 with fail
  obtain ⟨W0, hW0⟩ : ∃ W0, w.alloc (.cells #[.int .i64 3, .float .f64 x, .string t, .string r1, .string r2, .bool r3, .bool r4, .int .i64 r5, .int .i64 r6, .bool r7, .bool r8, .int .i64 r9, .int .i64 r10, .bool r11, .bool r12, .int .i64 er, .int .i64 pl] 28 (0, 0)) = W0 := ⟨_, rfl⟩
  have hA : W0.heap[w.heap.size]? = some (.cells #[.int .i64 3, .float .f64 x, .string t, .string r1, .string r2, .bool r3, .bool r4, .int .i64 r5, .int .i64 r6, .bool r7, .bool r8, .int .i64 r9, .int .i64 r10, .bool r11, .bool r12, .int .i64 er, .int .i64 pl] 28 (0, 0)) := by rw [← hW0]; exact heap_alloc_new w _
  have HF : Hid (Fr noB w W0) := by rw [← hW0]; exact (Fr.refl noB w).alloc _
  rw [hW0]
  clear hW0
  have HA : Hid _ := hA
  have c0 := cellOf (o := 0) hA rfl
  generalize w.heap.size = H at *
  clear hA
  go_wp2_with (first
    | (refine wpList_load_r3 rfl (.tmp 26) rfl H (.int .i64 3) (.float .f64 x) (.string t) (.int .i64 er) (.int .i64 pl) r1 r2 r3 r4 r5 r6 r7 r8 r9 r10 r11 r12 rfl HA.out ?_)
    | (go_at_call 33; refine (HX.out _ HF.out).mono ?_; rintro e w2 ⟨rfl, hF2⟩))
  go_ret
  exact ⟨rfl, HF.out.trans hF2⟩
set_option maxRecDepth 100000 in
set_option maxHeartbeats 2000000 in
theorem wr5 (x : Nat) (t : ByteArray) (r1 r2 : ByteArray) (r3 r4 : Bool) (r5 r6 : Int) (r7 r8 : Bool) (r9 r10 : Int) (r11 r12 : Bool) (er pl : Int) (w : World) (hE : EvTab w) : Calls Tryz.prog 16 #[(.agg #[.int .i64 5, .float .f64 x, .string t, .string r1, .string r2, .bool r3, .bool r4, .int .i64 r5, .int .i64 r6, .bool r7, .bool r8, .int .i64 r9, .int .i64 r10, .bool r11, .bool r12, .int .i64 er, .int .i64 pl])] w fun e w' => e = .returned (.string (eT er)) ∧ Fr noB w w' := by
  have HX : Hid (∀ W, Fr noB w W → Calls Tryz.prog 34 #[.int .i64 er] W fun e w' => e = .returned (.string (eT er)) ∧ w' = W) := fun W hW => errText_any er W (hE.fr hW)
  generalize eT er = T at *
  clear hE
  go_enter Tryz.func16, Tryz.ntmps16
  go_upto_region 1 with fail
  obtain ⟨W0, hW0⟩ : ∃ W0, w.alloc (.cells #[.int .i64 5, .float .f64 x, .string t, .string r1, .string r2, .bool r3, .bool r4, .int .i64 r5, .int .i64 r6, .bool r7, .bool r8, .int .i64 r9, .int .i64 r10, .bool r11, .bool r12, .int .i64 er, .int .i64 pl] 28 (0, 0)) = W0 := ⟨_, rfl⟩
  have hA : W0.heap[w.heap.size]? = some (.cells #[.int .i64 5, .float .f64 x, .string t, .string r1, .string r2, .bool r3, .bool r4, .int .i64 r5, .int .i64 r6, .bool r7, .bool r8, .int .i64 r9, .int .i64 r10, .bool r11, .bool r12, .int .i64 er, .int .i64 pl] 28 (0, 0)) := by rw [← hW0]; exact heap_alloc_new w _
  have HF : Hid (Fr noB w W0) := by rw [← hW0]; exact (Fr.refl noB w).alloc _
  rw [hW0]
  clear hW0
  have HA : Hid _ := hA
  have c0 := cellOf (o := 0) hA rfl; have c15 := cellOf (o := 15) hA rfl
  generalize w.heap.size = H at *
  clear hA
  go_wp2_with (first
    | (go_at_call 34; refine (HX.out _ HF.out).mono ?_; rintro e w2 ⟨rfl, rfl⟩))
  go_ret
  exact ⟨rfl, HF.out⟩
set_option maxRecDepth 100000 in
set_option maxHeartbeats 2000000 in
theorem wr4t (x : Nat) (t : ByteArray) (r1 r2 : ByteArray) (r3 r4 : Bool) (r5 r6 : Int) (r7 r8 : Bool) (r9 r10 : Int) (r11 r12 : Bool) (er pl : Int) (w : World) (hb : nmF t = true) (hz : t.size ≤ 281474976710656) : Calls Tryz.prog 16 #[(.agg #[.int .i64 4, .float .f64 x, .string t, .string r1, .string r2, .bool r3, .bool r4, .int .i64 r5, .int .i64 r6, .bool r7, .bool r8, .int .i64 r9, .int .i64 r10, .bool r11, .bool r12, .int .i64 er, .int .i64 pl])] w fun e w' => e = .returned (.string (t)) ∧ Fr noB w w' := by
  have HX : Hid (∀ W, Fr noB w W → Calls Tryz.prog 9 #[.string t] W fun e w' => e = .returned (.bool true) ∧ Fr noB W w') := fun W hW => by have h := name_pr t W; rwa [hb] at h
  clear hb
  go_enter Tryz.func16, Tryz.ntmps16
  go_upto_region 1 with fail
  obtain ⟨W0, hW0⟩ : ∃ W0, w.alloc (.cells #[.int .i64 4, .float .f64 x, .string t, .string r1, .string r2, .bool r3, .bool r4, .int .i64 r5, .int .i64 r6, .bool r7, .bool r8, .int .i64 r9, .int .i64 r10, .bool r11, .bool r12, .int .i64 er, .int .i64 pl] 28 (0, 0)) = W0 := ⟨_, rfl⟩
  have hA : W0.heap[w.heap.size]? = some (.cells #[.int .i64 4, .float .f64 x, .string t, .string r1, .string r2, .bool r3, .bool r4, .int .i64 r5, .int .i64 r6, .bool r7, .bool r8, .int .i64 r9, .int .i64 r10, .bool r11, .bool r12, .int .i64 er, .int .i64 pl] 28 (0, 0)) := by rw [← hW0]; exact heap_alloc_new w _
  have HF : Hid (Fr noB w W0) := by rw [← hW0]; exact (Fr.refl noB w).alloc _
  rw [hW0]
  clear hW0
  have HA : Hid _ := hA
  have c0 := cellOf (o := 0) hA rfl; have c2 := cellOf (o := 2) hA rfl
  generalize w.heap.size = H at *
  clear hA
  go_wp2_with (first
    | (go_at_call 9; refine (HX.out _ HF.out).mono ?_; rintro e w2 ⟨rfl, hF2⟩; have HA2 : Hid _ := hF2.obj HA.out id; have e0 := cellOf (o := 0) HA2.out rfl; have e2 := cellOf (o := 2) HA2.out rfl)
    | (go_at_call 36; refine (clone_any t _ hz).mono ?_; rintro e w3 ⟨rfl, hF3⟩))
  go_ret
  exact ⟨rfl, (HF.out.trans hF2).trans hF3⟩
set_option maxRecDepth 100000 in
set_option maxHeartbeats 2000000 in
theorem wr4f (x : Nat) (t : ByteArray) (r1 r2 : ByteArray) (r3 r4 : Bool) (r5 r6 : Int) (r7 r8 : Bool) (r9 r10 : Int) (r11 r12 : Bool) (er pl : Int) (w : World) (hb : nmF t = false) : Calls Tryz.prog 16 #[(.agg #[.int .i64 4, .float .f64 x, .string t, .string r1, .string r2, .bool r3, .bool r4, .int .i64 r5, .int .i64 r6, .bool r7, .bool r8, .int .i64 r9, .int .i64 r10, .bool r11, .bool r12, .int .i64 er, .int .i64 pl])] w fun e w' => e = .returned (.string (⟨#[]⟩)) ∧ Fr noB w w' := by
  have HX : Hid (∀ W, Fr noB w W → Calls Tryz.prog 9 #[.string t] W fun e w' => e = .returned (.bool false) ∧ Fr noB W w') := fun W hW => by have h := name_pr t W; rwa [hb] at h
  clear hb
  go_enter Tryz.func16, Tryz.ntmps16
  go_upto_region 1 with fail
  obtain ⟨W0, hW0⟩ : ∃ W0, w.alloc (.cells #[.int .i64 4, .float .f64 x, .string t, .string r1, .string r2, .bool r3, .bool r4, .int .i64 r5, .int .i64 r6, .bool r7, .bool r8, .int .i64 r9, .int .i64 r10, .bool r11, .bool r12, .int .i64 er, .int .i64 pl] 28 (0, 0)) = W0 := ⟨_, rfl⟩
  have hA : W0.heap[w.heap.size]? = some (.cells #[.int .i64 4, .float .f64 x, .string t, .string r1, .string r2, .bool r3, .bool r4, .int .i64 r5, .int .i64 r6, .bool r7, .bool r8, .int .i64 r9, .int .i64 r10, .bool r11, .bool r12, .int .i64 er, .int .i64 pl] 28 (0, 0)) := by rw [← hW0]; exact heap_alloc_new w _
  have HF : Hid (Fr noB w W0) := by rw [← hW0]; exact (Fr.refl noB w).alloc _
  rw [hW0]
  clear hW0
  have HA : Hid _ := hA
  have c0 := cellOf (o := 0) hA rfl; have c2 := cellOf (o := 2) hA rfl
  generalize w.heap.size = H at *
  clear hA
  go_wp2_with (first
    | (go_at_call 9; refine (HX.out _ HF.out).mono ?_; rintro e w2 ⟨rfl, hF2⟩; have HA2 : Hid _ := hF2.obj HA.out id; have e0 := cellOf (o := 0) HA2.out rfl; have e2 := cellOf (o := 2) HA2.out rfl))
  go_ret
  exact ⟨rfl, (HF.out.trans hF2)⟩
set_option maxRecDepth 100000 in
set_option maxHeartbeats 2000000 in
theorem wr6t (x : Nat) (t : ByteArray) (r1 r2 : ByteArray) (r3 r4 : Bool) (r5 r6 : Int) (r7 r8 : Bool) (r9 r10 : Int) (r11 r12 : Bool) (er pl : Int) (w : World) (hb : isS t = true) (hz : t.size ≤ 281474976710656) (hS : STab w) : Calls Tryz.prog 16 #[(.agg #[.int .i64 6, .float .f64 x, .string t, .string r1, .string r2, .bool r3, .bool r4, .int .i64 r5, .int .i64 r6, .bool r7, .bool r8, .int .i64 r9, .int .i64 r10, .bool r11, .bool r12, .int .i64 er, .int .i64 pl])] w fun e w' => e = .returned (.string (t)) ∧ Fr noB w w' := by
  have HX : Hid (∀ W, Fr noB w W → Calls Tryz.prog 35 #[.string t] W fun e w' => e = .returned (.bool true) ∧ w' = W) := fun W hW => by have h := isSign_lx t W (hS.fr hW id); rwa [hb] at h
  clear hb hS
  go_enter Tryz.func16, Tryz.ntmps16
  go_upto_region 1 with fail
  obtain ⟨W0, hW0⟩ : ∃ W0, w.alloc (.cells #[.int .i64 6, .float .f64 x, .string t, .string r1, .string r2, .bool r3, .bool r4, .int .i64 r5, .int .i64 r6, .bool r7, .bool r8, .int .i64 r9, .int .i64 r10, .bool r11, .bool r12, .int .i64 er, .int .i64 pl] 28 (0, 0)) = W0 := ⟨_, rfl⟩
  have hA : W0.heap[w.heap.size]? = some (.cells #[.int .i64 6, .float .f64 x, .string t, .string r1, .string r2, .bool r3, .bool r4, .int .i64 r5, .int .i64 r6, .bool r7, .bool r8, .int .i64 r9, .int .i64 r10, .bool r11, .bool r12, .int .i64 er, .int .i64 pl] 28 (0, 0)) := by rw [← hW0]; exact heap_alloc_new w _
  have HF : Hid (Fr noB w W0) := by rw [← hW0]; exact (Fr.refl noB w).alloc _
  rw [hW0]
  clear hW0
  have HA : Hid _ := hA
  have c0 := cellOf (o := 0) hA rfl; have c2 := cellOf (o := 2) hA rfl
  generalize w.heap.size = H at *
  clear hA
  go_wp2_with (first
    | (go_at_call 35; refine (HX.out _ HF.out).mono ?_; rintro e w2 ⟨rfl, rfl⟩)
    | (go_at_call 36; refine (clone_any t _ hz).mono ?_; rintro e w3 ⟨rfl, hF3⟩))
  go_ret
  exact ⟨rfl, HF.out.trans hF3⟩
set_option maxRecDepth 100000 in
set_option maxHeartbeats 2000000 in
theorem wr6f (x : Nat) (t : ByteArray) (r1 r2 : ByteArray) (r3 r4 : Bool) (r5 r6 : Int) (r7 r8 : Bool) (r9 r10 : Int) (r11 r12 : Bool) (er pl : Int) (w : World) (hb : isS t = false) (hS : STab w) : Calls Tryz.prog 16 #[(.agg #[.int .i64 6, .float .f64 x, .string t, .string r1, .string r2, .bool r3, .bool r4, .int .i64 r5, .int .i64 r6, .bool r7, .bool r8, .int .i64 r9, .int .i64 r10, .bool r11, .bool r12, .int .i64 er, .int .i64 pl])] w fun e w' => e = .returned (.string (⟨#[]⟩)) ∧ Fr noB w w' := by
  have HX : Hid (∀ W, Fr noB w W → Calls Tryz.prog 35 #[.string t] W fun e w' => e = .returned (.bool false) ∧ w' = W) := fun W hW => by have h := isSign_lx t W (hS.fr hW id); rwa [hb] at h
  clear hb hS
  go_enter Tryz.func16, Tryz.ntmps16
  go_upto_region 1 with fail
  obtain ⟨W0, hW0⟩ : ∃ W0, w.alloc (.cells #[.int .i64 6, .float .f64 x, .string t, .string r1, .string r2, .bool r3, .bool r4, .int .i64 r5, .int .i64 r6, .bool r7, .bool r8, .int .i64 r9, .int .i64 r10, .bool r11, .bool r12, .int .i64 er, .int .i64 pl] 28 (0, 0)) = W0 := ⟨_, rfl⟩
  have hA : W0.heap[w.heap.size]? = some (.cells #[.int .i64 6, .float .f64 x, .string t, .string r1, .string r2, .bool r3, .bool r4, .int .i64 r5, .int .i64 r6, .bool r7, .bool r8, .int .i64 r9, .int .i64 r10, .bool r11, .bool r12, .int .i64 er, .int .i64 pl] 28 (0, 0)) := by rw [← hW0]; exact heap_alloc_new w _
  have HF : Hid (Fr noB w W0) := by rw [← hW0]; exact (Fr.refl noB w).alloc _
  rw [hW0]
  clear hW0
  have HA : Hid _ := hA
  have c0 := cellOf (o := 0) hA rfl; have c2 := cellOf (o := 2) hA rfl
  generalize w.heap.size = H at *
  clear hA
  go_wp2_with (first
    | (go_at_call 35; refine (HX.out _ HF.out).mono ?_; rintro e w2 ⟨rfl, rfl⟩))
  go_ret
  exact ⟨rfl, HF.out⟩
set_option maxRecDepth 100000 in
set_option maxHeartbeats 2000000 in
theorem wr0 (k : Int) (x : Nat) (t : ByteArray) (r1 r2 : ByteArray) (r3 r4 : Bool) (r5 r6 : Int) (r7 r8 : Bool) (r9 r10 : Int) (r11 r12 : Bool) (er pl : Int) (w : World) (k1 : ¬ k = 1) (k3 : ¬ k = 3) (k4 : ¬ k = 4) (k5 : ¬ k = 5) (k6 : ¬ k = 6) : Calls Tryz.prog 16 #[(.agg #[.int .i64 k, .float .f64 x, .string t, .string r1, .string r2, .bool r3, .bool r4, .int .i64 r5, .int .i64 r6, .bool r7, .bool r8, .int .i64 r9, .int .i64 r10, .bool r11, .bool r12, .int .i64 er, .int .i64 pl])] w fun e w' => e = .returned (.string (⟨#[]⟩)) ∧ Fr noB w w' := by
  go_enter Tryz.func16, Tryz.ntmps16
  go_upto_region 1 with fail
  obtain ⟨W0, hW0⟩ : ∃ W0, w.alloc (.cells #[.int .i64 k, .float .f64 x, .string t, .string r1, .string r2, .bool r3, .bool r4, .int .i64 r5, .int .i64 r6, .bool r7, .bool r8, .int .i64 r9, .int .i64 r10, .bool r11, .bool r12, .int .i64 er, .int .i64 pl] 28 (0, 0)) = W0 := ⟨_, rfl⟩
  have hA : W0.heap[w.heap.size]? = some (.cells #[.int .i64 k, .float .f64 x, .string t, .string r1, .string r2, .bool r3, .bool r4, .int .i64 r5, .int .i64 r6, .bool r7, .bool r8, .int .i64 r9, .int .i64 r10, .bool r11, .bool r12, .int .i64 er, .int .i64 pl] 28 (0, 0)) := by rw [← hW0]; exact heap_alloc_new w _
  have HF : Hid (Fr noB w W0) := by rw [← hW0]; exact (Fr.refl noB w).alloc _
  rw [hW0]
  clear hW0
  have HA : Hid _ := hA
  have c0 := cellOf (o := 0) hA rfl
  generalize w.heap.size = H at *
  clear hA
  go_wp2_with fail
  go_ret
  exact ⟨rfl, HF.out⟩
set_option maxRecDepth 100000 in
set_option maxHeartbeats 2000000 in
theorem text_gen (k : Int) (x : Nat) (t : ByteArray) (r1 r2 : ByteArray) (r3 r4 : Bool) (r5 r6 : Int) (r7 r8 : Bool) (r9 r10 : Int) (r11 r12 : Bool) (er pl : Int) (w : World) (k2 : ¬ k = 2) (B : Bool) (T : ByteArray) (HB : ∀ W, Calls Tryz.prog 15 #[(.agg #[.int .i64 k, .float .f64 x, .string t, .string r1, .string r2, .bool r3, .bool r4, .int .i64 r5, .int .i64 r6, .bool r7, .bool r8, .int .i64 r9, .int .i64 r10, .bool r11, .bool r12, .int .i64 er, .int .i64 pl])] W fun e w' => e = .returned (.bool B) ∧ Fr noB W w') (HW : Hid (∀ W, Fr noB w W → Calls Tryz.prog 16 #[(.agg #[.int .i64 k, .float .f64 x, .string t, .string r1, .string r2, .bool r3, .bool r4, .int .i64 r5, .int .i64 r6, .bool r7, .bool r8, .int .i64 r9, .int .i64 r10, .bool r11, .bool r12, .int .i64 er, .int .i64 pl])] W fun e w' => e = .returned (.string T) ∧ Fr noB W w')) :
    Calls Tryz.prog 6 #[(.agg #[.int .i64 k, .float .f64 x, .string t, .string r1, .string r2, .bool r3, .bool r4, .int .i64 r5, .int .i64 r6, .bool r7, .bool r8, .int .i64 r9, .int .i64 r10, .bool r11, .bool r12, .int .i64 er, .int .i64 pl])] w fun e w' => e = .returned (tpv (B && decide (T.size ≠ 0)) T) ∧ Fr noB w w' := by
  go_enter Tryz.func6, Tryz.ntmps6
  go_upto_region 1 with fail
  obtain ⟨W0, hW0⟩ : ∃ W0, w.alloc (.cells #[.int .i64 k, .float .f64 x, .string t, .string r1, .string r2, .bool r3, .bool r4, .int .i64 r5, .int .i64 r6, .bool r7, .bool r8, .int .i64 r9, .int .i64 r10, .bool r11, .bool r12, .int .i64 er, .int .i64 pl] 28 (0, 0)) = W0 := ⟨_, rfl⟩
  have hA : W0.heap[w.heap.size]? = some (.cells #[.int .i64 k, .float .f64 x, .string t, .string r1, .string r2, .bool r3, .bool r4, .int .i64 r5, .int .i64 r6, .bool r7, .bool r8, .int .i64 r9, .int .i64 r10, .bool r11, .bool r12, .int .i64 er, .int .i64 pl] 28 (0, 0)) := by rw [← hW0]; exact heap_alloc_new w _
  have HF : Hid (Fr noB w W0) := by rw [← hW0]; exact (Fr.refl noB w).alloc _
  rw [hW0]
  clear hW0
  have HA : Hid _ := hA
  
  generalize w.heap.size = H at *
  clear hA
  cases B with
  | false =>
    go_wp2_with (first
      | (refine wpList_load_row rfl 28 (.tmp 1) rfl H rfl 28 #[.int .i64 k, .float .f64 x, .string t, .string r1, .string r2, .bool r3, .bool r4, .int .i64 r5, .int .i64 r6, .bool r7, .bool r8, .int .i64 r9, .int .i64 r10, .bool r11, .bool r12, .int .i64 er, .int .i64 pl] (0, 0) _ HA.out Tryz.underlying28 rfl info_lx ?_)
      | (go_at_call 15; refine (HB _).mono ?_; rintro e w1 ⟨rfl, hF1⟩))
    go_ret2
    exact ⟨rfl, HF.out.trans hF1⟩
  | true =>
    by_cases hT : T.size = 0
    · have he := emp_yes T hT
      have HV : Hid (tpv (true && decide (T.size ≠ 0)) T = .tuple #[.string ⟨#[]⟩, .int .i64 1]) := by
        show tpv _ _ = _
        rw [decide_eq_false (by omega)]
        rfl
      go_wp2_with (first
        | (refine wpList_load_row rfl 28 (.tmp 1) rfl H rfl 28 #[.int .i64 k, .float .f64 x, .string t, .string r1, .string r2, .bool r3, .bool r4, .int .i64 r5, .int .i64 r6, .bool r7, .bool r8, .int .i64 r9, .int .i64 r10, .bool r11, .bool r12, .int .i64 er, .int .i64 pl] (0, 0) _ HA.out Tryz.underlying28 rfl info_lx ?_)
        | (refine wpList_load_row rfl 28 (.tmp 1) rfl H rfl 28 #[.int .i64 k, .float .f64 x, .string t, .string r1, .string r2, .bool r3, .bool r4, .int .i64 r5, .int .i64 r6, .bool r7, .bool r8, .int .i64 r9, .int .i64 r10, .bool r11, .bool r12, .int .i64 er, .int .i64 pl] (0, 0) _ HA2.out Tryz.underlying28 rfl info_lx ?_)
        | (go_at_call 15; refine (HB _).mono ?_; rintro e w1 ⟨rfl, hF1⟩; have HA2 : Hid _ := hF1.obj HA.out id; have e0 := cellOf (o := 0) HA2.out rfl)
        | (go_at_call 16; refine (HW.out _ (HF.out.trans hF1)).mono ?_; rintro e w2 ⟨rfl, hF2⟩))
      go_ret2
      rw [HV.out]
      exact ⟨rfl, HF.out.trans (hF1.trans hF2)⟩
    · have he := emp_no T (by omega)
      have HV : Hid (tpv (true && decide (T.size ≠ 0)) T = .tuple #[.string T, .int .i64 0]) := by
        show tpv _ _ = _
        rw [decide_eq_true hT]
        rfl
      go_wp2_with (first
        | (refine wpList_load_row rfl 28 (.tmp 1) rfl H rfl 28 #[.int .i64 k, .float .f64 x, .string t, .string r1, .string r2, .bool r3, .bool r4, .int .i64 r5, .int .i64 r6, .bool r7, .bool r8, .int .i64 r9, .int .i64 r10, .bool r11, .bool r12, .int .i64 er, .int .i64 pl] (0, 0) _ HA.out Tryz.underlying28 rfl info_lx ?_)
        | (refine wpList_load_row rfl 28 (.tmp 1) rfl H rfl 28 #[.int .i64 k, .float .f64 x, .string t, .string r1, .string r2, .bool r3, .bool r4, .int .i64 r5, .int .i64 r6, .bool r7, .bool r8, .int .i64 r9, .int .i64 r10, .bool r11, .bool r12, .int .i64 er, .int .i64 pl] (0, 0) _ HA2.out Tryz.underlying28 rfl info_lx ?_)
        | (go_at_call 15; refine (HB _).mono ?_; rintro e w1 ⟨rfl, hF1⟩; have HA2 : Hid _ := hF1.obj HA.out id; have e0 := cellOf (o := 0) HA2.out rfl)
        | (go_at_call 16; refine (HW.out _ (HF.out.trans hF1)).mono ?_; rintro e w2 ⟨rfl, hF2⟩))
      go_ret2
      rw [HV.out]
      exact ⟨rfl, HF.out.trans (hF1.trans hF2)⟩
set_option maxRecDepth 100000 in
set_option maxHeartbeats 2000000 in
theorem text_two (x : Nat) (t : ByteArray) (r1 r2 : ByteArray) (r3 r4 : Bool) (r5 r6 : Int) (r7 r8 : Bool) (r9 r10 : Int) (r11 r12 : Bool) (er pl : Int) (w : World) (hX : XTab w) (B : Bool) (HB : ∀ W, Calls Tryz.prog 15 #[(.agg #[.int .i64 2, .float .f64 x, .string t, .string r1, .string r2, .bool r3, .bool r4, .int .i64 r5, .int .i64 r6, .bool r7, .bool r8, .int .i64 r9, .int .i64 r10, .bool r11, .bool r12, .int .i64 er, .int .i64 pl])] W fun e w' => e = .returned (.bool B) ∧ Fr noB W w') :
    Calls Tryz.prog 6 #[(.agg #[.int .i64 2, .float .f64 x, .string t, .string r1, .string r2, .bool r3, .bool r4, .int .i64 r5, .int .i64 r6, .bool r7, .bool r8, .int .i64 r9, .int .i64 r10, .bool r11, .bool r12, .int .i64 er, .int .i64 pl])] w fun e w' => e = .returned (if B = true then qtV t else .tuple #[.string ⟨#[]⟩, .int .i64 1]) ∧ Fr noB w w' := by
  have HQ : Hid (∀ W, Fr noB w W → Calls Tryz.prog 4 #[.string t] W fun e w' => e = .returned (qtV t) ∧ Fr noB W w') := fun W hW => quote_lx t W (hX.fr hW)
  obtain ⟨Qa, Qb, hq⟩ : ∃ a b, qtV t = .tuple #[.string a, .int .i64 b] := ⟨_, _, rfl⟩
  obtain ⟨V, hV⟩ : ∃ V, (if B = true then qtV t else .tuple #[.string ⟨#[]⟩, .int .i64 1]) = V := ⟨_, rfl⟩
  have HV1 : Hid (B = true → V = .tuple #[.string Qa, .int .i64 Qb]) := fun e => by rw [← hV, if_pos e, hq]
  have HV2 : Hid (B = false → V = .tuple #[.string ⟨#[]⟩, .int .i64 1]) := fun e => by rw [← hV, if_neg (by rw [e]; simp)]
  rw [hV]
  rw [hq] at HQ
  clear hq hX hV
  go_enter Tryz.func6, Tryz.ntmps6
  go_upto_region 1 with fail
  obtain ⟨W0, hW0⟩ : ∃ W0, w.alloc (.cells #[.int .i64 2, .float .f64 x, .string t, .string r1, .string r2, .bool r3, .bool r4, .int .i64 r5, .int .i64 r6, .bool r7, .bool r8, .int .i64 r9, .int .i64 r10, .bool r11, .bool r12, .int .i64 er, .int .i64 pl] 28 (0, 0)) = W0 := ⟨_, rfl⟩
  have hA : W0.heap[w.heap.size]? = some (.cells #[.int .i64 2, .float .f64 x, .string t, .string r1, .string r2, .bool r3, .bool r4, .int .i64 r5, .int .i64 r6, .bool r7, .bool r8, .int .i64 r9, .int .i64 r10, .bool r11, .bool r12, .int .i64 er, .int .i64 pl] 28 (0, 0)) := by rw [← hW0]; exact heap_alloc_new w _
  have HF : Hid (Fr noB w W0) := by rw [← hW0]; exact (Fr.refl noB w).alloc _
  rw [hW0]
  clear hW0
  have HA : Hid _ := hA
  
  generalize w.heap.size = H at *
  clear hA
  cases B with
  | false =>
    have HV3 : Hid _ := HV2.out rfl
    clear HV1 HV2
    go_wp2_with (first
      | (refine wpList_load_row rfl 28 (.tmp 1) rfl H rfl 28 #[.int .i64 2, .float .f64 x, .string t, .string r1, .string r2, .bool r3, .bool r4, .int .i64 r5, .int .i64 r6, .bool r7, .bool r8, .int .i64 r9, .int .i64 r10, .bool r11, .bool r12, .int .i64 er, .int .i64 pl] (0, 0) _ HA.out Tryz.underlying28 rfl info_lx ?_)
      | (go_at_call 15; refine (HB _).mono ?_; rintro e w1 ⟨rfl, hF1⟩))
    go_ret2
    rw [HV3.out]
    exact ⟨rfl, HF.out.trans hF1⟩
  | true =>
    have HV3 : Hid _ := HV1.out rfl
    clear HV1 HV2
    go_wp2_with (first
      | (refine wpList_load_row rfl 28 (.tmp 1) rfl H rfl 28 #[.int .i64 2, .float .f64 x, .string t, .string r1, .string r2, .bool r3, .bool r4, .int .i64 r5, .int .i64 r6, .bool r7, .bool r8, .int .i64 r9, .int .i64 r10, .bool r11, .bool r12, .int .i64 er, .int .i64 pl] (0, 0) _ HA.out Tryz.underlying28 rfl info_lx ?_)
      | (go_at_call 15; refine (HB _).mono ?_; rintro e w1 ⟨rfl, hF1⟩; have HA2 : Hid _ := hF1.obj HA.out id; have e0 := cellOf (o := 0) HA2.out rfl; have e2 := cellOf (o := 2) HA2.out rfl)
      | (go_at_call 4; refine (HQ.out _ (HF.out.trans hF1)).mono ?_; rintro e w2 ⟨rfl, hF2⟩))
    go_ret2
    rw [HV3.out]
    exact ⟨rfl, HF.out.trans (hF1.trans hF2)⟩
#print axioms text_gen
#print axioms text_two
end Go.Proofs.YtkohohjpnlhioaaGreatDoor
/- A token's text: the document's. -/
namespace Go.Proofs.YtkohohjpnlhioaaGreatDoor
open Go.RowKit Go.Shelf

set_option maxRecDepth 100000 in
set_option maxHeartbeats 2000000 in
theorem rt2 (x : Nat) (t : ByteArray) (r1 r2 : ByteArray) (r3 r4 : Bool) (r5 r6 : Int) (r7 r8 : Bool) (r9 r10 : Int) (r11 r12 : Bool) (er pl : Int) (w : World) (hz : t.size ≤ 140737488355328) (hT : Tabs w) (B : Bool) (HZ : ∀ W, Calls Tryz.prog 17 #[(.agg #[.int .i64 2, .float .f64 x, .string t, .string r1, .string r2, .bool r3, .bool r4, .int .i64 r5, .int .i64 r6, .bool r7, .bool r8, .int .i64 r9, .int .i64 r10, .bool r11, .bool r12, .int .i64 er, .int .i64 pl])] W fun e w' => e = .returned (.bool B) ∧ Fr noB W w') :
    Calls Tryz.prog 7 #[(.agg #[.int .i64 2, .float .f64 x, .string t, .string r1, .string r2, .bool r3, .bool r4, .int .i64 r5, .int .i64 r6, .bool r7, .bool r8, .int .i64 r9, .int .i64 r10, .bool r11, .bool r12, .int .i64 er, .int .i64 pl])] w fun e w' => e = .returned (if B = true then qtV t else .tuple #[.string ⟨#[]⟩, .int .i64 1]) ∧ Fr noB w w' := by
  have HX : Hid (∀ W, Fr noB w W → Calls Tryz.prog 5 #[.string t] W fun e w' => e = .returned (qtV t) ∧ Fr noB W w') := fun W hW => rquote_lx t W hz (hT.keep hW)
  obtain ⟨Qa, Qb, hq⟩ : ∃ a b, qtV t = .tuple #[.string a, .int .i64 b] := ⟨_, _, rfl⟩
  obtain ⟨V, hV⟩ : ∃ V, (if B = true then qtV t else .tuple #[.string ⟨#[]⟩, .int .i64 1]) = V := ⟨_, rfl⟩
  rw [hV]
  have HV0 : Hid (B = false → V = .tuple #[.string ⟨#[]⟩, .int .i64 1]) := fun e => by rw [← hV, if_neg (by rw [e]; simp)]
  have HV1 : Hid (B = true → V = .tuple #[.string Qa, .int .i64 Qb]) := fun e => by rw [← hV, if_pos e, hq]
  clear hV
  rw [hq] at HX
  clear hq hT
  go_enter Tryz.func7, Tryz.ntmps7
  go_upto_region 1 with fail
  obtain ⟨W0, hW0⟩ : ∃ W0, w.alloc (.cells #[.int .i64 2, .float .f64 x, .string t, .string r1, .string r2, .bool r3, .bool r4, .int .i64 r5, .int .i64 r6, .bool r7, .bool r8, .int .i64 r9, .int .i64 r10, .bool r11, .bool r12, .int .i64 er, .int .i64 pl] 28 (0, 0)) = W0 := ⟨_, rfl⟩
  have hA : W0.heap[w.heap.size]? = some (.cells #[.int .i64 2, .float .f64 x, .string t, .string r1, .string r2, .bool r3, .bool r4, .int .i64 r5, .int .i64 r6, .bool r7, .bool r8, .int .i64 r9, .int .i64 r10, .bool r11, .bool r12, .int .i64 er, .int .i64 pl] 28 (0, 0)) := by rw [← hW0]; exact heap_alloc_new w _
  have HF : Hid (Fr noB w W0) := by rw [← hW0]; exact (Fr.refl noB w).alloc _
  rw [hW0]
  clear hW0
  have HA : Hid _ := hA
  
  generalize w.heap.size = H at *
  clear hA
  cases B with
  | false =>
    have HV : Hid (V = .tuple #[.string ⟨#[]⟩, .int .i64 1]) := HV0.out rfl
    clear HV0 HV1
    go_wp2_with (first
      | (refine wpList_load_row rfl 28 (.tmp 1) rfl H rfl 28 #[.int .i64 2, .float .f64 x, .string t, .string r1, .string r2, .bool r3, .bool r4, .int .i64 r5, .int .i64 r6, .bool r7, .bool r8, .int .i64 r9, .int .i64 r10, .bool r11, .bool r12, .int .i64 er, .int .i64 pl] (0, 0) _ HA.out Tryz.underlying28 rfl info_lx ?_)
      | (go_at_call 17; refine (HZ _).mono ?_; rintro e w1 ⟨rfl, hF1⟩; have HA2 : Hid _ := hF1.obj HA.out id; have e0 := cellOf (o := 0) HA2.out rfl))
    go_ret2
    rw [HV.out]
    exact ⟨rfl, HF.out.trans hF1⟩
  | true =>
    have HV : Hid _ := HV1.out rfl
    clear HV0 HV1
    go_wp2_with (first
      | (refine wpList_load_row rfl 28 (.tmp 1) rfl H rfl 28 #[.int .i64 2, .float .f64 x, .string t, .string r1, .string r2, .bool r3, .bool r4, .int .i64 r5, .int .i64 r6, .bool r7, .bool r8, .int .i64 r9, .int .i64 r10, .bool r11, .bool r12, .int .i64 er, .int .i64 pl] (0, 0) _ HA.out Tryz.underlying28 rfl info_lx ?_)
      | (go_at_call 17; refine (HZ _).mono ?_; rintro e w1 ⟨rfl, hF1⟩; have HA2 : Hid _ := hF1.obj HA.out id; have e0 := cellOf (o := 0) HA2.out rfl; have e2 := cellOf (o := 2) HA2.out rfl)
      | (go_at_call 5; refine (HX.out _ (HF.out.trans hF1)).mono ?_; rintro e w2 ⟨rfl, hF2⟩))
    go_ret2
    rw [HV.out]
    exact ⟨rfl, HF.out.trans (hF1.trans hF2)⟩
set_option maxRecDepth 100000 in
set_option maxHeartbeats 2000000 in
theorem rt3 (x : Nat) (t : ByteArray) (r1 r2 : ByteArray) (r3 r4 : Bool) (r5 r6 : Int) (r7 r8 : Bool) (r9 r10 : Int) (r11 r12 : Bool) (er pl : Int) (w : World) (h1 : r1.size ≤ 140737488355328) (h2 : r2.size ≤ 140737488355328) (hT : Tabs w) (hU : UTab_r w) (B : Bool) (HZ : ∀ W, Calls Tryz.prog 17 #[(.agg #[.int .i64 3, .float .f64 x, .string t, .string r1, .string r2, .bool r3, .bool r4, .int .i64 r5, .int .i64 r6, .bool r7, .bool r8, .int .i64 r9, .int .i64 r10, .bool r11, .bool r12, .int .i64 er, .int .i64 pl])] W fun e w' => e = .returned (.bool B) ∧ Fr noB W w') :
    Calls Tryz.prog 7 #[(.agg #[.int .i64 3, .float .f64 x, .string t, .string r1, .string r2, .bool r3, .bool r4, .int .i64 r5, .int .i64 r6, .bool r7, .bool r8, .int .i64 r9, .int .i64 r10, .bool r11, .bool r12, .int .i64 er, .int .i64 pl])] w fun e w' => e = .returned (tpv (B && decide (chkF r1 r2 r3 r4 r5 r6 r9 r10 r11 r12 = 0)) (brk r1 r2 r3 r4 r5 r6 r7 r8 r9 r10 r11 r12)) ∧ Fr noB w w' := by
  have HX : Hid (∀ W, Fr noB w W → Calls Tryz.prog 19 #[(.agg #[.string r1, .string r2, .bool r3, .bool r4, .int .i64 r5, .int .i64 r6, .bool r7, .bool r8, .int .i64 r9, .int .i64 r10, .bool r11, .bool r12])] W fun e w' => e = .returned (.tuple #[.string (txtB r1 r2 r3 r4 r5 r6 r7 r8 r9 r10 r11 r12), .int .i64 (chkF r1 r2 r3 r4 r5 r6 r9 r10 r11 r12)]) ∧ Fr noB W w') := fun W hW => rreftext_any r1 r2 r3 r4 r5 r6 r7 r8 r9 r10 r11 r12 W h1 h2 (hT.keep hW) (hU.fr hW)
  have hz := txtB_size r1 r2 r3 r4 r5 r6 r7 r8 r9 r10 r11 r12
  obtain ⟨V, hV⟩ : ∃ V, tpv (B && decide (chkF r1 r2 r3 r4 r5 r6 r9 r10 r11 r12 = 0)) (brk r1 r2 r3 r4 r5 r6 r7 r8 r9 r10 r11 r12) = V := ⟨_, rfl⟩
  rw [hV]
  have HV0 : Hid (B = false → V = .tuple #[.string ⟨#[]⟩, .int .i64 1]) := fun e => by rw [← hV, e]; rfl
  have HV1 : Hid (B = true → (chkF r1 r2 r3 r4 r5 r6 r9 r10 r11 r12 = 0 → V = .tuple #[.string ((⟨#[91]⟩ : ByteArray) ++ txtB r1 r2 r3 r4 r5 r6 r7 r8 r9 r10 r11 r12 ++ ⟨#[93]⟩), .int .i64 0]) ∧ (¬ chkF r1 r2 r3 r4 r5 r6 r9 r10 r11 r12 = 0 → V = .tuple #[.string ⟨#[]⟩, .int .i64 1])) := fun e => by
    refine ⟨fun f => ?_, fun f => ?_⟩
    · rw [← hV, e, decide_eq_true f]
      unfold brk
      rw [if_pos f]
      rfl
    · rw [← hV, e, decide_eq_false f]
      rfl
  clear hV
  generalize txtB r1 r2 r3 r4 r5 r6 r7 r8 r9 r10 r11 r12 = T at *
  generalize chkF r1 r2 r3 r4 r5 r6 r9 r10 r11 r12 = EE at *
  have z1 : (⟨#[91]⟩ : ByteArray).size = 1 := rfl
  have z2 : (⟨#[93]⟩ : ByteArray).size = 1 := rfl
  clear hT hU
  go_enter Tryz.func7, Tryz.ntmps7
  go_upto_region 1 with fail
  obtain ⟨W0, hW0⟩ : ∃ W0, w.alloc (.cells #[.int .i64 3, .float .f64 x, .string t, .string r1, .string r2, .bool r3, .bool r4, .int .i64 r5, .int .i64 r6, .bool r7, .bool r8, .int .i64 r9, .int .i64 r10, .bool r11, .bool r12, .int .i64 er, .int .i64 pl] 28 (0, 0)) = W0 := ⟨_, rfl⟩
  have hA : W0.heap[w.heap.size]? = some (.cells #[.int .i64 3, .float .f64 x, .string t, .string r1, .string r2, .bool r3, .bool r4, .int .i64 r5, .int .i64 r6, .bool r7, .bool r8, .int .i64 r9, .int .i64 r10, .bool r11, .bool r12, .int .i64 er, .int .i64 pl] 28 (0, 0)) := by rw [← hW0]; exact heap_alloc_new w _
  have HF : Hid (Fr noB w W0) := by rw [← hW0]; exact (Fr.refl noB w).alloc _
  rw [hW0]
  clear hW0
  have HA : Hid _ := hA
  
  generalize w.heap.size = H at *
  clear hA
  cases B with
  | false =>
    have HV : Hid (V = .tuple #[.string ⟨#[]⟩, .int .i64 1]) := HV0.out rfl
    clear HV0 HV1
    go_wp2_with (first
      | (refine wpList_load_row rfl 28 (.tmp 1) rfl H rfl 28 #[.int .i64 3, .float .f64 x, .string t, .string r1, .string r2, .bool r3, .bool r4, .int .i64 r5, .int .i64 r6, .bool r7, .bool r8, .int .i64 r9, .int .i64 r10, .bool r11, .bool r12, .int .i64 er, .int .i64 pl] (0, 0) _ HA.out Tryz.underlying28 rfl info_lx ?_)
      | (go_at_call 17; refine (HZ _).mono ?_; rintro e w1 ⟨rfl, hF1⟩; have HA2 : Hid _ := hF1.obj HA.out id; have e0 := cellOf (o := 0) HA2.out rfl))
    go_ret2
    rw [HV.out]
    exact ⟨rfl, HF.out.trans hF1⟩
  | true =>
    have HV1' : Hid _ := HV1.out rfl
    clear HV0 HV1
    by_cases hE : EE = 0
    · have HV : Hid _ := HV1'.out.1 hE
      subst hE
      clear HV1'
      go_wp2_with (first
        | (refine wpList_load_row rfl 28 (.tmp 1) rfl H rfl 28 #[.int .i64 3, .float .f64 x, .string t, .string r1, .string r2, .bool r3, .bool r4, .int .i64 r5, .int .i64 r6, .bool r7, .bool r8, .int .i64 r9, .int .i64 r10, .bool r11, .bool r12, .int .i64 er, .int .i64 pl] (0, 0) _ HA.out Tryz.underlying28 rfl info_lx ?_)
        | (go_at_call 17; refine (HZ _).mono ?_; rintro e w1 ⟨rfl, hF1⟩; have HA2 : Hid _ := hF1.obj HA.out id; have e0 := cellOf (o := 0) HA2.out rfl)
        | (go_at_call 19; refine (HX.out _ (HF.out.trans hF1)).mono ?_; rintro e w2 ⟨rfl, hF2⟩)
        | (refine wpList_load_r3 rfl (.tmp 52) rfl H (.int .i64 3) (.float .f64 x) (.string t) (.int .i64 er) (.int .i64 pl) r1 r2 r3 r4 r5 r6 r7 r8 r9 r10 r11 r12 rfl HA2.out ?_))
      go_ret2
      rw [HV.out]
      exact ⟨rfl, HF.out.trans (hF1.trans hF2)⟩
    · have HV : Hid _ := HV1'.out.2 hE
      clear HV1'
      go_wp2_with (first
        | (refine wpList_load_row rfl 28 (.tmp 1) rfl H rfl 28 #[.int .i64 3, .float .f64 x, .string t, .string r1, .string r2, .bool r3, .bool r4, .int .i64 r5, .int .i64 r6, .bool r7, .bool r8, .int .i64 r9, .int .i64 r10, .bool r11, .bool r12, .int .i64 er, .int .i64 pl] (0, 0) _ HA.out Tryz.underlying28 rfl info_lx ?_)
        | (go_at_call 17; refine (HZ _).mono ?_; rintro e w1 ⟨rfl, hF1⟩; have HA2 : Hid _ := hF1.obj HA.out id; have e0 := cellOf (o := 0) HA2.out rfl)
        | (go_at_call 19; refine (HX.out _ (HF.out.trans hF1)).mono ?_; rintro e w2 ⟨rfl, hF2⟩)
        | (refine wpList_load_r3 rfl (.tmp 52) rfl H (.int .i64 3) (.float .f64 x) (.string t) (.int .i64 er) (.int .i64 pl) r1 r2 r3 r4 r5 r6 r7 r8 r9 r10 r11 r12 rfl HA2.out ?_))
      go_ret2
      rw [HV.out]
      exact ⟨rfl, HF.out.trans (hF1.trans hF2)⟩
set_option maxRecDepth 100000 in
set_option maxHeartbeats 2000000 in
theorem rt4 (x : Nat) (t : ByteArray) (r1 r2 : ByteArray) (r3 r4 : Bool) (r5 r6 : Int) (r7 r8 : Bool) (r9 r10 : Int) (r11 r12 : Bool) (er pl : Int) (w : World) (B : Bool) (HZ : ∀ W, Calls Tryz.prog 17 #[(.agg #[.int .i64 4, .float .f64 x, .string t, .string r1, .string r2, .bool r3, .bool r4, .int .i64 r5, .int .i64 r6, .bool r7, .bool r8, .int .i64 r9, .int .i64 r10, .bool r11, .bool r12, .int .i64 er, .int .i64 pl])] W fun e w' => e = .returned (.bool B) ∧ Fr noB W w') :
    Calls Tryz.prog 7 #[(.agg #[.int .i64 4, .float .f64 x, .string t, .string r1, .string r2, .bool r3, .bool r4, .int .i64 r5, .int .i64 r6, .bool r7, .bool r8, .int .i64 r9, .int .i64 r10, .bool r11, .bool r12, .int .i64 er, .int .i64 pl])] w fun e w' => e = .returned (tpv (B && nmF t) t) ∧ Fr noB w w' := by
  have HX := rname_lx t
  obtain ⟨V, hV⟩ : ∃ V, tpv (B && nmF t) t = V := ⟨_, rfl⟩
  rw [hV]
  have HV0 : Hid (B = false → V = .tuple #[.string ⟨#[]⟩, .int .i64 1]) := fun e => by rw [← hV, e]; rfl
  have HV1 : Hid (B = true → (nmF t = true → V = .tuple #[.string t, .int .i64 0]) ∧ (nmF t = false → V = .tuple #[.string ⟨#[]⟩, .int .i64 1])) := fun e => ⟨fun f => by rw [← hV, e, f]; rfl, fun f => by rw [← hV, e, f]; rfl⟩
  clear hV
  generalize nmF t = N at *
  go_enter Tryz.func7, Tryz.ntmps7
  go_upto_region 1 with fail
  obtain ⟨W0, hW0⟩ : ∃ W0, w.alloc (.cells #[.int .i64 4, .float .f64 x, .string t, .string r1, .string r2, .bool r3, .bool r4, .int .i64 r5, .int .i64 r6, .bool r7, .bool r8, .int .i64 r9, .int .i64 r10, .bool r11, .bool r12, .int .i64 er, .int .i64 pl] 28 (0, 0)) = W0 := ⟨_, rfl⟩
  have hA : W0.heap[w.heap.size]? = some (.cells #[.int .i64 4, .float .f64 x, .string t, .string r1, .string r2, .bool r3, .bool r4, .int .i64 r5, .int .i64 r6, .bool r7, .bool r8, .int .i64 r9, .int .i64 r10, .bool r11, .bool r12, .int .i64 er, .int .i64 pl] 28 (0, 0)) := by rw [← hW0]; exact heap_alloc_new w _
  have HF : Hid (Fr noB w W0) := by rw [← hW0]; exact (Fr.refl noB w).alloc _
  rw [hW0]
  clear hW0
  have HA : Hid _ := hA
  
  generalize w.heap.size = H at *
  clear hA
  cases B with
  | false =>
    have HV : Hid (V = .tuple #[.string ⟨#[]⟩, .int .i64 1]) := HV0.out rfl
    clear HV0 HV1
    go_wp2_with (first
      | (refine wpList_load_row rfl 28 (.tmp 1) rfl H rfl 28 #[.int .i64 4, .float .f64 x, .string t, .string r1, .string r2, .bool r3, .bool r4, .int .i64 r5, .int .i64 r6, .bool r7, .bool r8, .int .i64 r9, .int .i64 r10, .bool r11, .bool r12, .int .i64 er, .int .i64 pl] (0, 0) _ HA.out Tryz.underlying28 rfl info_lx ?_)
      | (go_at_call 17; refine (HZ _).mono ?_; rintro e w1 ⟨rfl, hF1⟩; have HA2 : Hid _ := hF1.obj HA.out id; have e0 := cellOf (o := 0) HA2.out rfl))
    go_ret2
    rw [HV.out]
    exact ⟨rfl, HF.out.trans hF1⟩
  | true =>
    have HV1' : Hid _ := HV1.out rfl
    clear HV0 HV1
    cases N with
    | true =>
      have HV : Hid _ := HV1'.out.1 rfl
      clear HV1'
      go_wp2_with (first
        | (refine wpList_load_row rfl 28 (.tmp 1) rfl H rfl 28 #[.int .i64 4, .float .f64 x, .string t, .string r1, .string r2, .bool r3, .bool r4, .int .i64 r5, .int .i64 r6, .bool r7, .bool r8, .int .i64 r9, .int .i64 r10, .bool r11, .bool r12, .int .i64 er, .int .i64 pl] (0, 0) _ HA.out Tryz.underlying28 rfl info_lx ?_)
        | (go_at_call 17; refine (HZ _).mono ?_; rintro e w1 ⟨rfl, hF1⟩; have HA2 : Hid _ := hF1.obj HA.out id; have e0 := cellOf (o := 0) HA2.out rfl; have e2 := cellOf (o := 2) HA2.out rfl)
        | (go_at_call 10; refine (HX _).mono ?_; rintro e w2 ⟨rfl, rfl⟩))
      go_ret2
      rw [HV.out]
      exact ⟨rfl, HF.out.trans hF1⟩
    | false =>
      have HV : Hid _ := HV1'.out.2 rfl
      clear HV1'
      go_wp2_with (first
        | (refine wpList_load_row rfl 28 (.tmp 1) rfl H rfl 28 #[.int .i64 4, .float .f64 x, .string t, .string r1, .string r2, .bool r3, .bool r4, .int .i64 r5, .int .i64 r6, .bool r7, .bool r8, .int .i64 r9, .int .i64 r10, .bool r11, .bool r12, .int .i64 er, .int .i64 pl] (0, 0) _ HA.out Tryz.underlying28 rfl info_lx ?_)
        | (go_at_call 17; refine (HZ _).mono ?_; rintro e w1 ⟨rfl, hF1⟩; have HA2 : Hid _ := hF1.obj HA.out id; have e0 := cellOf (o := 0) HA2.out rfl; have e2 := cellOf (o := 2) HA2.out rfl)
        | (go_at_call 10; refine (HX _).mono ?_; rintro e w2 ⟨rfl, rfl⟩))
      go_ret2
      rw [HV.out]
      exact ⟨rfl, HF.out.trans hF1⟩
set_option maxRecDepth 100000 in
set_option maxHeartbeats 2000000 in
theorem rt5 (x : Nat) (t : ByteArray) (r1 r2 : ByteArray) (r3 r4 : Bool) (r5 r6 : Int) (r7 r8 : Bool) (r9 r10 : Int) (r11 r12 : Bool) (er pl : Int) (w : World) (B : Bool) (HZ : ∀ W, Calls Tryz.prog 17 #[(.agg #[.int .i64 5, .float .f64 x, .string t, .string r1, .string r2, .bool r3, .bool r4, .int .i64 r5, .int .i64 r6, .bool r7, .bool r8, .int .i64 r9, .int .i64 r10, .bool r11, .bool r12, .int .i64 er, .int .i64 pl])] W fun e w' => e = .returned (.bool B) ∧ Fr noB W w') :
    Calls Tryz.prog 7 #[(.agg #[.int .i64 5, .float .f64 x, .string t, .string r1, .string r2, .bool r3, .bool r4, .int .i64 r5, .int .i64 r6, .bool r7, .bool r8, .int .i64 r9, .int .i64 r10, .bool r11, .bool r12, .int .i64 er, .int .i64 pl])] w fun e w' => e = .returned (tpv (B && decide ((eT er).size ≠ 0)) (eT er)) ∧ Fr noB w w' := by
  have HX := rerrText_any er
  obtain ⟨V, hV⟩ : ∃ V, tpv (B && decide ((eT er).size ≠ 0)) (eT er) = V := ⟨_, rfl⟩
  rw [hV]
  have HV0 : Hid (B = false → V = .tuple #[.string ⟨#[]⟩, .int .i64 1]) := fun e => by rw [← hV, e]; rfl
  have HV1 : Hid (B = true → ((eT er).size ≠ 0 → V = .tuple #[.string (eT er), .int .i64 0]) ∧ ((eT er).size = 0 → V = .tuple #[.string ⟨#[]⟩, .int .i64 1])) := fun e => ⟨fun f => by rw [← hV, e, decide_eq_true f]; rfl, fun f => by rw [← hV, e, decide_eq_false (by omega)]; rfl⟩
  clear hV
  generalize eT er = T at *
  go_enter Tryz.func7, Tryz.ntmps7
  go_upto_region 1 with fail
  obtain ⟨W0, hW0⟩ : ∃ W0, w.alloc (.cells #[.int .i64 5, .float .f64 x, .string t, .string r1, .string r2, .bool r3, .bool r4, .int .i64 r5, .int .i64 r6, .bool r7, .bool r8, .int .i64 r9, .int .i64 r10, .bool r11, .bool r12, .int .i64 er, .int .i64 pl] 28 (0, 0)) = W0 := ⟨_, rfl⟩
  have hA : W0.heap[w.heap.size]? = some (.cells #[.int .i64 5, .float .f64 x, .string t, .string r1, .string r2, .bool r3, .bool r4, .int .i64 r5, .int .i64 r6, .bool r7, .bool r8, .int .i64 r9, .int .i64 r10, .bool r11, .bool r12, .int .i64 er, .int .i64 pl] 28 (0, 0)) := by rw [← hW0]; exact heap_alloc_new w _
  have HF : Hid (Fr noB w W0) := by rw [← hW0]; exact (Fr.refl noB w).alloc _
  rw [hW0]
  clear hW0
  have HA : Hid _ := hA
  
  generalize w.heap.size = H at *
  clear hA
  cases B with
  | false =>
    have HV : Hid (V = .tuple #[.string ⟨#[]⟩, .int .i64 1]) := HV0.out rfl
    clear HV0 HV1
    go_wp2_with (first
      | (refine wpList_load_row rfl 28 (.tmp 1) rfl H rfl 28 #[.int .i64 5, .float .f64 x, .string t, .string r1, .string r2, .bool r3, .bool r4, .int .i64 r5, .int .i64 r6, .bool r7, .bool r8, .int .i64 r9, .int .i64 r10, .bool r11, .bool r12, .int .i64 er, .int .i64 pl] (0, 0) _ HA.out Tryz.underlying28 rfl info_lx ?_)
      | (go_at_call 17; refine (HZ _).mono ?_; rintro e w1 ⟨rfl, hF1⟩; have HA2 : Hid _ := hF1.obj HA.out id; have e0 := cellOf (o := 0) HA2.out rfl))
    go_ret2
    rw [HV.out]
    exact ⟨rfl, HF.out.trans hF1⟩
  | true =>
    have HV1' : Hid _ := HV1.out rfl
    clear HV0 HV1
    by_cases hT : T.size = 0
    · have HV : Hid _ := HV1'.out.2 hT
      have he := emp_yes T hT
      clear HV1'
      go_wp2_with (first
        | (refine wpList_load_row rfl 28 (.tmp 1) rfl H rfl 28 #[.int .i64 5, .float .f64 x, .string t, .string r1, .string r2, .bool r3, .bool r4, .int .i64 r5, .int .i64 r6, .bool r7, .bool r8, .int .i64 r9, .int .i64 r10, .bool r11, .bool r12, .int .i64 er, .int .i64 pl] (0, 0) _ HA.out Tryz.underlying28 rfl info_lx ?_)
        | (go_at_call 17; refine (HZ _).mono ?_; rintro e w1 ⟨rfl, hF1⟩; have HA2 : Hid _ := hF1.obj HA.out id; have e0 := cellOf (o := 0) HA2.out rfl; have e15 := cellOf (o := 15) HA2.out rfl)
        | (go_at_call 20; refine (HX _).mono ?_; rintro e w2 ⟨rfl, hF2⟩))
      go_ret2
      rw [HV.out]
      exact ⟨rfl, HF.out.trans (hF1.trans hF2)⟩
    · have HV : Hid _ := HV1'.out.1 hT
      have he := emp_no T (by omega)
      clear HV1'
      go_wp2_with (first
        | (refine wpList_load_row rfl 28 (.tmp 1) rfl H rfl 28 #[.int .i64 5, .float .f64 x, .string t, .string r1, .string r2, .bool r3, .bool r4, .int .i64 r5, .int .i64 r6, .bool r7, .bool r8, .int .i64 r9, .int .i64 r10, .bool r11, .bool r12, .int .i64 er, .int .i64 pl] (0, 0) _ HA.out Tryz.underlying28 rfl info_lx ?_)
        | (go_at_call 17; refine (HZ _).mono ?_; rintro e w1 ⟨rfl, hF1⟩; have HA2 : Hid _ := hF1.obj HA.out id; have e0 := cellOf (o := 0) HA2.out rfl; have e15 := cellOf (o := 15) HA2.out rfl)
        | (go_at_call 20; refine (HX _).mono ?_; rintro e w2 ⟨rfl, hF2⟩))
      go_ret2
      rw [HV.out]
      exact ⟨rfl, HF.out.trans (hF1.trans hF2)⟩
set_option maxRecDepth 100000 in
set_option maxHeartbeats 2000000 in
theorem rt0 (k : Int) (x : Nat) (t : ByteArray) (r1 r2 : ByteArray) (r3 r4 : Bool) (r5 r6 : Int) (r7 r8 : Bool) (r9 r10 : Int) (r11 r12 : Bool) (er pl : Int) (w : World) (k1 : ¬ k = 1) (k2 : ¬ k = 2) (k3 : ¬ k = 3) (k4 : ¬ k = 4) (k5 : ¬ k = 5) (k6 : ¬ k = 6) (HZ : ∀ W, Calls Tryz.prog 17 #[(.agg #[.int .i64 k, .float .f64 x, .string t, .string r1, .string r2, .bool r3, .bool r4, .int .i64 r5, .int .i64 r6, .bool r7, .bool r8, .int .i64 r9, .int .i64 r10, .bool r11, .bool r12, .int .i64 er, .int .i64 pl])] W fun e w' => (∃ b, e = .returned (.bool b)) ∧ Fr noB W w') :
    Calls Tryz.prog 7 #[(.agg #[.int .i64 k, .float .f64 x, .string t, .string r1, .string r2, .bool r3, .bool r4, .int .i64 r5, .int .i64 r6, .bool r7, .bool r8, .int .i64 r9, .int .i64 r10, .bool r11, .bool r12, .int .i64 er, .int .i64 pl])] w fun e w' => e = .returned (.tuple #[.string ⟨#[]⟩, .int .i64 1]) ∧ Fr noB w w' := by
  go_enter Tryz.func7, Tryz.ntmps7
  go_upto_region 1 with fail
  obtain ⟨W0, hW0⟩ : ∃ W0, w.alloc (.cells #[.int .i64 k, .float .f64 x, .string t, .string r1, .string r2, .bool r3, .bool r4, .int .i64 r5, .int .i64 r6, .bool r7, .bool r8, .int .i64 r9, .int .i64 r10, .bool r11, .bool r12, .int .i64 er, .int .i64 pl] 28 (0, 0)) = W0 := ⟨_, rfl⟩
  have hA : W0.heap[w.heap.size]? = some (.cells #[.int .i64 k, .float .f64 x, .string t, .string r1, .string r2, .bool r3, .bool r4, .int .i64 r5, .int .i64 r6, .bool r7, .bool r8, .int .i64 r9, .int .i64 r10, .bool r11, .bool r12, .int .i64 er, .int .i64 pl] 28 (0, 0)) := by rw [← hW0]; exact heap_alloc_new w _
  have HF : Hid (Fr noB w W0) := by rw [← hW0]; exact (Fr.refl noB w).alloc _
  rw [hW0]
  clear hW0
  have HA : Hid _ := hA
  
  generalize w.heap.size = H at *
  clear hA
  go_wp2_with (first
    | (refine wpList_load_row rfl 28 (.tmp 1) rfl H rfl 28 #[.int .i64 k, .float .f64 x, .string t, .string r1, .string r2, .bool r3, .bool r4, .int .i64 r5, .int .i64 r6, .bool r7, .bool r8, .int .i64 r9, .int .i64 r10, .bool r11, .bool r12, .int .i64 er, .int .i64 pl] (0, 0) _ HA.out Tryz.underlying28 rfl info_lx ?_)
    | (go_at_call 17; refine (HZ _).mono ?_; rintro e w1 ⟨⟨b, rfl⟩, hF1⟩; have HA2 : Hid _ := hF1.obj HA.out id; have e0 := cellOf (o := 0) HA2.out rfl))
  all_goals
    go_ret2
    exact ⟨rfl, HF.out.trans hF1⟩
#print axioms rt0
#print axioms rt3
end Go.Proofs.YtkohohjpnlhioaaGreatDoor
/- A token's text: the document's. -/
namespace Go.Proofs.YtkohohjpnlhioaaGreatDoor
open Go.RowKit Go.Shelf

set_option maxRecDepth 100000 in
set_option maxHeartbeats 2000000 in
theorem rt1 (x : Nat) (t : ByteArray) (r1 r2 : ByteArray) (r3 r4 : Bool) (r5 r6 : Int) (r7 r8 : Bool) (r9 r10 : Int) (r11 r12 : Bool) (er pl : Int) (w : World) (hx : x < 18446744073709551616) (hN : NTab w) (B : Bool) (HZ : ∀ W, Calls Tryz.prog 17 #[(.agg #[.int .i64 1, .float .f64 x, .string t, .string r1, .string r2, .bool r3, .bool r4, .int .i64 r5, .int .i64 r6, .bool r7, .bool r8, .int .i64 r9, .int .i64 r10, .bool r11, .bool r12, .int .i64 er, .int .i64 pl])] W fun e w' => e = .returned (.bool B) ∧ Fr noB W w') :
    Calls Tryz.prog 7 #[(.agg #[.int .i64 1, .float .f64 x, .string t, .string r1, .string r2, .bool r3, .bool r4, .int .i64 r5, .int .i64 r6, .bool r7, .bool r8, .int .i64 r9, .int .i64 r10, .bool r11, .bool r12, .int .i64 er, .int .i64 pl])] w fun e w' => e = .returned (tpv (B && finB x && decide (x < 9223372036854775808)) (baL (ttL x))) ∧ Fr noB w w' := by
  obtain ⟨V, hV⟩ : ∃ V, tpv (B && finB x && decide (x < 9223372036854775808)) (baL (ttL x)) = V := ⟨_, rfl⟩
  rw [hV]
  have HV0 : Hid (B = false → V = .tuple #[.string ⟨#[]⟩, .int .i64 1]) := fun e => by rw [← hV, e]; rfl
  have HV1 : Hid (B = true → finB x = false → V = .tuple #[.string ⟨#[]⟩, .int .i64 1]) := fun e f => by rw [← hV, e, f]; rfl
  have HV2 : Hid (B = true → finB x = true → 9223372036854775808 ≤ x → V = .tuple #[.string ⟨#[]⟩, .int .i64 1]) := fun e f g => by rw [← hV, e, f, decide_eq_false (by omega)]; rfl
  have HV3 : Hid (B = true → finB x = true → x < 9223372036854775808 → V = .tuple #[.string (baL (ttL x)), .int .i64 0]) := fun e f g => by rw [← hV, e, f, decide_eq_true g]; rfl
  clear hV
  have HX : Hid (∀ W, Fr noB w W → Calls Tryz.prog 18 #[.float .f64 x] W fun e w' => e = .returned (.tuple #[.string (baL (ttL x)), .int .i64 (dgN x)]) ∧ Fr noB W w') := fun W hW => rtext_any x W hx (hN.fr hW)
  clear hN
  go_enter Tryz.func7, Tryz.ntmps7
  go_upto_region 1 with fail
  obtain ⟨W0, hW0⟩ : ∃ W0, w.alloc (.cells #[.int .i64 1, .float .f64 x, .string t, .string r1, .string r2, .bool r3, .bool r4, .int .i64 r5, .int .i64 r6, .bool r7, .bool r8, .int .i64 r9, .int .i64 r10, .bool r11, .bool r12, .int .i64 er, .int .i64 pl] 28 (0, 0)) = W0 := ⟨_, rfl⟩
  have hA : W0.heap[w.heap.size]? = some (.cells #[.int .i64 1, .float .f64 x, .string t, .string r1, .string r2, .bool r3, .bool r4, .int .i64 r5, .int .i64 r6, .bool r7, .bool r8, .int .i64 r9, .int .i64 r10, .bool r11, .bool r12, .int .i64 er, .int .i64 pl] 28 (0, 0)) := by rw [← hW0]; exact heap_alloc_new w _
  have HF : Hid (Fr noB w W0) := by rw [← hW0]; exact (Fr.refl noB w).alloc _
  rw [hW0]
  clear hW0
  have HA : Hid _ := hA
  
  generalize w.heap.size = H at *
  clear hA
  cases B with
  | false =>
    have HV : Hid (V = .tuple #[.string ⟨#[]⟩, .int .i64 1]) := HV0.out rfl
    clear HV0 HV1 HV2 HV3 HX
    go_wp2_with (first
      | (refine wpList_load_row rfl 28 (.tmp 1) rfl H rfl 28 #[.int .i64 1, .float .f64 x, .string t, .string r1, .string r2, .bool r3, .bool r4, .int .i64 r5, .int .i64 r6, .bool r7, .bool r8, .int .i64 r9, .int .i64 r10, .bool r11, .bool r12, .int .i64 er, .int .i64 pl] (0, 0) _ HA.out Tryz.underlying28 rfl info_lx ?_)
      | (go_at_call 17; refine (HZ _).mono ?_; rintro e w1 ⟨rfl, hF1⟩; have HA2 : Hid _ := hF1.obj HA.out id; have e0 := cellOf (o := 0) HA2.out rfl))
    go_ret2
    rw [HV.out]
    exact ⟨rfl, HF.out.trans hF1⟩
  | true =>
    have HV1' : Hid _ := HV1.out rfl
    have HV2' : Hid _ := HV2.out rfl
    have HV3' : Hid _ := HV3.out rfl
    clear HV0 HV1 HV2 HV3
    cases hf : finB x with
    | false =>
      have HV : Hid (V = .tuple #[.string ⟨#[]⟩, .int .i64 1]) := HV1'.out hf
      rw [show dgN x = 80 from if_pos hf] at HX
      generalize baL (ttL x) = T at *
      clear hf HV1' HV2' HV3'
      go_upto_region 6 with (first
        | (refine wpList_load_row rfl 28 (.tmp 1) rfl H rfl 28 #[.int .i64 1, .float .f64 x, .string t, .string r1, .string r2, .bool r3, .bool r4, .int .i64 r5, .int .i64 r6, .bool r7, .bool r8, .int .i64 r9, .int .i64 r10, .bool r11, .bool r12, .int .i64 er, .int .i64 pl] (0, 0) _ HA.out Tryz.underlying28 rfl info_lx ?_)
        | (go_at_call 17; refine (HZ _).mono ?_; rintro e w1 ⟨rfl, hF1⟩; have HA2 : Hid _ := hF1.obj HA.out id; have e0 := cellOf (o := 0) HA2.out rfl; have e1 := cellOf (o := 1) HA2.out rfl)
        | (go_at_call 18; refine (HX.out _ (HF.out.trans hF1)).mono ?_; rintro e w2 ⟨rfl, hF2⟩; have HA3 : Hid _ := hF2.obj HA2.out id; have d1 := cellOf (o := 1) HA3.out rfl))
      go_wp2_with fail
      go_ret2
      rw [HV.out]
      exact ⟨rfl, HF.out.trans (hF1.trans hF2)⟩
    | true =>
      rw [show dgN x = 0 from if_neg (by rw [hf]; simp)] at HX
      have hg := geq_fin x hx hf
      have he := feq0 x hf
      have hl := lt_zero x hx (fin_of hf)
      have he : (FloatKind.f64.format.order x 0 == some .eq) = decide (x % 9223372036854775808 = 0) := he
      have hg : (FloatKind.f64.format.order x 0 == some .gt || FloatKind.f64.format.order x 0 == some .eq) = decide (x ≤ 9223372036854775808) := hg
      by_cases h0 : x = 0
      · have HV : Hid _ := HV3'.out hf (by omega)
        have rq : ∀ W, (binOp .quo 22 (.float .f64 4607182418800017408) (.float .f64 x)).run Tryz.prog W = .ok (.float .f64 9218868437227405312) W := fun W => by rw [h0]; exact quo_p W
        have ho : FloatKind.f64.format.order x 0 = some .eq := by rw [decide_eq_true (show x % 9223372036854775808 = 0 by omega)] at he; exact eq_of_beq he
        have hp : FloatKind.f64.format.order 9218868437227405312 0 = some .gt := by decide +kernel
        clear he hg hl
        generalize baL (ttL x) = T at *
        clear h0
        clear hf HV1' HV2' HV3'
        go_upto_region 6 with (first
          | (refine wpList_load_row rfl 28 (.tmp 1) rfl H rfl 28 #[.int .i64 1, .float .f64 x, .string t, .string r1, .string r2, .bool r3, .bool r4, .int .i64 r5, .int .i64 r6, .bool r7, .bool r8, .int .i64 r9, .int .i64 r10, .bool r11, .bool r12, .int .i64 er, .int .i64 pl] (0, 0) _ HA.out Tryz.underlying28 rfl info_lx ?_)
          | (go_at_call 17; refine (HZ _).mono ?_; rintro e w1 ⟨rfl, hF1⟩; have HA2 : Hid _ := hF1.obj HA.out id; have e0 := cellOf (o := 0) HA2.out rfl; have e1 := cellOf (o := 1) HA2.out rfl)
          | (go_at_call 18; refine (HX.out _ (HF.out.trans hF1)).mono ?_; rintro e w2 ⟨rfl, hF2⟩; have HA3 : Hid _ := hF2.obj HA2.out id; have d1 := cellOf (o := 1) HA3.out rfl))
        go_wp2_with fail
        go_ret2
        rw [HV.out]
        exact ⟨rfl, HF.out.trans (hF1.trans hF2)⟩
      · by_cases h1 : x = 9223372036854775808
        · have HV : Hid _ := HV2'.out hf (by omega)
          have rq : ∀ W, (binOp .quo 22 (.float .f64 4607182418800017408) (.float .f64 x)).run Tryz.prog W = .ok (.float .f64 18442240474082181120) W := fun W => by rw [h1]; exact quo_m W
          have ho : FloatKind.f64.format.order x 0 = some .eq := by rw [decide_eq_true (show x % 9223372036854775808 = 0 by omega)] at he; exact eq_of_beq he
          have hp : FloatKind.f64.format.order 18442240474082181120 0 = some .lt := by decide +kernel
          clear he hg hl
          generalize baL (ttL x) = T at *
          clear h0 h1
          clear hf HV1' HV2' HV3'
          go_upto_region 6 with (first
            | (refine wpList_load_row rfl 28 (.tmp 1) rfl H rfl 28 #[.int .i64 1, .float .f64 x, .string t, .string r1, .string r2, .bool r3, .bool r4, .int .i64 r5, .int .i64 r6, .bool r7, .bool r8, .int .i64 r9, .int .i64 r10, .bool r11, .bool r12, .int .i64 er, .int .i64 pl] (0, 0) _ HA.out Tryz.underlying28 rfl info_lx ?_)
            | (go_at_call 17; refine (HZ _).mono ?_; rintro e w1 ⟨rfl, hF1⟩; have HA2 : Hid _ := hF1.obj HA.out id; have e0 := cellOf (o := 0) HA2.out rfl; have e1 := cellOf (o := 1) HA2.out rfl)
            | (go_at_call 18; refine (HX.out _ (HF.out.trans hF1)).mono ?_; rintro e w2 ⟨rfl, hF2⟩; have HA3 : Hid _ := hF2.obj HA2.out id; have d1 := cellOf (o := 1) HA3.out rfl))
          go_wp2_with fail
          go_ret2
          rw [HV.out]
          exact ⟨rfl, HF.out.trans (hF1.trans hF2)⟩
        · by_cases h2 : x < 9223372036854775808
          · have HV : Hid _ := HV3'.out hf h2
            have ho : FloatKind.f64.format.order x 0 = some .gt := by
              rw [decide_eq_false (show ¬ x % 9223372036854775808 = 0 by omega)] at he
              rw [he, decide_eq_true (show x ≤ 9223372036854775808 by omega), Bool.or_false] at hg
              exact eq_of_beq hg
            clear he hg hl
            generalize baL (ttL x) = T at *
            clear hf HV1' HV2' HV3'
            go_upto_region 6 with (first
              | (refine wpList_load_row rfl 28 (.tmp 1) rfl H rfl 28 #[.int .i64 1, .float .f64 x, .string t, .string r1, .string r2, .bool r3, .bool r4, .int .i64 r5, .int .i64 r6, .bool r7, .bool r8, .int .i64 r9, .int .i64 r10, .bool r11, .bool r12, .int .i64 er, .int .i64 pl] (0, 0) _ HA.out Tryz.underlying28 rfl info_lx ?_)
              | (go_at_call 17; refine (HZ _).mono ?_; rintro e w1 ⟨rfl, hF1⟩; have HA2 : Hid _ := hF1.obj HA.out id; have e0 := cellOf (o := 0) HA2.out rfl; have e1 := cellOf (o := 1) HA2.out rfl)
              | (go_at_call 18; refine (HX.out _ (HF.out.trans hF1)).mono ?_; rintro e w2 ⟨rfl, hF2⟩; have HA3 : Hid _ := hF2.obj HA2.out id; have d1 := cellOf (o := 1) HA3.out rfl))
            go_wp2_with fail
            go_ret2
            rw [HV.out]
            exact ⟨rfl, HF.out.trans (hF1.trans hF2)⟩
          · have HV : Hid _ := HV2'.out hf (by omega)
            have ho : FloatKind.f64.format.order x 0 = some .lt := by rw [decide_eq_true (show 9223372036854775808 < x by omega)] at hl; exact eq_of_beq hl
            clear he hg hl
            generalize baL (ttL x) = T at *
            clear hf HV1' HV2' HV3'
            go_upto_region 6 with (first
              | (refine wpList_load_row rfl 28 (.tmp 1) rfl H rfl 28 #[.int .i64 1, .float .f64 x, .string t, .string r1, .string r2, .bool r3, .bool r4, .int .i64 r5, .int .i64 r6, .bool r7, .bool r8, .int .i64 r9, .int .i64 r10, .bool r11, .bool r12, .int .i64 er, .int .i64 pl] (0, 0) _ HA.out Tryz.underlying28 rfl info_lx ?_)
              | (go_at_call 17; refine (HZ _).mono ?_; rintro e w1 ⟨rfl, hF1⟩; have HA2 : Hid _ := hF1.obj HA.out id; have e0 := cellOf (o := 0) HA2.out rfl; have e1 := cellOf (o := 1) HA2.out rfl)
              | (go_at_call 18; refine (HX.out _ (HF.out.trans hF1)).mono ?_; rintro e w2 ⟨rfl, hF2⟩; have HA3 : Hid _ := hF2.obj HA2.out id; have d1 := cellOf (o := 1) HA3.out rfl))
            go_wp2_with fail
            go_ret2
            rw [HV.out]
            exact ⟨rfl, HF.out.trans (hF1.trans hF2)⟩
#print axioms rt1
end Go.Proofs.YtkohohjpnlhioaaGreatDoor
/- A token's text: the document's. -/
namespace Go.Proofs.YtkohohjpnlhioaaGreatDoor
open Go.RowKit Go.Shelf


theorem sg_pos (i : Nat) (h : i < 21) : 1 ≤ (sg i).size := by
  have e : ∀ k : _root_.Fin 21, 1 ≤ (sg k.val).size := by decide
  exact e ⟨i, h⟩
set_option maxRecDepth 100000 in
set_option maxHeartbeats 2000000 in
theorem rt6 (x : Nat) (t : ByteArray) (r1 r2 : ByteArray) (r3 r4 : Bool) (r5 r6 : Int) (r7 r8 : Bool) (r9 r10 : Int) (r11 r12 : Bool) (er pl : Int) (w : World) (hz : t.size ≤ 140737488355328) (B : Bool) (HZ : ∀ W, Calls Tryz.prog 17 #[(.agg #[.int .i64 6, .float .f64 x, .string t, .string r1, .string r2, .bool r3, .bool r4, .int .i64 r5, .int .i64 r6, .bool r7, .bool r8, .int .i64 r9, .int .i64 r10, .bool r11, .bool r12, .int .i64 er, .int .i64 pl])] W fun e w' => e = .returned (.bool B) ∧ Fr noB W w') :
    Calls Tryz.prog 7 #[(.agg #[.int .i64 6, .float .f64 x, .string t, .string r1, .string r2, .bool r3, .bool r4, .int .i64 r5, .int .i64 r6, .bool r7, .bool r8, .int .i64 r9, .int .i64 r10, .bool r11, .bool r12, .int .i64 er, .int .i64 pl])] w fun e w' => e = .returned (tpv (B && isS t) t) ∧ Fr noB w w' := by
  have HX := fun W => rsign_lx t W hz
  obtain ⟨V, hV⟩ : ∃ V, tpv (B && isS t) t = V := ⟨_, rfl⟩
  rw [hV]
  have HV0 : Hid (B = false → V = .tuple #[.string ⟨#[]⟩, .int .i64 1]) := fun e => by rw [← hV, e]; rfl
  have HV1 : Hid (B = true → (isS t = true → V = .tuple #[.string t, .int .i64 0]) ∧ (isS t = false → V = .tuple #[.string ⟨#[]⟩, .int .i64 1])) := fun e => ⟨fun f => by rw [← hV, e, f]; rfl, fun f => by rw [← hV, e, f]; rfl⟩
  clear hV
  have HE : Hid (t.size = 0 → isS t = false) := fun h => isS_no (fun i hi e => by have := sg_pos i hi; rw [← e] at this; omega)
  generalize isS t = N at *
  go_enter Tryz.func7, Tryz.ntmps7
  go_upto_region 1 with fail
  obtain ⟨W0, hW0⟩ : ∃ W0, w.alloc (.cells #[.int .i64 6, .float .f64 x, .string t, .string r1, .string r2, .bool r3, .bool r4, .int .i64 r5, .int .i64 r6, .bool r7, .bool r8, .int .i64 r9, .int .i64 r10, .bool r11, .bool r12, .int .i64 er, .int .i64 pl] 28 (0, 0)) = W0 := ⟨_, rfl⟩
  have hA : W0.heap[w.heap.size]? = some (.cells #[.int .i64 6, .float .f64 x, .string t, .string r1, .string r2, .bool r3, .bool r4, .int .i64 r5, .int .i64 r6, .bool r7, .bool r8, .int .i64 r9, .int .i64 r10, .bool r11, .bool r12, .int .i64 er, .int .i64 pl] 28 (0, 0)) := by rw [← hW0]; exact heap_alloc_new w _
  have HF : Hid (Fr noB w W0) := by rw [← hW0]; exact (Fr.refl noB w).alloc _
  rw [hW0]
  clear hW0
  have HA : Hid _ := hA
  
  generalize w.heap.size = H at *
  clear hA
  cases B with
  | false =>
    have HV : Hid (V = .tuple #[.string ⟨#[]⟩, .int .i64 1]) := HV0.out rfl
    clear HV0 HV1
    go_wp2_with (first
      | (refine wpList_load_row rfl 28 (.tmp 1) rfl H rfl 28 #[.int .i64 6, .float .f64 x, .string t, .string r1, .string r2, .bool r3, .bool r4, .int .i64 r5, .int .i64 r6, .bool r7, .bool r8, .int .i64 r9, .int .i64 r10, .bool r11, .bool r12, .int .i64 er, .int .i64 pl] (0, 0) _ HA.out Tryz.underlying28 rfl info_lx ?_)
      | (go_at_call 17; refine (HZ _).mono ?_; rintro e w1 ⟨rfl, hF1⟩; have HA2 : Hid _ := hF1.obj HA.out id; have e0 := cellOf (o := 0) HA2.out rfl))
    go_ret2
    rw [HV.out]
    exact ⟨rfl, HF.out.trans hF1⟩
  | true =>
    have HV1' : Hid _ := HV1.out rfl
    clear HV0 HV1
    by_cases hT : t.size = 0
    · have HV : Hid _ := HV1'.out.2 (HE.out hT)
      have he := emp_yes t hT
      clear HV1' HE
      go_wp2_with (first
        | (refine wpList_load_row rfl 28 (.tmp 1) rfl H rfl 28 #[.int .i64 6, .float .f64 x, .string t, .string r1, .string r2, .bool r3, .bool r4, .int .i64 r5, .int .i64 r6, .bool r7, .bool r8, .int .i64 r9, .int .i64 r10, .bool r11, .bool r12, .int .i64 er, .int .i64 pl] (0, 0) _ HA.out Tryz.underlying28 rfl info_lx ?_)
        | (go_at_call 17; refine (HZ _).mono ?_; rintro e w1 ⟨rfl, hF1⟩; have HA2 : Hid _ := hF1.obj HA.out id; have e0 := cellOf (o := 0) HA2.out rfl; have e2 := cellOf (o := 2) HA2.out rfl))
      go_quiet (fail)
      go_wp2_with fail
      go_ret2
      rw [HV.out]
      exact ⟨rfl, HF.out.trans (hF1.drewN _)⟩
    · have he := emp_no t (by omega)
      clear HE
      go_wp2_with (first
        | (refine wpList_load_row rfl 28 (.tmp 1) rfl H rfl 28 #[.int .i64 6, .float .f64 x, .string t, .string r1, .string r2, .bool r3, .bool r4, .int .i64 r5, .int .i64 r6, .bool r7, .bool r8, .int .i64 r9, .int .i64 r10, .bool r11, .bool r12, .int .i64 er, .int .i64 pl] (0, 0) _ HA.out Tryz.underlying28 rfl info_lx ?_)
        | (go_at_call 17; refine (HZ _).mono ?_; rintro e w1 ⟨rfl, hF1⟩; have HA2 : Hid _ := hF1.obj HA.out id; have e0 := cellOf (o := 0) HA2.out rfl; have e2 := cellOf (o := 2) HA2.out rfl))
      go_region_with (go_at_call 21; refine (HX _).mono ?_; rintro e w2 ⟨⟨T0, rfl, hT0⟩, hF2⟩; have hT1 := hT0 (by omega); have HA3 : Hid _ := hF2.obj (HA2.out) id; have d2 := cellOf (o := 2) HA3.out rfl)
      all_goals
        cases N with
        | true =>
          have HV : Hid _ := HV1'.out.1 rfl
          go_wp2_with fail
          go_ret2
          rw [HV.out]
          exact ⟨rfl, HF.out.trans (hF1.trans (Fr.trans (by first | exact ((Fr.refl noB _).drewN _).drew | exact (Fr.refl noB _).drew | exact Fr.refl noB _) hF2))⟩
        | false =>
          have HV : Hid _ := HV1'.out.2 rfl
          go_wp2_with fail
          go_ret2
          rw [HV.out]
          exact ⟨rfl, HF.out.trans (hF1.trans (Fr.trans (by first | exact ((Fr.refl noB _).drewN _).drew | exact (Fr.refl noB _).drew | exact Fr.refl noB _) hF2))⟩
#print axioms rt6
end Go.Proofs.YtkohohjpnlhioaaGreatDoor
