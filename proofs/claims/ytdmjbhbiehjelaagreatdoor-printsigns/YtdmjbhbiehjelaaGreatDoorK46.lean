/- A token's text: the program's. -/
import Derived.Test.YtdmjbhbiehjelaaGreatDoorK17
import Derived.Test.YtdmjbhbiehjelaaGreatDoorLFx
import Derived.Test.YtdmjbhbiehjelaaGreatDoorLNm
import Derived.Test.YtdmjbhbiehjelaaGreatDoorK38
import Derived.Test.YtdmjbhbiehjelaaGreatDoorK40
import Derived.Test.YtdmjbhbiehjelaaGreatDoorLQu
import Derived.Test.YtdmjbhbiehjelaaGreatDoorK45
import Derived.Deep.Cut
import Derived.Test.YtdmjbhbiehjelaaGreatDoorK01
import Derived.Test.YtdmjbhbiehjelaaGreatDoorPBr
import Derived.Laws.Tables
namespace Go.Proofs.YtdmjbhbiehjelaaGreatDoor
open Go.RowKit Go.Shelf

/-- What Text answers: the text, or ErrArg. -/
def tpv (c : Bool) (T : ByteArray) : Value := if c = true then .tuple #[.string T, .int .i64 0] else .tuple #[.string ⟨#[]⟩, .int .i64 1]
theorem emp0 (T : ByteArray) : T.toList.isEmpty = decide (T.size = 0) := by
  by_cases h : T.size = 0
  · rw [emp_yes T h, decide_eq_true h]
  · rw [emp_no T (by omega), decide_eq_false h]
/-- A reference between brackets, or nothing. -/
def brk (r1 r2 : ByteArray) (r3 r4 : Bool) (r5 r6 : Int) (r7 r8 : Bool) (r9 r10 : Int) (r11 r12 : Bool) : ByteArray := if chkF r1 r2 r3 r4 r5 r6 r9 r10 r11 r12 = 0 then (⟨#[91]⟩ : ByteArray) ++ txtB r1 r2 r3 r4 r5 r6 r7 r8 r9 r10 r11 r12 ++ ⟨#[93]⟩ else ⟨#[]⟩
set_option maxRecDepth 100000 in
set_option maxHeartbeats 2000000 in
theorem bracket_tx (r1 r2 : ByteArray) (r3 r4 : Bool) (r5 r6 : Int) (r7 r8 : Bool) (r9 r10 : Int) (r11 r12 : Bool) (w : World) (hU : UTab_r w) : Calls Tryz.prog 210 #[(.agg #[.string r1, .string r2, .bool r3, .bool r4, .int .i64 r5, .int .i64 r6, .bool r7, .bool r8, .int .i64 r9, .int .i64 r10, .bool r11, .bool r12])] w fun e w' => e = .returned (.string (brk r1 r2 r3 r4 r5 r6 r7 r8 r9 r10 r11 r12)) ∧ Fr noB w w' := by
  have H1 : Hid (∀ W, Fr noB w W → Calls Tryz.prog 44 #[(.agg #[.string r1, .string r2, .bool r3, .bool r4, .int .i64 r5, .int .i64 r6, .bool r7, .bool r8, .int .i64 r9, .int .i64 r10, .bool r11, .bool r12])] W fun e w' => e = .returned (.tuple #[.string (txtB r1 r2 r3 r4 r5 r6 r7 r8 r9 r10 r11 r12), .int .i64 (chkF r1 r2 r3 r4 r5 r6 r9 r10 r11 r12)]) ∧ Fr noB W w') := fun W hW => reftext_any r1 r2 r3 r4 r5 r6 r7 r8 r9 r10 r11 r12 W (hU.fr hW)
  have hz := txtB_size r1 r2 r3 r4 r5 r6 r7 r8 r9 r10 r11 r12
  obtain ⟨V, hV⟩ : ∃ V, brk r1 r2 r3 r4 r5 r6 r7 r8 r9 r10 r11 r12 = V := ⟨_, rfl⟩
  have HV1 : Hid (chkF r1 r2 r3 r4 r5 r6 r9 r10 r11 r12 = 0 → V = (⟨#[91]⟩ : ByteArray) ++ txtB r1 r2 r3 r4 r5 r6 r7 r8 r9 r10 r11 r12 ++ ⟨#[93]⟩) := fun e => by rw [← hV]; unfold brk; rw [if_pos e]
  have HV2 : Hid (¬ chkF r1 r2 r3 r4 r5 r6 r9 r10 r11 r12 = 0 → V = ⟨#[]⟩) := fun e => by rw [← hV]; unfold brk; rw [if_neg e]
  rw [hV]
  clear hV
  generalize txtB r1 r2 r3 r4 r5 r6 r7 r8 r9 r10 r11 r12 = T at *
  generalize chkF r1 r2 r3 r4 r5 r6 r9 r10 r11 r12 = E at *
  have z1 : (⟨#[91]⟩ : ByteArray).size = 1 := rfl
  have z2 : (⟨#[93]⟩ : ByteArray).size = 1 := rfl
  clear hU
  go_enter Tryz.func210, Tryz.ntmps210
  go_upto_region 1 with fail
  obtain ⟨W0, hW0⟩ : ∃ W0, w.alloc (.cells #[.string r1, .string r2, .bool r3, .bool r4, .int .i64 r5, .int .i64 r6, .bool r7, .bool r8, .int .i64 r9, .int .i64 r10, .bool r11, .bool r12] 26 (0, 0)) = W0 := ⟨_, rfl⟩
  have hA : W0.heap[w.heap.size]? = some (.cells #[.string r1, .string r2, .bool r3, .bool r4, .int .i64 r5, .int .i64 r6, .bool r7, .bool r8, .int .i64 r9, .int .i64 r10, .bool r11, .bool r12] 26 (0, 0)) := by rw [← hW0]; exact heap_alloc_new w _
  have HF : Hid (Fr noB w W0) := by rw [← hW0]; exact (Fr.refl noB w).alloc _
  rw [hW0]
  clear hW0
  have HA : Hid _ := hA
  generalize w.heap.size = H at *
  clear hA
  by_cases hE : E = 0
  · subst hE
    have HV3 : Hid _ := HV1.out rfl
    clear HV1 HV2
    go_wp2_with (first
      | (refine wpList_load_row rfl 26 (.tmp 1) rfl H rfl 26 _ (0, 0) _ HA.out Tryz.underlying26 rfl info_rf ?_)
      | (go_at_call 44; refine (H1.out _ HF.out).mono ?_; rintro e w1 ⟨rfl, hF1⟩))
    go_ret
    rw [HV3.out]
    exact ⟨rfl, HF.out.trans hF1⟩
  · go_wp2_with (first
      | (refine wpList_load_row rfl 26 (.tmp 1) rfl H rfl 26 _ (0, 0) _ HA.out Tryz.underlying26 rfl info_rf ?_)
      | (go_at_call 44; refine (H1.out _ HF.out).mono ?_; rintro e w1 ⟨rfl, hF1⟩))
    go_ret
    rw [HV2.out hE]
    exact ⟨rfl, HF.out.trans hF1⟩
set_option maxRecDepth 100000 in
set_option maxHeartbeats 2000000 in
theorem wr1n (x : Nat) (t : ByteArray) (r1 r2 : ByteArray) (r3 r4 : Bool) (r5 r6 : Int) (r7 r8 : Bool) (r9 r10 : Int) (r11 r12 : Bool) (er pl : Int) (w : World) (hx : x < 9223372036854775808) (hN : NTab w) : Calls Tryz.prog 168 #[(.agg #[.int .i64 1, .float .f64 x, .string t, .string r1, .string r2, .bool r3, .bool r4, .int .i64 r5, .int .i64 r6, .bool r7, .bool r8, .int .i64 r9, .int .i64 r10, .bool r11, .bool r12, .int .i64 er, .int .i64 pl])] w fun e w' => e = .returned (.string (baL (ttL x))) ∧ Fr noB w w' := by
  have HS := signbit_lx x (by omega)
  rw [decide_eq_false (show ¬ 9223372036854775808 ≤ x by omega)] at HS
  have HX : Hid (∀ W, Fr noB w W → Calls Tryz.prog 41 #[.float .f64 x] W fun e w' => e = .returned (.tuple #[.string (baL (ttL x)), .int .i64 (dgN x)]) ∧ Fr noB W w') := fun W hW => ptext_any x W (by omega) (hN.fr hW)
  generalize baL (ttL x) = T at *
  generalize dgN x = D at *
  clear hN
  go_enter Tryz.func168, Tryz.ntmps168
  go_upto_region 1 with fail
  obtain ⟨W0, hW0⟩ : ∃ W0, w.alloc (.cells #[.int .i64 1, .float .f64 x, .string t, .string r1, .string r2, .bool r3, .bool r4, .int .i64 r5, .int .i64 r6, .bool r7, .bool r8, .int .i64 r9, .int .i64 r10, .bool r11, .bool r12, .int .i64 er, .int .i64 pl] 116 (0, 0)) = W0 := ⟨_, rfl⟩
  have hA : W0.heap[w.heap.size]? = some (.cells #[.int .i64 1, .float .f64 x, .string t, .string r1, .string r2, .bool r3, .bool r4, .int .i64 r5, .int .i64 r6, .bool r7, .bool r8, .int .i64 r9, .int .i64 r10, .bool r11, .bool r12, .int .i64 er, .int .i64 pl] 116 (0, 0)) := by rw [← hW0]; exact heap_alloc_new w _
  have HF : Hid (Fr noB w W0) := by rw [← hW0]; exact (Fr.refl noB w).alloc _
  rw [hW0]
  clear hW0
  have HA : Hid _ := hA
  have c0 := cellOf (o := 0) hA rfl; have c1 := cellOf (o := 1) hA rfl
  generalize w.heap.size = H at *
  clear hA
  go_wp2_with (first
    | (go_at_call 209; refine (HS _).mono ?_; rintro e w1 ⟨rfl, rfl⟩)
    | (go_at_call 41; refine (HX.out _ HF.out).mono ?_; rintro e w2 ⟨rfl, hF2⟩))
  go_ret
  exact ⟨rfl, HF.out.trans hF2⟩
set_option maxRecDepth 100000 in
set_option maxHeartbeats 2000000 in
theorem wr1s (x : Nat) (t : ByteArray) (r1 r2 : ByteArray) (r3 r4 : Bool) (r5 r6 : Int) (r7 r8 : Bool) (r9 r10 : Int) (r11 r12 : Bool) (er pl : Int) (w : World) (h1 : 9223372036854775808 ≤ x) (hx : x < 18446744073709551616) : Calls Tryz.prog 168 #[(.agg #[.int .i64 1, .float .f64 x, .string t, .string r1, .string r2, .bool r3, .bool r4, .int .i64 r5, .int .i64 r6, .bool r7, .bool r8, .int .i64 r9, .int .i64 r10, .bool r11, .bool r12, .int .i64 er, .int .i64 pl])] w fun e w' => e = .returned (.string (⟨#[]⟩)) ∧ Fr noB w w' := by
  have HS := signbit_lx x hx
  rw [decide_eq_true h1] at HS
  go_enter Tryz.func168, Tryz.ntmps168
  go_upto_region 1 with fail
  obtain ⟨W0, hW0⟩ : ∃ W0, w.alloc (.cells #[.int .i64 1, .float .f64 x, .string t, .string r1, .string r2, .bool r3, .bool r4, .int .i64 r5, .int .i64 r6, .bool r7, .bool r8, .int .i64 r9, .int .i64 r10, .bool r11, .bool r12, .int .i64 er, .int .i64 pl] 116 (0, 0)) = W0 := ⟨_, rfl⟩
  have hA : W0.heap[w.heap.size]? = some (.cells #[.int .i64 1, .float .f64 x, .string t, .string r1, .string r2, .bool r3, .bool r4, .int .i64 r5, .int .i64 r6, .bool r7, .bool r8, .int .i64 r9, .int .i64 r10, .bool r11, .bool r12, .int .i64 er, .int .i64 pl] 116 (0, 0)) := by rw [← hW0]; exact heap_alloc_new w _
  have HF : Hid (Fr noB w W0) := by rw [← hW0]; exact (Fr.refl noB w).alloc _
  rw [hW0]
  clear hW0
  have HA : Hid _ := hA
  have c0 := cellOf (o := 0) hA rfl; have c1 := cellOf (o := 1) hA rfl
  generalize w.heap.size = H at *
  clear hA
  go_wp2_with (first
    | (go_at_call 209; refine (HS _).mono ?_; rintro e w1 ⟨rfl, rfl⟩))
  go_ret
  exact ⟨rfl, HF.out⟩
set_option maxRecDepth 100000 in
set_option maxHeartbeats 2000000 in
theorem wr3 (x : Nat) (t : ByteArray) (r1 r2 : ByteArray) (r3 r4 : Bool) (r5 r6 : Int) (r7 r8 : Bool) (r9 r10 : Int) (r11 r12 : Bool) (er pl : Int) (w : World) (hU : UTab_r w) : Calls Tryz.prog 168 #[(.agg #[.int .i64 3, .float .f64 x, .string t, .string r1, .string r2, .bool r3, .bool r4, .int .i64 r5, .int .i64 r6, .bool r7, .bool r8, .int .i64 r9, .int .i64 r10, .bool r11, .bool r12, .int .i64 er, .int .i64 pl])] w fun e w' => e = .returned (.string (brk r1 r2 r3 r4 r5 r6 r7 r8 r9 r10 r11 r12)) ∧ Fr noB w w' := by
  have HX : Hid (∀ W, Fr noB w W → Calls Tryz.prog 210 #[(.agg #[.string r1, .string r2, .bool r3, .bool r4, .int .i64 r5, .int .i64 r6, .bool r7, .bool r8, .int .i64 r9, .int .i64 r10, .bool r11, .bool r12])] W fun e w' => e = .returned (.string (brk r1 r2 r3 r4 r5 r6 r7 r8 r9 r10 r11 r12)) ∧ Fr noB W w') := fun W hW => bracket_tx r1 r2 r3 r4 r5 r6 r7 r8 r9 r10 r11 r12 W (hU.fr hW)
  generalize brk r1 r2 r3 r4 r5 r6 r7 r8 r9 r10 r11 r12 = T at *
  clear hU
  go_enter Tryz.func168, Tryz.ntmps168
  go_upto_region 1 with fail
  obtain ⟨W0, hW0⟩ : ∃ W0, w.alloc (.cells #[.int .i64 3, .float .f64 x, .string t, .string r1, .string r2, .bool r3, .bool r4, .int .i64 r5, .int .i64 r6, .bool r7, .bool r8, .int .i64 r9, .int .i64 r10, .bool r11, .bool r12, .int .i64 er, .int .i64 pl] 116 (0, 0)) = W0 := ⟨_, rfl⟩
  have hA : W0.heap[w.heap.size]? = some (.cells #[.int .i64 3, .float .f64 x, .string t, .string r1, .string r2, .bool r3, .bool r4, .int .i64 r5, .int .i64 r6, .bool r7, .bool r8, .int .i64 r9, .int .i64 r10, .bool r11, .bool r12, .int .i64 er, .int .i64 pl] 116 (0, 0)) := by rw [← hW0]; exact heap_alloc_new w _
  have HF : Hid (Fr noB w W0) := by rw [← hW0]; exact (Fr.refl noB w).alloc _
  rw [hW0]
  clear hW0
  have HA : Hid _ := hA
  have c0 := cellOf (o := 0) hA rfl
  generalize w.heap.size = H at *
  clear hA
  go_wp2_with (first
    | (refine wpList_load_r3 rfl (.tmp 26) rfl H (.int .i64 3) (.float .f64 x) (.string t) (.int .i64 er) (.int .i64 pl) r1 r2 r3 r4 r5 r6 r7 r8 r9 r10 r11 r12 rfl HA.out ?_)
    | (go_at_call 210; refine (HX.out _ HF.out).mono ?_; rintro e w2 ⟨rfl, hF2⟩))
  go_ret
  exact ⟨rfl, HF.out.trans hF2⟩
set_option maxRecDepth 100000 in
set_option maxHeartbeats 2000000 in
theorem wr5 (x : Nat) (t : ByteArray) (r1 r2 : ByteArray) (r3 r4 : Bool) (r5 r6 : Int) (r7 r8 : Bool) (r9 r10 : Int) (r11 r12 : Bool) (er pl : Int) (w : World) (hE : EvTab w) : Calls Tryz.prog 168 #[(.agg #[.int .i64 5, .float .f64 x, .string t, .string r1, .string r2, .bool r3, .bool r4, .int .i64 r5, .int .i64 r6, .bool r7, .bool r8, .int .i64 r9, .int .i64 r10, .bool r11, .bool r12, .int .i64 er, .int .i64 pl])] w fun e w' => e = .returned (.string (eT er)) ∧ Fr noB w w' := by
  have HX : Hid (∀ W, Fr noB w W → Calls Tryz.prog 43 #[.int .i64 er] W fun e w' => e = .returned (.string (eT er)) ∧ w' = W) := fun W hW => errText_any er W (hE.fr hW)
  generalize eT er = T at *
  clear hE
  go_enter Tryz.func168, Tryz.ntmps168
  go_upto_region 1 with fail
  obtain ⟨W0, hW0⟩ : ∃ W0, w.alloc (.cells #[.int .i64 5, .float .f64 x, .string t, .string r1, .string r2, .bool r3, .bool r4, .int .i64 r5, .int .i64 r6, .bool r7, .bool r8, .int .i64 r9, .int .i64 r10, .bool r11, .bool r12, .int .i64 er, .int .i64 pl] 116 (0, 0)) = W0 := ⟨_, rfl⟩
  have hA : W0.heap[w.heap.size]? = some (.cells #[.int .i64 5, .float .f64 x, .string t, .string r1, .string r2, .bool r3, .bool r4, .int .i64 r5, .int .i64 r6, .bool r7, .bool r8, .int .i64 r9, .int .i64 r10, .bool r11, .bool r12, .int .i64 er, .int .i64 pl] 116 (0, 0)) := by rw [← hW0]; exact heap_alloc_new w _
  have HF : Hid (Fr noB w W0) := by rw [← hW0]; exact (Fr.refl noB w).alloc _
  rw [hW0]
  clear hW0
  have HA : Hid _ := hA
  have c0 := cellOf (o := 0) hA rfl; have c15 := cellOf (o := 15) hA rfl
  generalize w.heap.size = H at *
  clear hA
  go_wp2_with (first
    | (go_at_call 43; refine (HX.out _ HF.out).mono ?_; rintro e w2 ⟨rfl, rfl⟩))
  go_ret
  exact ⟨rfl, HF.out⟩
set_option maxRecDepth 100000 in
set_option maxHeartbeats 2000000 in
theorem wr4t (x : Nat) (t : ByteArray) (r1 r2 : ByteArray) (r3 r4 : Bool) (r5 r6 : Int) (r7 r8 : Bool) (r9 r10 : Int) (r11 r12 : Bool) (er pl : Int) (w : World) (hb : nmF t = true) (hz : t.size ≤ 281474976710656) : Calls Tryz.prog 168 #[(.agg #[.int .i64 4, .float .f64 x, .string t, .string r1, .string r2, .bool r3, .bool r4, .int .i64 r5, .int .i64 r6, .bool r7, .bool r8, .int .i64 r9, .int .i64 r10, .bool r11, .bool r12, .int .i64 er, .int .i64 pl])] w fun e w' => e = .returned (.string (t)) ∧ Fr noB w w' := by
  have HX : Hid (∀ W, Fr noB w W → Calls Tryz.prog 125 #[.string t] W fun e w' => e = .returned (.bool true) ∧ Fr noB W w') := fun W hW => by have h := name_pr t W; rwa [hb] at h
  clear hb
  go_enter Tryz.func168, Tryz.ntmps168
  go_upto_region 1 with fail
  obtain ⟨W0, hW0⟩ : ∃ W0, w.alloc (.cells #[.int .i64 4, .float .f64 x, .string t, .string r1, .string r2, .bool r3, .bool r4, .int .i64 r5, .int .i64 r6, .bool r7, .bool r8, .int .i64 r9, .int .i64 r10, .bool r11, .bool r12, .int .i64 er, .int .i64 pl] 116 (0, 0)) = W0 := ⟨_, rfl⟩
  have hA : W0.heap[w.heap.size]? = some (.cells #[.int .i64 4, .float .f64 x, .string t, .string r1, .string r2, .bool r3, .bool r4, .int .i64 r5, .int .i64 r6, .bool r7, .bool r8, .int .i64 r9, .int .i64 r10, .bool r11, .bool r12, .int .i64 er, .int .i64 pl] 116 (0, 0)) := by rw [← hW0]; exact heap_alloc_new w _
  have HF : Hid (Fr noB w W0) := by rw [← hW0]; exact (Fr.refl noB w).alloc _
  rw [hW0]
  clear hW0
  have HA : Hid _ := hA
  have c0 := cellOf (o := 0) hA rfl; have c2 := cellOf (o := 2) hA rfl
  generalize w.heap.size = H at *
  clear hA
  go_wp2_with (first
    | (go_at_call 125; refine (HX.out _ HF.out).mono ?_; rintro e w2 ⟨rfl, hF2⟩; have HA2 : Hid _ := hF2.obj HA.out id; have e0 := cellOf (o := 0) HA2.out rfl; have e2 := cellOf (o := 2) HA2.out rfl)
    | (go_at_call 148; refine (clone_any t _ hz).mono ?_; rintro e w3 ⟨rfl, hF3⟩))
  go_ret
  exact ⟨rfl, (HF.out.trans hF2).trans hF3⟩
set_option maxRecDepth 100000 in
set_option maxHeartbeats 2000000 in
theorem wr4f (x : Nat) (t : ByteArray) (r1 r2 : ByteArray) (r3 r4 : Bool) (r5 r6 : Int) (r7 r8 : Bool) (r9 r10 : Int) (r11 r12 : Bool) (er pl : Int) (w : World) (hb : nmF t = false) : Calls Tryz.prog 168 #[(.agg #[.int .i64 4, .float .f64 x, .string t, .string r1, .string r2, .bool r3, .bool r4, .int .i64 r5, .int .i64 r6, .bool r7, .bool r8, .int .i64 r9, .int .i64 r10, .bool r11, .bool r12, .int .i64 er, .int .i64 pl])] w fun e w' => e = .returned (.string (⟨#[]⟩)) ∧ Fr noB w w' := by
  have HX : Hid (∀ W, Fr noB w W → Calls Tryz.prog 125 #[.string t] W fun e w' => e = .returned (.bool false) ∧ Fr noB W w') := fun W hW => by have h := name_pr t W; rwa [hb] at h
  clear hb
  go_enter Tryz.func168, Tryz.ntmps168
  go_upto_region 1 with fail
  obtain ⟨W0, hW0⟩ : ∃ W0, w.alloc (.cells #[.int .i64 4, .float .f64 x, .string t, .string r1, .string r2, .bool r3, .bool r4, .int .i64 r5, .int .i64 r6, .bool r7, .bool r8, .int .i64 r9, .int .i64 r10, .bool r11, .bool r12, .int .i64 er, .int .i64 pl] 116 (0, 0)) = W0 := ⟨_, rfl⟩
  have hA : W0.heap[w.heap.size]? = some (.cells #[.int .i64 4, .float .f64 x, .string t, .string r1, .string r2, .bool r3, .bool r4, .int .i64 r5, .int .i64 r6, .bool r7, .bool r8, .int .i64 r9, .int .i64 r10, .bool r11, .bool r12, .int .i64 er, .int .i64 pl] 116 (0, 0)) := by rw [← hW0]; exact heap_alloc_new w _
  have HF : Hid (Fr noB w W0) := by rw [← hW0]; exact (Fr.refl noB w).alloc _
  rw [hW0]
  clear hW0
  have HA : Hid _ := hA
  have c0 := cellOf (o := 0) hA rfl; have c2 := cellOf (o := 2) hA rfl
  generalize w.heap.size = H at *
  clear hA
  go_wp2_with (first
    | (go_at_call 125; refine (HX.out _ HF.out).mono ?_; rintro e w2 ⟨rfl, hF2⟩; have HA2 : Hid _ := hF2.obj HA.out id; have e0 := cellOf (o := 0) HA2.out rfl; have e2 := cellOf (o := 2) HA2.out rfl))
  go_ret
  exact ⟨rfl, (HF.out.trans hF2)⟩
set_option maxRecDepth 100000 in
set_option maxHeartbeats 2000000 in
theorem wr6t (x : Nat) (t : ByteArray) (r1 r2 : ByteArray) (r3 r4 : Bool) (r5 r6 : Int) (r7 r8 : Bool) (r9 r10 : Int) (r11 r12 : Bool) (er pl : Int) (w : World) (hb : isS t = true) (hz : t.size ≤ 281474976710656) (hS : STab w) : Calls Tryz.prog 168 #[(.agg #[.int .i64 6, .float .f64 x, .string t, .string r1, .string r2, .bool r3, .bool r4, .int .i64 r5, .int .i64 r6, .bool r7, .bool r8, .int .i64 r9, .int .i64 r10, .bool r11, .bool r12, .int .i64 er, .int .i64 pl])] w fun e w' => e = .returned (.string (t)) ∧ Fr noB w w' := by
  have HX : Hid (∀ W, Fr noB w W → Calls Tryz.prog 211 #[.string t] W fun e w' => e = .returned (.bool true) ∧ w' = W) := fun W hW => by have h := isSign_lx t W (hS.fr hW id); rwa [hb] at h
  clear hb hS
  go_enter Tryz.func168, Tryz.ntmps168
  go_upto_region 1 with fail
  obtain ⟨W0, hW0⟩ : ∃ W0, w.alloc (.cells #[.int .i64 6, .float .f64 x, .string t, .string r1, .string r2, .bool r3, .bool r4, .int .i64 r5, .int .i64 r6, .bool r7, .bool r8, .int .i64 r9, .int .i64 r10, .bool r11, .bool r12, .int .i64 er, .int .i64 pl] 116 (0, 0)) = W0 := ⟨_, rfl⟩
  have hA : W0.heap[w.heap.size]? = some (.cells #[.int .i64 6, .float .f64 x, .string t, .string r1, .string r2, .bool r3, .bool r4, .int .i64 r5, .int .i64 r6, .bool r7, .bool r8, .int .i64 r9, .int .i64 r10, .bool r11, .bool r12, .int .i64 er, .int .i64 pl] 116 (0, 0)) := by rw [← hW0]; exact heap_alloc_new w _
  have HF : Hid (Fr noB w W0) := by rw [← hW0]; exact (Fr.refl noB w).alloc _
  rw [hW0]
  clear hW0
  have HA : Hid _ := hA
  have c0 := cellOf (o := 0) hA rfl; have c2 := cellOf (o := 2) hA rfl
  generalize w.heap.size = H at *
  clear hA
  go_wp2_with (first
    | (go_at_call 211; refine (HX.out _ HF.out).mono ?_; rintro e w2 ⟨rfl, rfl⟩)
    | (go_at_call 148; refine (clone_any t _ hz).mono ?_; rintro e w3 ⟨rfl, hF3⟩))
  go_ret
  exact ⟨rfl, HF.out.trans hF3⟩
set_option maxRecDepth 100000 in
set_option maxHeartbeats 2000000 in
theorem wr6f (x : Nat) (t : ByteArray) (r1 r2 : ByteArray) (r3 r4 : Bool) (r5 r6 : Int) (r7 r8 : Bool) (r9 r10 : Int) (r11 r12 : Bool) (er pl : Int) (w : World) (hb : isS t = false) (hS : STab w) : Calls Tryz.prog 168 #[(.agg #[.int .i64 6, .float .f64 x, .string t, .string r1, .string r2, .bool r3, .bool r4, .int .i64 r5, .int .i64 r6, .bool r7, .bool r8, .int .i64 r9, .int .i64 r10, .bool r11, .bool r12, .int .i64 er, .int .i64 pl])] w fun e w' => e = .returned (.string (⟨#[]⟩)) ∧ Fr noB w w' := by
  have HX : Hid (∀ W, Fr noB w W → Calls Tryz.prog 211 #[.string t] W fun e w' => e = .returned (.bool false) ∧ w' = W) := fun W hW => by have h := isSign_lx t W (hS.fr hW id); rwa [hb] at h
  clear hb hS
  go_enter Tryz.func168, Tryz.ntmps168
  go_upto_region 1 with fail
  obtain ⟨W0, hW0⟩ : ∃ W0, w.alloc (.cells #[.int .i64 6, .float .f64 x, .string t, .string r1, .string r2, .bool r3, .bool r4, .int .i64 r5, .int .i64 r6, .bool r7, .bool r8, .int .i64 r9, .int .i64 r10, .bool r11, .bool r12, .int .i64 er, .int .i64 pl] 116 (0, 0)) = W0 := ⟨_, rfl⟩
  have hA : W0.heap[w.heap.size]? = some (.cells #[.int .i64 6, .float .f64 x, .string t, .string r1, .string r2, .bool r3, .bool r4, .int .i64 r5, .int .i64 r6, .bool r7, .bool r8, .int .i64 r9, .int .i64 r10, .bool r11, .bool r12, .int .i64 er, .int .i64 pl] 116 (0, 0)) := by rw [← hW0]; exact heap_alloc_new w _
  have HF : Hid (Fr noB w W0) := by rw [← hW0]; exact (Fr.refl noB w).alloc _
  rw [hW0]
  clear hW0
  have HA : Hid _ := hA
  have c0 := cellOf (o := 0) hA rfl; have c2 := cellOf (o := 2) hA rfl
  generalize w.heap.size = H at *
  clear hA
  go_wp2_with (first
    | (go_at_call 211; refine (HX.out _ HF.out).mono ?_; rintro e w2 ⟨rfl, rfl⟩))
  go_ret
  exact ⟨rfl, HF.out⟩
set_option maxRecDepth 100000 in
set_option maxHeartbeats 2000000 in
theorem wr0 (k : Int) (x : Nat) (t : ByteArray) (r1 r2 : ByteArray) (r3 r4 : Bool) (r5 r6 : Int) (r7 r8 : Bool) (r9 r10 : Int) (r11 r12 : Bool) (er pl : Int) (w : World) (k1 : ¬ k = 1) (k3 : ¬ k = 3) (k4 : ¬ k = 4) (k5 : ¬ k = 5) (k6 : ¬ k = 6) : Calls Tryz.prog 168 #[(.agg #[.int .i64 k, .float .f64 x, .string t, .string r1, .string r2, .bool r3, .bool r4, .int .i64 r5, .int .i64 r6, .bool r7, .bool r8, .int .i64 r9, .int .i64 r10, .bool r11, .bool r12, .int .i64 er, .int .i64 pl])] w fun e w' => e = .returned (.string (⟨#[]⟩)) ∧ Fr noB w w' := by
  go_enter Tryz.func168, Tryz.ntmps168
  go_upto_region 1 with fail
  obtain ⟨W0, hW0⟩ : ∃ W0, w.alloc (.cells #[.int .i64 k, .float .f64 x, .string t, .string r1, .string r2, .bool r3, .bool r4, .int .i64 r5, .int .i64 r6, .bool r7, .bool r8, .int .i64 r9, .int .i64 r10, .bool r11, .bool r12, .int .i64 er, .int .i64 pl] 116 (0, 0)) = W0 := ⟨_, rfl⟩
  have hA : W0.heap[w.heap.size]? = some (.cells #[.int .i64 k, .float .f64 x, .string t, .string r1, .string r2, .bool r3, .bool r4, .int .i64 r5, .int .i64 r6, .bool r7, .bool r8, .int .i64 r9, .int .i64 r10, .bool r11, .bool r12, .int .i64 er, .int .i64 pl] 116 (0, 0)) := by rw [← hW0]; exact heap_alloc_new w _
  have HF : Hid (Fr noB w W0) := by rw [← hW0]; exact (Fr.refl noB w).alloc _
  rw [hW0]
  clear hW0
  have HA : Hid _ := hA
  have c0 := cellOf (o := 0) hA rfl
  generalize w.heap.size = H at *
  clear hA
  go_wp2_with fail
  go_ret
  exact ⟨rfl, HF.out⟩
set_option maxRecDepth 100000 in
set_option maxHeartbeats 2000000 in
theorem text_gen (k : Int) (x : Nat) (t : ByteArray) (r1 r2 : ByteArray) (r3 r4 : Bool) (r5 r6 : Int) (r7 r8 : Bool) (r9 r10 : Int) (r11 r12 : Bool) (er pl : Int) (w : World) (k2 : ¬ k = 2) (B : Bool) (T : ByteArray) (HB : ∀ W, Calls Tryz.prog 167 #[(.agg #[.int .i64 k, .float .f64 x, .string t, .string r1, .string r2, .bool r3, .bool r4, .int .i64 r5, .int .i64 r6, .bool r7, .bool r8, .int .i64 r9, .int .i64 r10, .bool r11, .bool r12, .int .i64 er, .int .i64 pl])] W fun e w' => e = .returned (.bool B) ∧ Fr noB W w') (HW : Hid (∀ W, Fr noB w W → Calls Tryz.prog 168 #[(.agg #[.int .i64 k, .float .f64 x, .string t, .string r1, .string r2, .bool r3, .bool r4, .int .i64 r5, .int .i64 r6, .bool r7, .bool r8, .int .i64 r9, .int .i64 r10, .bool r11, .bool r12, .int .i64 er, .int .i64 pl])] W fun e w' => e = .returned (.string T) ∧ Fr noB W w')) :
    Calls Tryz.prog 129 #[(.agg #[.int .i64 k, .float .f64 x, .string t, .string r1, .string r2, .bool r3, .bool r4, .int .i64 r5, .int .i64 r6, .bool r7, .bool r8, .int .i64 r9, .int .i64 r10, .bool r11, .bool r12, .int .i64 er, .int .i64 pl])] w fun e w' => e = .returned (tpv (B && decide (T.size ≠ 0)) T) ∧ Fr noB w w' := by
  go_enter Tryz.func129, Tryz.ntmps129
  go_upto_region 1 with fail
  obtain ⟨W0, hW0⟩ : ∃ W0, w.alloc (.cells #[.int .i64 k, .float .f64 x, .string t, .string r1, .string r2, .bool r3, .bool r4, .int .i64 r5, .int .i64 r6, .bool r7, .bool r8, .int .i64 r9, .int .i64 r10, .bool r11, .bool r12, .int .i64 er, .int .i64 pl] 116 (0, 0)) = W0 := ⟨_, rfl⟩
  have hA : W0.heap[w.heap.size]? = some (.cells #[.int .i64 k, .float .f64 x, .string t, .string r1, .string r2, .bool r3, .bool r4, .int .i64 r5, .int .i64 r6, .bool r7, .bool r8, .int .i64 r9, .int .i64 r10, .bool r11, .bool r12, .int .i64 er, .int .i64 pl] 116 (0, 0)) := by rw [← hW0]; exact heap_alloc_new w _
  have HF : Hid (Fr noB w W0) := by rw [← hW0]; exact (Fr.refl noB w).alloc _
  rw [hW0]
  clear hW0
  have HA : Hid _ := hA
  
  generalize w.heap.size = H at *
  clear hA
  cases B with
  | false =>
    go_wp2_with (first
      | (refine wpList_load_row rfl 116 (.tmp 1) rfl H rfl 116 #[.int .i64 k, .float .f64 x, .string t, .string r1, .string r2, .bool r3, .bool r4, .int .i64 r5, .int .i64 r6, .bool r7, .bool r8, .int .i64 r9, .int .i64 r10, .bool r11, .bool r12, .int .i64 er, .int .i64 pl] (0, 0) _ HA.out Tryz.underlying116 rfl info_lx ?_)
      | (go_at_call 167; refine (HB _).mono ?_; rintro e w1 ⟨rfl, hF1⟩))
    go_ret2
    exact ⟨rfl, HF.out.trans hF1⟩
  | true =>
    by_cases hT : T.size = 0
    · have he := emp_yes T hT
      have HV : Hid (tpv (true && decide (T.size ≠ 0)) T = .tuple #[.string ⟨#[]⟩, .int .i64 1]) := by
        show tpv _ _ = _
        rw [decide_eq_false (by omega)]
        rfl
      go_wp2_with (first
        | (refine wpList_load_row rfl 116 (.tmp 1) rfl H rfl 116 #[.int .i64 k, .float .f64 x, .string t, .string r1, .string r2, .bool r3, .bool r4, .int .i64 r5, .int .i64 r6, .bool r7, .bool r8, .int .i64 r9, .int .i64 r10, .bool r11, .bool r12, .int .i64 er, .int .i64 pl] (0, 0) _ HA.out Tryz.underlying116 rfl info_lx ?_)
        | (refine wpList_load_row rfl 116 (.tmp 1) rfl H rfl 116 #[.int .i64 k, .float .f64 x, .string t, .string r1, .string r2, .bool r3, .bool r4, .int .i64 r5, .int .i64 r6, .bool r7, .bool r8, .int .i64 r9, .int .i64 r10, .bool r11, .bool r12, .int .i64 er, .int .i64 pl] (0, 0) _ HA2.out Tryz.underlying116 rfl info_lx ?_)
        | (go_at_call 167; refine (HB _).mono ?_; rintro e w1 ⟨rfl, hF1⟩; have HA2 : Hid _ := hF1.obj HA.out id; have e0 := cellOf (o := 0) HA2.out rfl)
        | (go_at_call 168; refine (HW.out _ (HF.out.trans hF1)).mono ?_; rintro e w2 ⟨rfl, hF2⟩))
      go_ret2
      rw [HV.out]
      exact ⟨rfl, HF.out.trans (hF1.trans hF2)⟩
    · have he := emp_no T (by omega)
      have HV : Hid (tpv (true && decide (T.size ≠ 0)) T = .tuple #[.string T, .int .i64 0]) := by
        show tpv _ _ = _
        rw [decide_eq_true hT]
        rfl
      go_wp2_with (first
        | (refine wpList_load_row rfl 116 (.tmp 1) rfl H rfl 116 #[.int .i64 k, .float .f64 x, .string t, .string r1, .string r2, .bool r3, .bool r4, .int .i64 r5, .int .i64 r6, .bool r7, .bool r8, .int .i64 r9, .int .i64 r10, .bool r11, .bool r12, .int .i64 er, .int .i64 pl] (0, 0) _ HA.out Tryz.underlying116 rfl info_lx ?_)
        | (refine wpList_load_row rfl 116 (.tmp 1) rfl H rfl 116 #[.int .i64 k, .float .f64 x, .string t, .string r1, .string r2, .bool r3, .bool r4, .int .i64 r5, .int .i64 r6, .bool r7, .bool r8, .int .i64 r9, .int .i64 r10, .bool r11, .bool r12, .int .i64 er, .int .i64 pl] (0, 0) _ HA2.out Tryz.underlying116 rfl info_lx ?_)
        | (go_at_call 167; refine (HB _).mono ?_; rintro e w1 ⟨rfl, hF1⟩; have HA2 : Hid _ := hF1.obj HA.out id; have e0 := cellOf (o := 0) HA2.out rfl)
        | (go_at_call 168; refine (HW.out _ (HF.out.trans hF1)).mono ?_; rintro e w2 ⟨rfl, hF2⟩))
      go_ret2
      rw [HV.out]
      exact ⟨rfl, HF.out.trans (hF1.trans hF2)⟩
set_option maxRecDepth 100000 in
set_option maxHeartbeats 2000000 in
theorem text_two (x : Nat) (t : ByteArray) (r1 r2 : ByteArray) (r3 r4 : Bool) (r5 r6 : Int) (r7 r8 : Bool) (r9 r10 : Int) (r11 r12 : Bool) (er pl : Int) (w : World) (hX : XTab w) (B : Bool) (HB : ∀ W, Calls Tryz.prog 167 #[(.agg #[.int .i64 2, .float .f64 x, .string t, .string r1, .string r2, .bool r3, .bool r4, .int .i64 r5, .int .i64 r6, .bool r7, .bool r8, .int .i64 r9, .int .i64 r10, .bool r11, .bool r12, .int .i64 er, .int .i64 pl])] W fun e w' => e = .returned (.bool B) ∧ Fr noB W w') :
    Calls Tryz.prog 129 #[(.agg #[.int .i64 2, .float .f64 x, .string t, .string r1, .string r2, .bool r3, .bool r4, .int .i64 r5, .int .i64 r6, .bool r7, .bool r8, .int .i64 r9, .int .i64 r10, .bool r11, .bool r12, .int .i64 er, .int .i64 pl])] w fun e w' => e = .returned (if B = true then qtV t else .tuple #[.string ⟨#[]⟩, .int .i64 1]) ∧ Fr noB w w' := by
  have HQ : Hid (∀ W, Fr noB w W → Calls Tryz.prog 42 #[.string t] W fun e w' => e = .returned (qtV t) ∧ Fr noB W w') := fun W hW => quote_lx t W (hX.fr hW)
  obtain ⟨Qa, Qb, hq⟩ : ∃ a b, qtV t = .tuple #[.string a, .int .i64 b] := ⟨_, _, rfl⟩
  obtain ⟨V, hV⟩ : ∃ V, (if B = true then qtV t else .tuple #[.string ⟨#[]⟩, .int .i64 1]) = V := ⟨_, rfl⟩
  have HV1 : Hid (B = true → V = .tuple #[.string Qa, .int .i64 Qb]) := fun e => by rw [← hV, if_pos e, hq]
  have HV2 : Hid (B = false → V = .tuple #[.string ⟨#[]⟩, .int .i64 1]) := fun e => by rw [← hV, if_neg (by rw [e]; simp)]
  rw [hV]
  rw [hq] at HQ
  clear hq hX hV
  go_enter Tryz.func129, Tryz.ntmps129
  go_upto_region 1 with fail
  obtain ⟨W0, hW0⟩ : ∃ W0, w.alloc (.cells #[.int .i64 2, .float .f64 x, .string t, .string r1, .string r2, .bool r3, .bool r4, .int .i64 r5, .int .i64 r6, .bool r7, .bool r8, .int .i64 r9, .int .i64 r10, .bool r11, .bool r12, .int .i64 er, .int .i64 pl] 116 (0, 0)) = W0 := ⟨_, rfl⟩
  have hA : W0.heap[w.heap.size]? = some (.cells #[.int .i64 2, .float .f64 x, .string t, .string r1, .string r2, .bool r3, .bool r4, .int .i64 r5, .int .i64 r6, .bool r7, .bool r8, .int .i64 r9, .int .i64 r10, .bool r11, .bool r12, .int .i64 er, .int .i64 pl] 116 (0, 0)) := by rw [← hW0]; exact heap_alloc_new w _
  have HF : Hid (Fr noB w W0) := by rw [← hW0]; exact (Fr.refl noB w).alloc _
  rw [hW0]
  clear hW0
  have HA : Hid _ := hA
  
  generalize w.heap.size = H at *
  clear hA
  cases B with
  | false =>
    have HV3 : Hid _ := HV2.out rfl
    clear HV1 HV2
    go_wp2_with (first
      | (refine wpList_load_row rfl 116 (.tmp 1) rfl H rfl 116 #[.int .i64 2, .float .f64 x, .string t, .string r1, .string r2, .bool r3, .bool r4, .int .i64 r5, .int .i64 r6, .bool r7, .bool r8, .int .i64 r9, .int .i64 r10, .bool r11, .bool r12, .int .i64 er, .int .i64 pl] (0, 0) _ HA.out Tryz.underlying116 rfl info_lx ?_)
      | (go_at_call 167; refine (HB _).mono ?_; rintro e w1 ⟨rfl, hF1⟩))
    go_ret2
    rw [HV3.out]
    exact ⟨rfl, HF.out.trans hF1⟩
  | true =>
    have HV3 : Hid _ := HV1.out rfl
    clear HV1 HV2
    go_wp2_with (first
      | (refine wpList_load_row rfl 116 (.tmp 1) rfl H rfl 116 #[.int .i64 2, .float .f64 x, .string t, .string r1, .string r2, .bool r3, .bool r4, .int .i64 r5, .int .i64 r6, .bool r7, .bool r8, .int .i64 r9, .int .i64 r10, .bool r11, .bool r12, .int .i64 er, .int .i64 pl] (0, 0) _ HA.out Tryz.underlying116 rfl info_lx ?_)
      | (go_at_call 167; refine (HB _).mono ?_; rintro e w1 ⟨rfl, hF1⟩; have HA2 : Hid _ := hF1.obj HA.out id; have e0 := cellOf (o := 0) HA2.out rfl; have e2 := cellOf (o := 2) HA2.out rfl)
      | (go_at_call 42; refine (HQ.out _ (HF.out.trans hF1)).mono ?_; rintro e w2 ⟨rfl, hF2⟩))
    go_ret2
    rw [HV3.out]
    exact ⟨rfl, HF.out.trans (hF1.trans hF2)⟩
#print axioms text_gen
#print axioms text_two
end Go.Proofs.YtdmjbhbiehjelaaGreatDoor
/- Which terms some text says, and their texts: plainly. -/
namespace Go.Proofs.YtdmjbhbiehjelaaGreatDoor
open Go.RowKit

/-- Nothing but what the operation has. -/
def bareF (f : TF) : Bool :=
  (decide (f.op = 1) || decide (f.x = 0)) && (decide (f.op = 2) || f.t.toList.isEmpty) && (decide (f.op = 3) || (f.er == 0)) && (decide (f.op = 5 ∨ f.op = 6) || f.nm.toList.isEmpty)
  && (decide (f.op = 4) || rz f.r1 f.r2 f.r3 f.r4 f.r5 f.r6 f.r7 f.r8 f.r9 f.r10 f.r11 f.r12) && (decide (f.op = 7) || (f.rows == 0))
/-- A constant: its token may be. -/
def constF (f : TF) : Bool :=
  if f.op = 1 then finB f.x && decide (f.x < 9223372036854775808) else if f.op = 2 then decide (qtE f.t = 0) else if f.op = 3 then decide (1 ≤ f.er ∧ f.er ≤ 9) else false
def leafF (f : TF) : Bool :=
  if f.op = 4 then decide (chkF f.r1 f.r2 f.r3 f.r4 f.r5 f.r6 f.r9 f.r10 f.r11 f.r12 = 0) else if f.op = 5 then nmF f.nm else constF f
def tTRUE : ByteArray := ⟨#[84, 82, 85, 69]⟩
def tFALSE : ByteArray := ⟨#[70, 65, 76, 83, 69]⟩
def truthF (s : ByteArray) : Bool := decide (s.data.toList = [84, 82, 85, 69] ∨ s.data.toList = [70, 65, 76, 83, 69])
/-- An item of an array. -/
def itemF (t : Tm) : Bool :=
  bareF t.f && t.args.isEmpty && (if t.f.op = 6 then truthF t.f.nm else if t.f.op = 1 then finB t.f.x && decide (t.f.x ≠ 9223372036854775808) else constF t.f)
def arrayF (rows : Int) (args : List Tm) : Bool :=
  decide (1 ≤ args.length) && decide (args.length ≤ 4096) && decide (1 ≤ rows) && decide ((args.length : Int) % rows = 0) && args.all itemF
/-- A function's name. -/
def fnF (s : ByteArray) : Bool := nmF s && decide (∀ b ∈ s.data.toList, ¬ (97 ≤ b.toNat ∧ b.toNat ≤ 122))
/-- The operators in one row with a term's. -/
def chainF : Tm → Nat
  | .mk _ _ _ [] => 1
  | .mk f _ _ (a :: _) => if lnF a.f.op = lnF f.op then chainF a + 1 else 1
mutual
/-- Some text says the term, at a depth. -/
def fitsF : Tm → Nat → Bool
  | .mk f sl cap args, d => decide (d ≤ 64) && (bareF f && (
      if f.op = 6 then fnF f.nm && (decide (args.length ≤ 32) && argsF args args.length (d + 1))
      else if f.op = 7 then arrayF f.rows args
      else if f.op = 8 ∨ lnF f.op = 0 then false
      else if lnF f.op = 10 then args.isEmpty && leafF f
      else (decide (lnF f.op = 7) || decide (d + chainF (.mk f sl cap args) ≤ 64)) && operF args (lnF f.op) (chainF (.mk f sl cap args)) d))
def argsF : List Tm → Nat → Nat → Bool
  | [], _, _ => true
  | a :: l, n, d => (if a.f.op = 8 then decide (1 < n) && (bareF a.f && a.args.isEmpty) else fitsF a d) && argsF l n d
def operF : List Tm → Nat → Nat → Nat → Bool
  | [], _, _, _ => false
  | a :: l, ln, k, d => fitsF a (d + (if ln = 7 then 1 else 0) + (if lnF a.f.op < ln then 1 else 0)) && secF l ln k d
def secF : List Tm → Nat → Nat → Nat → Bool
  | [], ln, _, _ => decide (ln = 6 ∨ ln = 7)
  | b :: l, ln, k, d => decide (¬ (ln = 6 ∨ ln = 7)) && (l.isEmpty && fitsF b (d + k + (if lnF b.f.op ≤ ln then 1 else 0)))
end
/-- In parentheses, or not. -/
def brc (c : Prop) [Decidable c] (T : List UInt8) : List UInt8 := if c then 40 :: (T ++ [41]) else T
mutual
/-- A term's text. -/
def textF : Tm → List UInt8
  | .mk f _ _ args =>
    if f.op = 1 then ttL f.x else if f.op = 2 then (qtF f.t).data.toList else if f.op = 3 then (eT f.er).data.toList
    else if f.op = 4 then (brk f.r1 f.r2 f.r3 f.r4 f.r5 f.r6 f.r7 f.r8 f.r9 f.r10 f.r11 f.r12).data.toList
    else if f.op = 5 then f.nm.data.toList
    else if f.op = 6 then f.nm.data.toList ++ 40 :: (listF args 0 ++ [41])
    else if f.op = 7 then 123 :: (arrT args 0 ((args.length : Int) / f.rows).toNat ++ [125])
    else if f.op = 8 then []
    else operT args f.op
def listF : List Tm → Nat → List UInt8
  | [], _ => []
  | a :: l, i => (if 0 < i then [59] else []) ++ (textF a ++ listF l (i + 1))
def arrT : List Tm → Nat → Nat → List UInt8
  | [], _, _ => []
  | a :: l, i, n => (if i = 0 then [] else if i % n = 0 then [124] else [59]) ++ ((if a.f.op = 6 then a.f.nm.data.toList else textF a) ++ arrT l (i + 1) n)
def operT : List Tm → Int → List UInt8
  | [], _ => []
  | a :: l, op => (if op = 9 ∨ op = 10 then (sgF op).data.toList ++ brc (lnF a.f.op < 7) (textF a) else if op = 11 then brc (lnF a.f.op < 6) (textF a) ++ (sgF op).data.toList else brc (lnF a.f.op < lnF op) (textF a) ++ ((sgF op).data.toList ++ secT l op))
def secT : List Tm → Int → List UInt8
  | [], _ => []
  | b :: _, op => brc (lnF b.f.op < lnF op + 1) (textF b)
end
end Go.Proofs.YtdmjbhbiehjelaaGreatDoor
/- Nothing but what the operation has: the program's. -/
namespace Go.Proofs.YtdmjbhbiehjelaaGreatDoor
open Go.RowKit
theorem tm_store_float (P : Program) (w : World) (a : Addr) (m : Mode) (k : FloatKind) (x : Nat) : (store a (.float k x) m).run P w = stored P w a (.float k x) m := run_store P w a _ m rfl
attribute [local go_sem] tm_store_float

theorem info_tm : (Tryz.prog.info? 29).map (·.size) = some 19 := by kernel_rfl
theorem tm_one (op : Int) (x : Nat) (t : ByteArray) (er : Int) (nm : ByteArray) (r1 r2 : ByteArray) (r3 r4 : Bool) (r5 r6 : Int) (r7 r8 : Bool) (r9 r10 : Int) (r11 r12 : Bool) (rows : Int) (g : Option Addr) (n c : Nat) : (#[.int .i64 op, .float .f64 x, .string t, .int .i64 er, .string nm, .string r1, .string r2, .bool r3, .bool r4, .int .i64 r5, .int .i64 r6, .bool r7, .bool r8, .int .i64 r9, .int .i64 r10, .bool r11, .bool r12, .int .i64 rows, .slice g n c] : Array Value).all (·.oneCell') = true := by kernel_rfl
set_option maxRecDepth 100000 in
set_option maxHeartbeats 2000000 in
theorem eq_refs (r1 r2 : ByteArray) (r3 r4 : Bool) (r5 r6 : Int) (r7 r8 : Bool) (r9 r10 : Int) (r11 r12 : Bool) (W : World) : (binOp .eql 26 (.agg #[.string r1, .string r2, .bool r3, .bool r4, .int .i64 r5, .int .i64 r6, .bool r7, .bool r8, .int .i64 r9, .int .i64 r10, .bool r11, .bool r12]) (.agg #[.string r1, .string r2, .bool r3, .bool r4, .int .i64 r5, .int .i64 r6, .bool r7, .bool r8, .int .i64 r9, .int .i64 r10, .bool r11, .bool r12])).run Tryz.prog W = .ok (.bool true) W := by
  have hu := Tryz.underlying26
  have hc := Tryz.underlying24
  simp [go_sem]
/-- A load by its run. -/
theorem wpList_load_run {ops : Array Oper} {rest : List Oper} {o : Oper} {a : Act} {W : World} {Q : Exit → Act → World → Prop} (hgd : o.guard = none) (ty : TypeId) (p : Operand) (ho : o.op = .load ty p) (pv V : Value) (hp : a.eval p = pv) (hl : (Instr.loadAt ty pv).run Tryz.prog W = .ok V W)
    (h : wpList Tryz.prog ops Q rest (a.put o.dst V) W) : wpList Tryz.prog ops Q (o :: rest) a W := by
  refine wpList_plain hgd fun K hK => ?_
  unfold Oper.wp execOp
  simp only [ho, hp, Sem.run_bind, Sem.run_pure, hl, Result.andThen_ok]
  exact hK _ _ h
/-- A store by its run. -/
theorem wpList_store_run {ops : Array Oper} {rest : List Oper} {o : Oper} {a : Act} {W W' : World} {Q : Exit → Act → World → Prop} (hgd : o.guard = none) (ty : TypeId) (p x : Operand) (ho : o.op = .store ty p x) (pv V : Value) (hp : a.eval p = pv) (hx : a.eval x = V) (hl : (Instr.storeAt ty pv V).run Tryz.prog W = .ok () W')
    (h : wpList Tryz.prog ops Q rest (a.put o.dst undef) W') : wpList Tryz.prog ops Q (o :: rest) a W := by
  refine wpList_plain hgd fun K hK => ?_
  unfold Oper.wp execOp
  simp only [ho, hp, hx, Sem.run_bind, Sem.run_pure, hl, Result.andThen_ok]
  exact hK _ _ h
theorem empl (t : ByteArray) : (t.toList == (⟨#[]⟩ : ByteArray).toList) = t.toList.isEmpty := by
  have e : (⟨#[]⟩ : ByteArray).toList = [] := by rw [ByteArray.toList_eq]
  rw [e]
  cases t.toList <;> rfl
theorem xz (x : Nat) : ((x : Int) == ((0 : Nat) : Int)) = decide (x = 0) := by
  by_cases h : x = 0
  · subst h; rfl
  · rw [decide_eq_false h, beq_eq_false_iff_ne]; omega
/-- The own term of bare, laid. -/
theorem own_laid (op : Int) (w : World) : ∃ W1, (w.alloc (.cells #[.int .i64 0, .float .f64 0, .string ⟨#[]⟩, .int .i64 0, .string ⟨#[]⟩, .string ⟨#[]⟩, .string ⟨#[]⟩, .bool false, .bool false, .int .i64 0, .int .i64 0, .bool false, .bool false, .int .i64 0, .int .i64 0, .bool false, .bool false, .int .i64 0, .slice none 0 0] 29 (0, 0))).setRow w.heap.size #[.int .i64 op, .float .f64 0, .string ⟨#[]⟩, .int .i64 0, .string ⟨#[]⟩, .string ⟨#[]⟩, .string ⟨#[]⟩, .bool false, .bool false, .int .i64 0, .int .i64 0, .bool false, .bool false, .int .i64 0, .int .i64 0, .bool false, .bool false, .int .i64 0, .slice none 0 0] = W1 ∧ W1.heap[w.heap.size]? = some (.cells #[.int .i64 op, .float .f64 0, .string ⟨#[]⟩, .int .i64 0, .string ⟨#[]⟩, .string ⟨#[]⟩, .string ⟨#[]⟩, .bool false, .bool false, .int .i64 0, .int .i64 0, .bool false, .bool false, .int .i64 0, .int .i64 0, .bool false, .bool false, .int .i64 0, .slice none 0 0] 29 (0, 0)) ∧ Fr noB w W1 := by
  refine ⟨_, rfl, setRow_heap _ _ _ _ _ _ (heap_alloc_new w _), ((Fr.refl noB w).alloc _).setRowX _ (Or.inr (Nat.le_refl _)) _⟩
set_option maxRecDepth 100000 in
theorem tm_set12 {W : World} {B : Nat} (a0 a1 a2 a3 a4 a5 a6 a7 a8 a9 a10 a11 a12 a13 a14 a15 a16 a17 a18 : Value) (r1 r2 : ByteArray) (r3 r4 : Bool) (r5 r6 : Int) (r7 r8 : Bool) (r9 r10 : Int) (r11 r12 : Bool) (h0 : W.heap[B]? = some (.cells #[a0, a1, a2, a3, a4, a5, a6, a7, a8, a9, a10, a11, a12, a13, a14, a15, a16, a17, a18] 29 (0, 0))) : ((((((((((((W.setCell ⟨B, 5, none⟩ (.string r1)).setCell ⟨B, 6, none⟩ (.string r2)).setCell ⟨B, 7, none⟩ (.bool r3)).setCell ⟨B, 8, none⟩ (.bool r4)).setCell ⟨B, 9, none⟩ (.int .i64 r5)).setCell ⟨B, 10, none⟩ (.int .i64 r6)).setCell ⟨B, 11, none⟩ (.bool r7)).setCell ⟨B, 12, none⟩ (.bool r8)).setCell ⟨B, 13, none⟩ (.int .i64 r9)).setCell ⟨B, 14, none⟩ (.int .i64 r10)).setCell ⟨B, 15, none⟩ (.bool r11)).setCell ⟨B, 16, none⟩ (.bool r12)).heap[B]? = some (.cells #[a0, a1, a2, a3, a4, .string r1, .string r2, .bool r3, .bool r4, .int .i64 r5, .int .i64 r6, .bool r7, .bool r8, .int .i64 r9, .int .i64 r10, .bool r11, .bool r12, a17, a18] 29 (0, 0)) := by
  have h1 : (W.setCell ⟨B, 5, none⟩ (.string r1)).heap[B]? = some (.cells #[a0, a1, a2, a3, a4, .string r1, a6, a7, a8, a9, a10, a11, a12, a13, a14, a15, a16, a17, a18] 29 (0, 0)) := setOf 5 (.string r1) h0
  have h2 : ((W.setCell ⟨B, 5, none⟩ (.string r1)).setCell ⟨B, 6, none⟩ (.string r2)).heap[B]? = some (.cells #[a0, a1, a2, a3, a4, .string r1, .string r2, a7, a8, a9, a10, a11, a12, a13, a14, a15, a16, a17, a18] 29 (0, 0)) := setOf 6 (.string r2) h1
  have h3 : (((W.setCell ⟨B, 5, none⟩ (.string r1)).setCell ⟨B, 6, none⟩ (.string r2)).setCell ⟨B, 7, none⟩ (.bool r3)).heap[B]? = some (.cells #[a0, a1, a2, a3, a4, .string r1, .string r2, .bool r3, a8, a9, a10, a11, a12, a13, a14, a15, a16, a17, a18] 29 (0, 0)) := setOf 7 (.bool r3) h2
  have h4 : ((((W.setCell ⟨B, 5, none⟩ (.string r1)).setCell ⟨B, 6, none⟩ (.string r2)).setCell ⟨B, 7, none⟩ (.bool r3)).setCell ⟨B, 8, none⟩ (.bool r4)).heap[B]? = some (.cells #[a0, a1, a2, a3, a4, .string r1, .string r2, .bool r3, .bool r4, a9, a10, a11, a12, a13, a14, a15, a16, a17, a18] 29 (0, 0)) := setOf 8 (.bool r4) h3
  have h5 : (((((W.setCell ⟨B, 5, none⟩ (.string r1)).setCell ⟨B, 6, none⟩ (.string r2)).setCell ⟨B, 7, none⟩ (.bool r3)).setCell ⟨B, 8, none⟩ (.bool r4)).setCell ⟨B, 9, none⟩ (.int .i64 r5)).heap[B]? = some (.cells #[a0, a1, a2, a3, a4, .string r1, .string r2, .bool r3, .bool r4, .int .i64 r5, a10, a11, a12, a13, a14, a15, a16, a17, a18] 29 (0, 0)) := setOf 9 (.int .i64 r5) h4
  have h6 : ((((((W.setCell ⟨B, 5, none⟩ (.string r1)).setCell ⟨B, 6, none⟩ (.string r2)).setCell ⟨B, 7, none⟩ (.bool r3)).setCell ⟨B, 8, none⟩ (.bool r4)).setCell ⟨B, 9, none⟩ (.int .i64 r5)).setCell ⟨B, 10, none⟩ (.int .i64 r6)).heap[B]? = some (.cells #[a0, a1, a2, a3, a4, .string r1, .string r2, .bool r3, .bool r4, .int .i64 r5, .int .i64 r6, a11, a12, a13, a14, a15, a16, a17, a18] 29 (0, 0)) := setOf 10 (.int .i64 r6) h5
  have h7 : (((((((W.setCell ⟨B, 5, none⟩ (.string r1)).setCell ⟨B, 6, none⟩ (.string r2)).setCell ⟨B, 7, none⟩ (.bool r3)).setCell ⟨B, 8, none⟩ (.bool r4)).setCell ⟨B, 9, none⟩ (.int .i64 r5)).setCell ⟨B, 10, none⟩ (.int .i64 r6)).setCell ⟨B, 11, none⟩ (.bool r7)).heap[B]? = some (.cells #[a0, a1, a2, a3, a4, .string r1, .string r2, .bool r3, .bool r4, .int .i64 r5, .int .i64 r6, .bool r7, a12, a13, a14, a15, a16, a17, a18] 29 (0, 0)) := setOf 11 (.bool r7) h6
  have h8 : ((((((((W.setCell ⟨B, 5, none⟩ (.string r1)).setCell ⟨B, 6, none⟩ (.string r2)).setCell ⟨B, 7, none⟩ (.bool r3)).setCell ⟨B, 8, none⟩ (.bool r4)).setCell ⟨B, 9, none⟩ (.int .i64 r5)).setCell ⟨B, 10, none⟩ (.int .i64 r6)).setCell ⟨B, 11, none⟩ (.bool r7)).setCell ⟨B, 12, none⟩ (.bool r8)).heap[B]? = some (.cells #[a0, a1, a2, a3, a4, .string r1, .string r2, .bool r3, .bool r4, .int .i64 r5, .int .i64 r6, .bool r7, .bool r8, a13, a14, a15, a16, a17, a18] 29 (0, 0)) := setOf 12 (.bool r8) h7
  have h9 : (((((((((W.setCell ⟨B, 5, none⟩ (.string r1)).setCell ⟨B, 6, none⟩ (.string r2)).setCell ⟨B, 7, none⟩ (.bool r3)).setCell ⟨B, 8, none⟩ (.bool r4)).setCell ⟨B, 9, none⟩ (.int .i64 r5)).setCell ⟨B, 10, none⟩ (.int .i64 r6)).setCell ⟨B, 11, none⟩ (.bool r7)).setCell ⟨B, 12, none⟩ (.bool r8)).setCell ⟨B, 13, none⟩ (.int .i64 r9)).heap[B]? = some (.cells #[a0, a1, a2, a3, a4, .string r1, .string r2, .bool r3, .bool r4, .int .i64 r5, .int .i64 r6, .bool r7, .bool r8, .int .i64 r9, a14, a15, a16, a17, a18] 29 (0, 0)) := setOf 13 (.int .i64 r9) h8
  have h10 : ((((((((((W.setCell ⟨B, 5, none⟩ (.string r1)).setCell ⟨B, 6, none⟩ (.string r2)).setCell ⟨B, 7, none⟩ (.bool r3)).setCell ⟨B, 8, none⟩ (.bool r4)).setCell ⟨B, 9, none⟩ (.int .i64 r5)).setCell ⟨B, 10, none⟩ (.int .i64 r6)).setCell ⟨B, 11, none⟩ (.bool r7)).setCell ⟨B, 12, none⟩ (.bool r8)).setCell ⟨B, 13, none⟩ (.int .i64 r9)).setCell ⟨B, 14, none⟩ (.int .i64 r10)).heap[B]? = some (.cells #[a0, a1, a2, a3, a4, .string r1, .string r2, .bool r3, .bool r4, .int .i64 r5, .int .i64 r6, .bool r7, .bool r8, .int .i64 r9, .int .i64 r10, a15, a16, a17, a18] 29 (0, 0)) := setOf 14 (.int .i64 r10) h9
  have h11 : (((((((((((W.setCell ⟨B, 5, none⟩ (.string r1)).setCell ⟨B, 6, none⟩ (.string r2)).setCell ⟨B, 7, none⟩ (.bool r3)).setCell ⟨B, 8, none⟩ (.bool r4)).setCell ⟨B, 9, none⟩ (.int .i64 r5)).setCell ⟨B, 10, none⟩ (.int .i64 r6)).setCell ⟨B, 11, none⟩ (.bool r7)).setCell ⟨B, 12, none⟩ (.bool r8)).setCell ⟨B, 13, none⟩ (.int .i64 r9)).setCell ⟨B, 14, none⟩ (.int .i64 r10)).setCell ⟨B, 15, none⟩ (.bool r11)).heap[B]? = some (.cells #[a0, a1, a2, a3, a4, .string r1, .string r2, .bool r3, .bool r4, .int .i64 r5, .int .i64 r6, .bool r7, .bool r8, .int .i64 r9, .int .i64 r10, .bool r11, a16, a17, a18] 29 (0, 0)) := setOf 15 (.bool r11) h10
  have h12 : ((((((((((((W.setCell ⟨B, 5, none⟩ (.string r1)).setCell ⟨B, 6, none⟩ (.string r2)).setCell ⟨B, 7, none⟩ (.bool r3)).setCell ⟨B, 8, none⟩ (.bool r4)).setCell ⟨B, 9, none⟩ (.int .i64 r5)).setCell ⟨B, 10, none⟩ (.int .i64 r6)).setCell ⟨B, 11, none⟩ (.bool r7)).setCell ⟨B, 12, none⟩ (.bool r8)).setCell ⟨B, 13, none⟩ (.int .i64 r9)).setCell ⟨B, 14, none⟩ (.int .i64 r10)).setCell ⟨B, 15, none⟩ (.bool r11)).setCell ⟨B, 16, none⟩ (.bool r12)).heap[B]? = some (.cells #[a0, a1, a2, a3, a4, .string r1, .string r2, .bool r3, .bool r4, .int .i64 r5, .int .i64 r6, .bool r7, .bool r8, .int .i64 r9, .int .i64 r10, .bool r11, .bool r12, a17, a18] 29 (0, 0)) := setOf 16 (.bool r12) h11
  exact h12
set_option maxRecDepth 100000 in
set_option maxHeartbeats 1000000 in
theorem tm_store12 {W : World} {B : Nat} (a0 a1 a2 a3 a4 a5 a6 a7 a8 a9 a10 a11 a12 a13 a14 a15 a16 a17 a18 : Value) (r1 r2 : ByteArray) (r3 r4 : Bool) (r5 r6 : Int) (r7 r8 : Bool) (r9 r10 : Int) (r11 r12 : Bool) (h0 : W.heap[B]? = some (.cells #[a0, a1, a2, a3, a4, a5, a6, a7, a8, a9, a10, a11, a12, a13, a14, a15, a16, a17, a18] 29 (0, 0))) : (Instr.storeAt 26 (.pointer (some ⟨B, 5, none⟩)) (.agg #[.string r1, .string r2, .bool r3, .bool r4, .int .i64 r5, .int .i64 r6, .bool r7, .bool r8, .int .i64 r9, .int .i64 r10, .bool r11, .bool r12])).run Tryz.prog W = .ok () ((((((((((((W.setCell ⟨B, 5, none⟩ (.string r1)).setCell ⟨B, 6, none⟩ (.string r2)).setCell ⟨B, 7, none⟩ (.bool r3)).setCell ⟨B, 8, none⟩ (.bool r4)).setCell ⟨B, 9, none⟩ (.int .i64 r5)).setCell ⟨B, 10, none⟩ (.int .i64 r6)).setCell ⟨B, 11, none⟩ (.bool r7)).setCell ⟨B, 12, none⟩ (.bool r8)).setCell ⟨B, 13, none⟩ (.int .i64 r9)).setCell ⟨B, 14, none⟩ (.int .i64 r10)).setCell ⟨B, 15, none⟩ (.bool r11)).setCell ⟨B, 16, none⟩ (.bool r12)) := by
  have hu := Tryz.underlying26
  have g5 := cellOf (o := 5) h0 rfl
  have f5 := freeOf 5 h0
  have g6 := cellOf (o := 6) h0 rfl
  have f6 := freeOf 6 h0
  have g7 := cellOf (o := 7) h0 rfl
  have f7 := freeOf 7 h0
  have g8 := cellOf (o := 8) h0 rfl
  have f8 := freeOf 8 h0
  have g9 := cellOf (o := 9) h0 rfl
  have f9 := freeOf 9 h0
  have g10 := cellOf (o := 10) h0 rfl
  have f10 := freeOf 10 h0
  have g11 := cellOf (o := 11) h0 rfl
  have f11 := freeOf 11 h0
  have g12 := cellOf (o := 12) h0 rfl
  have f12 := freeOf 12 h0
  have g13 := cellOf (o := 13) h0 rfl
  have f13 := freeOf 13 h0
  have g14 := cellOf (o := 14) h0 rfl
  have f14 := freeOf 14 h0
  have g15 := cellOf (o := 15) h0 rfl
  have f15 := freeOf 15 h0
  have g16 := cellOf (o := 16) h0 rfl
  have f16 := freeOf 16 h0
  simp [go_sem, g5, f5, g6, f6, g7, f7, g8, f8, g9, f9, g10, f10, g11, f11, g12, f12, g13, f13, g14, f14, g15, f15, g16, f16]
set_option maxRecDepth 100000 in
theorem tm_stored_ref {W : World} {B : Nat} {a0 a1 a2 a3 a4 a5 a6 a7 a8 a9 a10 a11 a12 a13 a14 a15 a16 a17 a18 : Value} (r1 r2 : ByteArray) (r3 r4 : Bool) (r5 r6 : Int) (r7 r8 : Bool) (r9 r10 : Int) (r11 r12 : Bool) (h0 : W.heap[B]? = some (.cells #[a0, a1, a2, a3, a4, a5, a6, a7, a8, a9, a10, a11, a12, a13, a14, a15, a16, a17, a18] 29 (0, 0))) : ∃ W', (Instr.storeAt 26 (.pointer (some ⟨B, 5, none⟩)) (.agg #[.string r1, .string r2, .bool r3, .bool r4, .int .i64 r5, .int .i64 r6, .bool r7, .bool r8, .int .i64 r9, .int .i64 r10, .bool r11, .bool r12])).run Tryz.prog W = .ok () W' ∧ W'.heap[B]? = some (.cells #[a0, a1, a2, a3, a4, .string r1, .string r2, .bool r3, .bool r4, .int .i64 r5, .int .i64 r6, .bool r7, .bool r8, .int .i64 r9, .int .i64 r10, .bool r11, .bool r12, a17, a18] 29 (0, 0)) ∧ Fr (oneB B) W W' :=
  ⟨_, tm_store12 a0 a1 a2 a3 a4 a5 a6 a7 a8 a9 a10 a11 a12 a13 a14 a15 a16 a17 a18 r1 r2 r3 r4 r5 r6 r7 r8 r9 r10 r11 r12 h0, tm_set12 a0 a1 a2 a3 a4 a5 a6 a7 a8 a9 a10 a11 a12 a13 a14 a15 a16 a17 a18 r1 r2 r3 r4 r5 r6 r7 r8 r9 r10 r11 r12 h0, (((((((((((((Fr.refl (oneB B) W).setOne 5 (.string r1)).setOne 6 (.string r2)).setOne 7 (.bool r3)).setOne 8 (.bool r4)).setOne 9 (.int .i64 r5)).setOne 10 (.int .i64 r6)).setOne 11 (.bool r7)).setOne 12 (.bool r8)).setOne 13 (.int .i64 r9)).setOne 14 (.int .i64 r10)).setOne 15 (.bool r11)).setOne 16 (.bool r12))⟩
set_option maxRecDepth 100000 in
set_option maxHeartbeats 2000000 in
theorem bare_p1 (x : Nat) (t : ByteArray) (er : Int) (nm : ByteArray) (r1 r2 : ByteArray) (r3 r4 : Bool) (r5 r6 : Int) (r7 r8 : Bool) (r9 r10 : Int) (r11 r12 : Bool) (rows : Int) (s : Value) (b o : Nat) (w : World) (h : RowAt w b o (TF.cells ⟨1, x, t, er, nm, r1, r2, r3, r4, r5, r6, r7, r8, r9, r10, r11, r12, rows⟩ s)) :
    Calls Tryz.prog 65 #[.pointer (some ⟨b, o, none⟩)] w fun e w' => e = .returned (.bool (bareF ⟨1, x, t, er, nm, r1, r2, r3, r4, r5, r6, r7, r8, r9, r10, r11, r12, rows⟩)) ∧ Fr noB w w' := by
  obtain ⟨W1, hW1, hB1, hF1⟩ := own_laid 1 w
  have h1 := h.fr hF1 id
  have HW1 : Hid _ := hW1
  have HZ : Hid _ := heap_alloc_new w (.cells #[.int .i64 0, .float .f64 0, .string ⟨#[]⟩, .int .i64 0, .string ⟨#[]⟩, .string ⟨#[]⟩, .string ⟨#[]⟩, .bool false, .bool false, .int .i64 0, .int .i64 0, .bool false, .bool false, .int .i64 0, .int .i64 0, .bool false, .bool false, .int .i64 0, .slice none 0 0] 29 (0, 0))
  have c0w := h.2 0 _ rfl
  simp only [Nat.add_zero] at c0w
  obtain ⟨W2, hW2⟩ : ∃ W2, W1.setCell ⟨w.heap.size, 1, none⟩ (.float .f64 x) = W2 := ⟨_, rfl⟩
  have hB2 : W2.heap[w.heap.size]? = some (.cells #[.int .i64 1, .float .f64 x, .string ⟨#[]⟩, .int .i64 0, .string ⟨#[]⟩, .string ⟨#[]⟩, .string ⟨#[]⟩, .bool false, .bool false, .int .i64 0, .int .i64 0, .bool false, .bool false, .int .i64 0, .int .i64 0, .bool false, .bool false, .int .i64 0, .slice none 0 0] 29 (0, 0)) := by rw [← hW2]; exact setOf 1 _ hB1
  have hF2 : Fr noB w W2 := by rw [← hW2]; exact hF1.setCell ⟨w.heap.size, 1, none⟩ (Or.inr (Nat.le_refl _)) _
  have h2 := h.fr hF2 id
  have HS : Hid (Calls Tryz.prog 95 #[.pointer (some ⟨b, o, none⟩), .pointer (some ⟨w.heap.size, 0, none⟩)] W2 fun e w' => e = .returned (.bool (bareF ⟨1, x, t, er, nm, r1, r2, r3, r4, r5, r6, r7, r8, r9, r10, r11, r12, rows⟩)) ∧ Fr noB W2 w') := by
    have hla : ∀ n, (Instr.loadAt 26 (.pointer (some ⟨b, o + 5, none⟩))).run Tryz.prog (W2.drewN n) = .ok (.agg #[.string r1, .string r2, .bool r3, .bool r4, .int .i64 r5, .int .i64 r6, .bool r7, .bool r8, .int .i64 r9, .int .i64 r10, .bool r11, .bool r12]) (W2.drewN n) := fun n => load_ref _ _ _ _ _ _ _ _ _ _ _ _ (fun j v hv => by
      have hj : j < 12 := by
        rcases Nat.lt_or_ge j 12 with e | e
        · exact e
        · rw [List.getElem?_eq_none (by simpa using e)] at hv; cases hv
      have e : W2.cell? ⟨b, o + (5 + j), none⟩ = some v := h2.2 (5 + j) v (by
        obtain rfl | rfl | rfl | rfl | rfl | rfl | rfl | rfl | rfl | rfl | rfl | rfl : j = 0 ∨ j = 1 ∨ j = 2 ∨ j = 3 ∨ j = 4 ∨ j = 5 ∨ j = 6 ∨ j = 7 ∨ j = 8 ∨ j = 9 ∨ j = 10 ∨ j = 11 := by omega
        all_goals exact hv)
      rw [show o + 5 + j = o + (5 + j) by omega]
      exact e)
    have hlb : ∀ n, (Instr.loadAt 26 (.pointer (some ⟨w.heap.size, 0 + 5, none⟩))).run Tryz.prog (W2.drewN n) = .ok (.agg #[.string ⟨#[]⟩, .string ⟨#[]⟩, .bool false, .bool false, .int .i64 0, .int .i64 0, .bool false, .bool false, .int .i64 0, .int .i64 0, .bool false, .bool false]) (W2.drewN n) := fun n => load_ref _ _ _ _ _ _ _ _ _ _ _ _ (fun j v hv => by
      have hj : j < 12 := by
        rcases Nat.lt_or_ge j 12 with e | e
        · exact e
        · rw [List.getElem?_eq_none (by simpa using e)] at hv; cases hv
      show W2.cell? _ = _
      rw [show 0 + 5 + j = j + 5 by omega]
      refine cellOf (o := j + 5) hB2 ?_
      obtain rfl | rfl | rfl | rfl | rfl | rfl | rfl | rfl | rfl | rfl | rfl | rfl : j = 0 ∨ j = 1 ∨ j = 2 ∨ j = 3 ∨ j = 4 ∨ j = 5 ∨ j = 6 ∨ j = 7 ∨ j = 8 ∨ j = 9 ∨ j = 10 ∨ j = 11 := by omega
      all_goals exact hv)
    have c0 := h2.2 0 _ rfl
    simp only [Nat.add_zero] at c0
    have H := same_any b o w.heap.size 0 1 1 x x t ⟨#[]⟩ er 0 nm ⟨#[]⟩ _ _ rows 0 _ W2 c0 (h2.2 1 _ rfl) (h2.2 2 _ rfl) (h2.2 3 _ rfl) (h2.2 4 _ rfl) (h2.2 17 _ rfl) (cellOf (o := 0) hB2 rfl) (cellOf (o := 1) hB2 rfl) (cellOf (o := 2) hB2 rfl) (cellOf (o := 3) hB2 rfl) (cellOf (o := 4) hB2 rfl) (cellOf (o := 17) hB2 rfl) hla hlb (eq_ref0 r1 r2 r3 r4 r5 r6 r7 r8 r9 r10 r11 r12)
    refine H.mono ?_
    rintro e w' ⟨rfl, hF⟩
    refine ⟨?_, hF⟩
    congr 2
    unfold bareF
    simp only [empl, beq_self_eq_true, Bool.true_and]
    try simp only [xz]
    simp
  have k0 := h1.2 0 _ rfl
  simp only [Nat.add_zero] at k0
  have kj := h1.2 1 _ rfl
  have bj := cellOf (o := 1) hB1 rfl
  have gj := freeOf 1 hB1
  have HF2 : Hid _ := hF2
  skip
  clear h h1 h2 hB1 hF1 hW1 hB2 hF2
  generalize bareF _ = B at *
  go_enter Tryz.func65, Tryz.ntmps65
  go_wp2_with (first
    | (refine wpList_store_row rfl 29 (.tmp 3) (.tmp 8) rfl w.heap.size #[.int .i64 1, .float .f64 0, .string ⟨#[]⟩, .int .i64 0, .string ⟨#[]⟩, .string ⟨#[]⟩, .string ⟨#[]⟩, .bool false, .bool false, .int .i64 0, .int .i64 0, .bool false, .bool false, .int .i64 0, .int .i64 0, .bool false, .bool false, .int .i64 0, .slice none 0 0] rfl rfl 29 _ HZ.out info_tm rfl (tm_one _ _ _ _ _ _ _ _ _ _ _ _ _ _ _ _ _ _ _ _ _) ?_; rw [HW1.out]; clear HW1 HZ c0w)
    | (go_at_call 95; (first | rw [hW2] | skip); refine HS.out.mono ?_; rintro e w3 ⟨rfl, hF3⟩))
  go_ret
  exact ⟨rfl, HF2.out.trans hF3⟩
set_option maxRecDepth 100000 in
set_option maxHeartbeats 2000000 in
theorem bare_p2 (x : Nat) (t : ByteArray) (er : Int) (nm : ByteArray) (r1 r2 : ByteArray) (r3 r4 : Bool) (r5 r6 : Int) (r7 r8 : Bool) (r9 r10 : Int) (r11 r12 : Bool) (rows : Int) (s : Value) (b o : Nat) (w : World) (h : RowAt w b o (TF.cells ⟨2, x, t, er, nm, r1, r2, r3, r4, r5, r6, r7, r8, r9, r10, r11, r12, rows⟩ s)) :
    Calls Tryz.prog 65 #[.pointer (some ⟨b, o, none⟩)] w fun e w' => e = .returned (.bool (bareF ⟨2, x, t, er, nm, r1, r2, r3, r4, r5, r6, r7, r8, r9, r10, r11, r12, rows⟩)) ∧ Fr noB w w' := by
  obtain ⟨W1, hW1, hB1, hF1⟩ := own_laid 2 w
  have h1 := h.fr hF1 id
  have HW1 : Hid _ := hW1
  have HZ : Hid _ := heap_alloc_new w (.cells #[.int .i64 0, .float .f64 0, .string ⟨#[]⟩, .int .i64 0, .string ⟨#[]⟩, .string ⟨#[]⟩, .string ⟨#[]⟩, .bool false, .bool false, .int .i64 0, .int .i64 0, .bool false, .bool false, .int .i64 0, .int .i64 0, .bool false, .bool false, .int .i64 0, .slice none 0 0] 29 (0, 0))
  have c0w := h.2 0 _ rfl
  simp only [Nat.add_zero] at c0w
  obtain ⟨W2, hW2⟩ : ∃ W2, W1.setCell ⟨w.heap.size, 2, none⟩ (.string t) = W2 := ⟨_, rfl⟩
  have hB2 : W2.heap[w.heap.size]? = some (.cells #[.int .i64 2, .float .f64 0, .string t, .int .i64 0, .string ⟨#[]⟩, .string ⟨#[]⟩, .string ⟨#[]⟩, .bool false, .bool false, .int .i64 0, .int .i64 0, .bool false, .bool false, .int .i64 0, .int .i64 0, .bool false, .bool false, .int .i64 0, .slice none 0 0] 29 (0, 0)) := by rw [← hW2]; exact setOf 2 _ hB1
  have hF2 : Fr noB w W2 := by rw [← hW2]; exact hF1.setCell ⟨w.heap.size, 2, none⟩ (Or.inr (Nat.le_refl _)) _
  have h2 := h.fr hF2 id
  have HS : Hid (Calls Tryz.prog 95 #[.pointer (some ⟨b, o, none⟩), .pointer (some ⟨w.heap.size, 0, none⟩)] W2 fun e w' => e = .returned (.bool (bareF ⟨2, x, t, er, nm, r1, r2, r3, r4, r5, r6, r7, r8, r9, r10, r11, r12, rows⟩)) ∧ Fr noB W2 w') := by
    have hla : ∀ n, (Instr.loadAt 26 (.pointer (some ⟨b, o + 5, none⟩))).run Tryz.prog (W2.drewN n) = .ok (.agg #[.string r1, .string r2, .bool r3, .bool r4, .int .i64 r5, .int .i64 r6, .bool r7, .bool r8, .int .i64 r9, .int .i64 r10, .bool r11, .bool r12]) (W2.drewN n) := fun n => load_ref _ _ _ _ _ _ _ _ _ _ _ _ (fun j v hv => by
      have hj : j < 12 := by
        rcases Nat.lt_or_ge j 12 with e | e
        · exact e
        · rw [List.getElem?_eq_none (by simpa using e)] at hv; cases hv
      have e : W2.cell? ⟨b, o + (5 + j), none⟩ = some v := h2.2 (5 + j) v (by
        obtain rfl | rfl | rfl | rfl | rfl | rfl | rfl | rfl | rfl | rfl | rfl | rfl : j = 0 ∨ j = 1 ∨ j = 2 ∨ j = 3 ∨ j = 4 ∨ j = 5 ∨ j = 6 ∨ j = 7 ∨ j = 8 ∨ j = 9 ∨ j = 10 ∨ j = 11 := by omega
        all_goals exact hv)
      rw [show o + 5 + j = o + (5 + j) by omega]
      exact e)
    have hlb : ∀ n, (Instr.loadAt 26 (.pointer (some ⟨w.heap.size, 0 + 5, none⟩))).run Tryz.prog (W2.drewN n) = .ok (.agg #[.string ⟨#[]⟩, .string ⟨#[]⟩, .bool false, .bool false, .int .i64 0, .int .i64 0, .bool false, .bool false, .int .i64 0, .int .i64 0, .bool false, .bool false]) (W2.drewN n) := fun n => load_ref _ _ _ _ _ _ _ _ _ _ _ _ (fun j v hv => by
      have hj : j < 12 := by
        rcases Nat.lt_or_ge j 12 with e | e
        · exact e
        · rw [List.getElem?_eq_none (by simpa using e)] at hv; cases hv
      show W2.cell? _ = _
      rw [show 0 + 5 + j = j + 5 by omega]
      refine cellOf (o := j + 5) hB2 ?_
      obtain rfl | rfl | rfl | rfl | rfl | rfl | rfl | rfl | rfl | rfl | rfl | rfl : j = 0 ∨ j = 1 ∨ j = 2 ∨ j = 3 ∨ j = 4 ∨ j = 5 ∨ j = 6 ∨ j = 7 ∨ j = 8 ∨ j = 9 ∨ j = 10 ∨ j = 11 := by omega
      all_goals exact hv)
    have c0 := h2.2 0 _ rfl
    simp only [Nat.add_zero] at c0
    have H := same_any b o w.heap.size 0 2 2 x 0 t t er 0 nm ⟨#[]⟩ _ _ rows 0 _ W2 c0 (h2.2 1 _ rfl) (h2.2 2 _ rfl) (h2.2 3 _ rfl) (h2.2 4 _ rfl) (h2.2 17 _ rfl) (cellOf (o := 0) hB2 rfl) (cellOf (o := 1) hB2 rfl) (cellOf (o := 2) hB2 rfl) (cellOf (o := 3) hB2 rfl) (cellOf (o := 4) hB2 rfl) (cellOf (o := 17) hB2 rfl) hla hlb (eq_ref0 r1 r2 r3 r4 r5 r6 r7 r8 r9 r10 r11 r12)
    refine H.mono ?_
    rintro e w' ⟨rfl, hF⟩
    refine ⟨?_, hF⟩
    congr 2
    unfold bareF
    simp only [empl, beq_self_eq_true, Bool.true_and]
    try simp only [xz]
    simp
  have k0 := h1.2 0 _ rfl
  simp only [Nat.add_zero] at k0
  have kj := h1.2 2 _ rfl
  have bj := cellOf (o := 2) hB1 rfl
  have gj := freeOf 2 hB1
  have HF2 : Hid _ := hF2
  skip
  clear h h1 h2 hB1 hF1 hW1 hB2 hF2
  generalize bareF _ = B at *
  go_enter Tryz.func65, Tryz.ntmps65
  go_wp2_with (first
    | (refine wpList_store_row rfl 29 (.tmp 3) (.tmp 8) rfl w.heap.size #[.int .i64 2, .float .f64 0, .string ⟨#[]⟩, .int .i64 0, .string ⟨#[]⟩, .string ⟨#[]⟩, .string ⟨#[]⟩, .bool false, .bool false, .int .i64 0, .int .i64 0, .bool false, .bool false, .int .i64 0, .int .i64 0, .bool false, .bool false, .int .i64 0, .slice none 0 0] rfl rfl 29 _ HZ.out info_tm rfl (tm_one _ _ _ _ _ _ _ _ _ _ _ _ _ _ _ _ _ _ _ _ _) ?_; rw [HW1.out]; clear HW1 HZ c0w)
    | (go_at_call 95; (first | rw [hW2] | skip); refine HS.out.mono ?_; rintro e w3 ⟨rfl, hF3⟩))
  go_ret
  exact ⟨rfl, HF2.out.trans hF3⟩
set_option maxRecDepth 100000 in
set_option maxHeartbeats 2000000 in
theorem bare_p3 (x : Nat) (t : ByteArray) (er : Int) (nm : ByteArray) (r1 r2 : ByteArray) (r3 r4 : Bool) (r5 r6 : Int) (r7 r8 : Bool) (r9 r10 : Int) (r11 r12 : Bool) (rows : Int) (s : Value) (b o : Nat) (w : World) (h : RowAt w b o (TF.cells ⟨3, x, t, er, nm, r1, r2, r3, r4, r5, r6, r7, r8, r9, r10, r11, r12, rows⟩ s)) :
    Calls Tryz.prog 65 #[.pointer (some ⟨b, o, none⟩)] w fun e w' => e = .returned (.bool (bareF ⟨3, x, t, er, nm, r1, r2, r3, r4, r5, r6, r7, r8, r9, r10, r11, r12, rows⟩)) ∧ Fr noB w w' := by
  obtain ⟨W1, hW1, hB1, hF1⟩ := own_laid 3 w
  have h1 := h.fr hF1 id
  have HW1 : Hid _ := hW1
  have HZ : Hid _ := heap_alloc_new w (.cells #[.int .i64 0, .float .f64 0, .string ⟨#[]⟩, .int .i64 0, .string ⟨#[]⟩, .string ⟨#[]⟩, .string ⟨#[]⟩, .bool false, .bool false, .int .i64 0, .int .i64 0, .bool false, .bool false, .int .i64 0, .int .i64 0, .bool false, .bool false, .int .i64 0, .slice none 0 0] 29 (0, 0))
  have c0w := h.2 0 _ rfl
  simp only [Nat.add_zero] at c0w
  obtain ⟨W2, hW2⟩ : ∃ W2, W1.setCell ⟨w.heap.size, 3, none⟩ (.int .i64 er) = W2 := ⟨_, rfl⟩
  have hB2 : W2.heap[w.heap.size]? = some (.cells #[.int .i64 3, .float .f64 0, .string ⟨#[]⟩, .int .i64 er, .string ⟨#[]⟩, .string ⟨#[]⟩, .string ⟨#[]⟩, .bool false, .bool false, .int .i64 0, .int .i64 0, .bool false, .bool false, .int .i64 0, .int .i64 0, .bool false, .bool false, .int .i64 0, .slice none 0 0] 29 (0, 0)) := by rw [← hW2]; exact setOf 3 _ hB1
  have hF2 : Fr noB w W2 := by rw [← hW2]; exact hF1.setCell ⟨w.heap.size, 3, none⟩ (Or.inr (Nat.le_refl _)) _
  have h2 := h.fr hF2 id
  have HS : Hid (Calls Tryz.prog 95 #[.pointer (some ⟨b, o, none⟩), .pointer (some ⟨w.heap.size, 0, none⟩)] W2 fun e w' => e = .returned (.bool (bareF ⟨3, x, t, er, nm, r1, r2, r3, r4, r5, r6, r7, r8, r9, r10, r11, r12, rows⟩)) ∧ Fr noB W2 w') := by
    have hla : ∀ n, (Instr.loadAt 26 (.pointer (some ⟨b, o + 5, none⟩))).run Tryz.prog (W2.drewN n) = .ok (.agg #[.string r1, .string r2, .bool r3, .bool r4, .int .i64 r5, .int .i64 r6, .bool r7, .bool r8, .int .i64 r9, .int .i64 r10, .bool r11, .bool r12]) (W2.drewN n) := fun n => load_ref _ _ _ _ _ _ _ _ _ _ _ _ (fun j v hv => by
      have hj : j < 12 := by
        rcases Nat.lt_or_ge j 12 with e | e
        · exact e
        · rw [List.getElem?_eq_none (by simpa using e)] at hv; cases hv
      have e : W2.cell? ⟨b, o + (5 + j), none⟩ = some v := h2.2 (5 + j) v (by
        obtain rfl | rfl | rfl | rfl | rfl | rfl | rfl | rfl | rfl | rfl | rfl | rfl : j = 0 ∨ j = 1 ∨ j = 2 ∨ j = 3 ∨ j = 4 ∨ j = 5 ∨ j = 6 ∨ j = 7 ∨ j = 8 ∨ j = 9 ∨ j = 10 ∨ j = 11 := by omega
        all_goals exact hv)
      rw [show o + 5 + j = o + (5 + j) by omega]
      exact e)
    have hlb : ∀ n, (Instr.loadAt 26 (.pointer (some ⟨w.heap.size, 0 + 5, none⟩))).run Tryz.prog (W2.drewN n) = .ok (.agg #[.string ⟨#[]⟩, .string ⟨#[]⟩, .bool false, .bool false, .int .i64 0, .int .i64 0, .bool false, .bool false, .int .i64 0, .int .i64 0, .bool false, .bool false]) (W2.drewN n) := fun n => load_ref _ _ _ _ _ _ _ _ _ _ _ _ (fun j v hv => by
      have hj : j < 12 := by
        rcases Nat.lt_or_ge j 12 with e | e
        · exact e
        · rw [List.getElem?_eq_none (by simpa using e)] at hv; cases hv
      show W2.cell? _ = _
      rw [show 0 + 5 + j = j + 5 by omega]
      refine cellOf (o := j + 5) hB2 ?_
      obtain rfl | rfl | rfl | rfl | rfl | rfl | rfl | rfl | rfl | rfl | rfl | rfl : j = 0 ∨ j = 1 ∨ j = 2 ∨ j = 3 ∨ j = 4 ∨ j = 5 ∨ j = 6 ∨ j = 7 ∨ j = 8 ∨ j = 9 ∨ j = 10 ∨ j = 11 := by omega
      all_goals exact hv)
    have c0 := h2.2 0 _ rfl
    simp only [Nat.add_zero] at c0
    have H := same_any b o w.heap.size 0 3 3 x 0 t ⟨#[]⟩ er er nm ⟨#[]⟩ _ _ rows 0 _ W2 c0 (h2.2 1 _ rfl) (h2.2 2 _ rfl) (h2.2 3 _ rfl) (h2.2 4 _ rfl) (h2.2 17 _ rfl) (cellOf (o := 0) hB2 rfl) (cellOf (o := 1) hB2 rfl) (cellOf (o := 2) hB2 rfl) (cellOf (o := 3) hB2 rfl) (cellOf (o := 4) hB2 rfl) (cellOf (o := 17) hB2 rfl) hla hlb (eq_ref0 r1 r2 r3 r4 r5 r6 r7 r8 r9 r10 r11 r12)
    refine H.mono ?_
    rintro e w' ⟨rfl, hF⟩
    refine ⟨?_, hF⟩
    congr 2
    unfold bareF
    simp only [empl, beq_self_eq_true, Bool.true_and]
    try simp only [xz]
    simp
  have k0 := h1.2 0 _ rfl
  simp only [Nat.add_zero] at k0
  have kj := h1.2 3 _ rfl
  have bj := cellOf (o := 3) hB1 rfl
  have gj := freeOf 3 hB1
  have HF2 : Hid _ := hF2
  skip
  clear h h1 h2 hB1 hF1 hW1 hB2 hF2
  generalize bareF _ = B at *
  go_enter Tryz.func65, Tryz.ntmps65
  go_wp2_with (first
    | (refine wpList_store_row rfl 29 (.tmp 3) (.tmp 8) rfl w.heap.size #[.int .i64 3, .float .f64 0, .string ⟨#[]⟩, .int .i64 0, .string ⟨#[]⟩, .string ⟨#[]⟩, .string ⟨#[]⟩, .bool false, .bool false, .int .i64 0, .int .i64 0, .bool false, .bool false, .int .i64 0, .int .i64 0, .bool false, .bool false, .int .i64 0, .slice none 0 0] rfl rfl 29 _ HZ.out info_tm rfl (tm_one _ _ _ _ _ _ _ _ _ _ _ _ _ _ _ _ _ _ _ _ _) ?_; rw [HW1.out]; clear HW1 HZ c0w)
    | (go_at_call 95; (first | rw [hW2] | skip); refine HS.out.mono ?_; rintro e w3 ⟨rfl, hF3⟩))
  go_ret
  exact ⟨rfl, HF2.out.trans hF3⟩
set_option maxRecDepth 100000 in
set_option maxHeartbeats 2000000 in
theorem bare_p4 (x : Nat) (t : ByteArray) (er : Int) (nm : ByteArray) (r1 r2 : ByteArray) (r3 r4 : Bool) (r5 r6 : Int) (r7 r8 : Bool) (r9 r10 : Int) (r11 r12 : Bool) (rows : Int) (s : Value) (b o : Nat) (w : World) (h : RowAt w b o (TF.cells ⟨4, x, t, er, nm, r1, r2, r3, r4, r5, r6, r7, r8, r9, r10, r11, r12, rows⟩ s)) :
    Calls Tryz.prog 65 #[.pointer (some ⟨b, o, none⟩)] w fun e w' => e = .returned (.bool (bareF ⟨4, x, t, er, nm, r1, r2, r3, r4, r5, r6, r7, r8, r9, r10, r11, r12, rows⟩)) ∧ Fr noB w w' := by
  obtain ⟨W1, hW1, hB1, hF1⟩ := own_laid 4 w
  have h1 := h.fr hF1 id
  have HW1 : Hid _ := hW1
  have HZ : Hid _ := heap_alloc_new w (.cells #[.int .i64 0, .float .f64 0, .string ⟨#[]⟩, .int .i64 0, .string ⟨#[]⟩, .string ⟨#[]⟩, .string ⟨#[]⟩, .bool false, .bool false, .int .i64 0, .int .i64 0, .bool false, .bool false, .int .i64 0, .int .i64 0, .bool false, .bool false, .int .i64 0, .slice none 0 0] 29 (0, 0))
  have c0w := h.2 0 _ rfl
  simp only [Nat.add_zero] at c0w
  obtain ⟨W2, hS, hB2, hF2⟩ := tm_stored_ref r1 r2 r3 r4 r5 r6 r7 r8 r9 r10 r11 r12 hB1
  have hF2 : Fr noB w W2 := hF1.then hF2 (fun k hk => Or.inr (by unfold oneB at hk; omega))
  have h2 := h.fr hF2 id
  have HS : Hid (Calls Tryz.prog 95 #[.pointer (some ⟨b, o, none⟩), .pointer (some ⟨w.heap.size, 0, none⟩)] W2 fun e w' => e = .returned (.bool (bareF ⟨4, x, t, er, nm, r1, r2, r3, r4, r5, r6, r7, r8, r9, r10, r11, r12, rows⟩)) ∧ Fr noB W2 w') := by
    have hla : ∀ n, (Instr.loadAt 26 (.pointer (some ⟨b, o + 5, none⟩))).run Tryz.prog (W2.drewN n) = .ok (.agg #[.string r1, .string r2, .bool r3, .bool r4, .int .i64 r5, .int .i64 r6, .bool r7, .bool r8, .int .i64 r9, .int .i64 r10, .bool r11, .bool r12]) (W2.drewN n) := fun n => load_ref _ _ _ _ _ _ _ _ _ _ _ _ (fun j v hv => by
      have hj : j < 12 := by
        rcases Nat.lt_or_ge j 12 with e | e
        · exact e
        · rw [List.getElem?_eq_none (by simpa using e)] at hv; cases hv
      have e : W2.cell? ⟨b, o + (5 + j), none⟩ = some v := h2.2 (5 + j) v (by
        obtain rfl | rfl | rfl | rfl | rfl | rfl | rfl | rfl | rfl | rfl | rfl | rfl : j = 0 ∨ j = 1 ∨ j = 2 ∨ j = 3 ∨ j = 4 ∨ j = 5 ∨ j = 6 ∨ j = 7 ∨ j = 8 ∨ j = 9 ∨ j = 10 ∨ j = 11 := by omega
        all_goals exact hv)
      rw [show o + 5 + j = o + (5 + j) by omega]
      exact e)
    have hlb : ∀ n, (Instr.loadAt 26 (.pointer (some ⟨w.heap.size, 0 + 5, none⟩))).run Tryz.prog (W2.drewN n) = .ok (.agg #[.string r1, .string r2, .bool r3, .bool r4, .int .i64 r5, .int .i64 r6, .bool r7, .bool r8, .int .i64 r9, .int .i64 r10, .bool r11, .bool r12]) (W2.drewN n) := fun n => load_ref _ _ _ _ _ _ _ _ _ _ _ _ (fun j v hv => by
      have hj : j < 12 := by
        rcases Nat.lt_or_ge j 12 with e | e
        · exact e
        · rw [List.getElem?_eq_none (by simpa using e)] at hv; cases hv
      show W2.cell? _ = _
      rw [show 0 + 5 + j = j + 5 by omega]
      refine cellOf (o := j + 5) hB2 ?_
      obtain rfl | rfl | rfl | rfl | rfl | rfl | rfl | rfl | rfl | rfl | rfl | rfl : j = 0 ∨ j = 1 ∨ j = 2 ∨ j = 3 ∨ j = 4 ∨ j = 5 ∨ j = 6 ∨ j = 7 ∨ j = 8 ∨ j = 9 ∨ j = 10 ∨ j = 11 := by omega
      all_goals exact hv)
    have c0 := h2.2 0 _ rfl
    simp only [Nat.add_zero] at c0
    have H := same_any b o w.heap.size 0 4 4 x 0 t ⟨#[]⟩ er 0 nm ⟨#[]⟩ _ _ rows 0 _ W2 c0 (h2.2 1 _ rfl) (h2.2 2 _ rfl) (h2.2 3 _ rfl) (h2.2 4 _ rfl) (h2.2 17 _ rfl) (cellOf (o := 0) hB2 rfl) (cellOf (o := 1) hB2 rfl) (cellOf (o := 2) hB2 rfl) (cellOf (o := 3) hB2 rfl) (cellOf (o := 4) hB2 rfl) (cellOf (o := 17) hB2 rfl) hla hlb (eq_refs r1 r2 r3 r4 r5 r6 r7 r8 r9 r10 r11 r12)
    refine H.mono ?_
    rintro e w' ⟨rfl, hF⟩
    refine ⟨?_, hF⟩
    congr 2
    unfold bareF
    simp only [empl, beq_self_eq_true, Bool.true_and]
    try simp only [xz]
    simp
  have k0 := h1.2 0 _ rfl
  simp only [Nat.add_zero] at k0
  have HLR : Hid ((Instr.loadAt 26 (.pointer (some ⟨b, o + 5, none⟩))).run Tryz.prog W1 = .ok (.agg #[.string r1, .string r2, .bool r3, .bool r4, .int .i64 r5, .int .i64 r6, .bool r7, .bool r8, .int .i64 r9, .int .i64 r10, .bool r11, .bool r12]) W1) := load_ref _ _ _ _ _ _ _ _ _ _ _ _ (fun j v hv => by
    have hj : j < 12 := by
      rcases Nat.lt_or_ge j 12 with e | e
      · exact e
      · rw [List.getElem?_eq_none (by simpa using e)] at hv; cases hv
    have e : W1.cell? ⟨b, o + (5 + j), none⟩ = some v := h1.2 (5 + j) v (by
        obtain rfl | rfl | rfl | rfl | rfl | rfl | rfl | rfl | rfl | rfl | rfl | rfl : j = 0 ∨ j = 1 ∨ j = 2 ∨ j = 3 ∨ j = 4 ∨ j = 5 ∨ j = 6 ∨ j = 7 ∨ j = 8 ∨ j = 9 ∨ j = 10 ∨ j = 11 := by omega
        all_goals exact hv)
    rw [show o + 5 + j = o + (5 + j) by omega]
    exact e)
  have HSR : Hid _ := hS
  have HF2 : Hid _ := hF2
  clear hS
  clear h h1 h2 hB1 hF1 hW1 hB2 hF2
  generalize bareF _ = B at *
  go_enter Tryz.func65, Tryz.ntmps65
  go_wp2_with (first
    | (refine wpList_store_row rfl 29 (.tmp 3) (.tmp 8) rfl w.heap.size #[.int .i64 4, .float .f64 0, .string ⟨#[]⟩, .int .i64 0, .string ⟨#[]⟩, .string ⟨#[]⟩, .string ⟨#[]⟩, .bool false, .bool false, .int .i64 0, .int .i64 0, .bool false, .bool false, .int .i64 0, .int .i64 0, .bool false, .bool false, .int .i64 0, .slice none 0 0] rfl rfl 29 _ HZ.out info_tm rfl (tm_one _ _ _ _ _ _ _ _ _ _ _ _ _ _ _ _ _ _ _ _ _) ?_; rw [HW1.out]; clear HW1 HZ c0w)
    | (refine wpList_load_run rfl 26 (.tmp 38) rfl _ _ rfl HLR.out ?_)
    | (refine wpList_store_run rfl 26 (.tmp 40) (.tmp 39) rfl _ _ rfl rfl HSR.out ?_)
    | (go_at_call 95; refine HS.out.mono ?_; rintro e w3 ⟨rfl, hF3⟩))
  go_ret
  exact ⟨rfl, HF2.out.trans hF3⟩
set_option maxRecDepth 100000 in
set_option maxHeartbeats 2000000 in
theorem bare_p5 (x : Nat) (t : ByteArray) (er : Int) (nm : ByteArray) (r1 r2 : ByteArray) (r3 r4 : Bool) (r5 r6 : Int) (r7 r8 : Bool) (r9 r10 : Int) (r11 r12 : Bool) (rows : Int) (s : Value) (b o : Nat) (w : World) (h : RowAt w b o (TF.cells ⟨5, x, t, er, nm, r1, r2, r3, r4, r5, r6, r7, r8, r9, r10, r11, r12, rows⟩ s)) :
    Calls Tryz.prog 65 #[.pointer (some ⟨b, o, none⟩)] w fun e w' => e = .returned (.bool (bareF ⟨5, x, t, er, nm, r1, r2, r3, r4, r5, r6, r7, r8, r9, r10, r11, r12, rows⟩)) ∧ Fr noB w w' := by
  obtain ⟨W1, hW1, hB1, hF1⟩ := own_laid 5 w
  have h1 := h.fr hF1 id
  have HW1 : Hid _ := hW1
  have HZ : Hid _ := heap_alloc_new w (.cells #[.int .i64 0, .float .f64 0, .string ⟨#[]⟩, .int .i64 0, .string ⟨#[]⟩, .string ⟨#[]⟩, .string ⟨#[]⟩, .bool false, .bool false, .int .i64 0, .int .i64 0, .bool false, .bool false, .int .i64 0, .int .i64 0, .bool false, .bool false, .int .i64 0, .slice none 0 0] 29 (0, 0))
  have c0w := h.2 0 _ rfl
  simp only [Nat.add_zero] at c0w
  obtain ⟨W2, hW2⟩ : ∃ W2, W1.setCell ⟨w.heap.size, 4, none⟩ (.string nm) = W2 := ⟨_, rfl⟩
  have hB2 : W2.heap[w.heap.size]? = some (.cells #[.int .i64 5, .float .f64 0, .string ⟨#[]⟩, .int .i64 0, .string nm, .string ⟨#[]⟩, .string ⟨#[]⟩, .bool false, .bool false, .int .i64 0, .int .i64 0, .bool false, .bool false, .int .i64 0, .int .i64 0, .bool false, .bool false, .int .i64 0, .slice none 0 0] 29 (0, 0)) := by rw [← hW2]; exact setOf 4 _ hB1
  have hF2 : Fr noB w W2 := by rw [← hW2]; exact hF1.setCell ⟨w.heap.size, 4, none⟩ (Or.inr (Nat.le_refl _)) _
  have h2 := h.fr hF2 id
  have HS : Hid (Calls Tryz.prog 95 #[.pointer (some ⟨b, o, none⟩), .pointer (some ⟨w.heap.size, 0, none⟩)] W2 fun e w' => e = .returned (.bool (bareF ⟨5, x, t, er, nm, r1, r2, r3, r4, r5, r6, r7, r8, r9, r10, r11, r12, rows⟩)) ∧ Fr noB W2 w') := by
    have hla : ∀ n, (Instr.loadAt 26 (.pointer (some ⟨b, o + 5, none⟩))).run Tryz.prog (W2.drewN n) = .ok (.agg #[.string r1, .string r2, .bool r3, .bool r4, .int .i64 r5, .int .i64 r6, .bool r7, .bool r8, .int .i64 r9, .int .i64 r10, .bool r11, .bool r12]) (W2.drewN n) := fun n => load_ref _ _ _ _ _ _ _ _ _ _ _ _ (fun j v hv => by
      have hj : j < 12 := by
        rcases Nat.lt_or_ge j 12 with e | e
        · exact e
        · rw [List.getElem?_eq_none (by simpa using e)] at hv; cases hv
      have e : W2.cell? ⟨b, o + (5 + j), none⟩ = some v := h2.2 (5 + j) v (by
        obtain rfl | rfl | rfl | rfl | rfl | rfl | rfl | rfl | rfl | rfl | rfl | rfl : j = 0 ∨ j = 1 ∨ j = 2 ∨ j = 3 ∨ j = 4 ∨ j = 5 ∨ j = 6 ∨ j = 7 ∨ j = 8 ∨ j = 9 ∨ j = 10 ∨ j = 11 := by omega
        all_goals exact hv)
      rw [show o + 5 + j = o + (5 + j) by omega]
      exact e)
    have hlb : ∀ n, (Instr.loadAt 26 (.pointer (some ⟨w.heap.size, 0 + 5, none⟩))).run Tryz.prog (W2.drewN n) = .ok (.agg #[.string ⟨#[]⟩, .string ⟨#[]⟩, .bool false, .bool false, .int .i64 0, .int .i64 0, .bool false, .bool false, .int .i64 0, .int .i64 0, .bool false, .bool false]) (W2.drewN n) := fun n => load_ref _ _ _ _ _ _ _ _ _ _ _ _ (fun j v hv => by
      have hj : j < 12 := by
        rcases Nat.lt_or_ge j 12 with e | e
        · exact e
        · rw [List.getElem?_eq_none (by simpa using e)] at hv; cases hv
      show W2.cell? _ = _
      rw [show 0 + 5 + j = j + 5 by omega]
      refine cellOf (o := j + 5) hB2 ?_
      obtain rfl | rfl | rfl | rfl | rfl | rfl | rfl | rfl | rfl | rfl | rfl | rfl : j = 0 ∨ j = 1 ∨ j = 2 ∨ j = 3 ∨ j = 4 ∨ j = 5 ∨ j = 6 ∨ j = 7 ∨ j = 8 ∨ j = 9 ∨ j = 10 ∨ j = 11 := by omega
      all_goals exact hv)
    have c0 := h2.2 0 _ rfl
    simp only [Nat.add_zero] at c0
    have H := same_any b o w.heap.size 0 5 5 x 0 t ⟨#[]⟩ er 0 nm nm _ _ rows 0 _ W2 c0 (h2.2 1 _ rfl) (h2.2 2 _ rfl) (h2.2 3 _ rfl) (h2.2 4 _ rfl) (h2.2 17 _ rfl) (cellOf (o := 0) hB2 rfl) (cellOf (o := 1) hB2 rfl) (cellOf (o := 2) hB2 rfl) (cellOf (o := 3) hB2 rfl) (cellOf (o := 4) hB2 rfl) (cellOf (o := 17) hB2 rfl) hla hlb (eq_ref0 r1 r2 r3 r4 r5 r6 r7 r8 r9 r10 r11 r12)
    refine H.mono ?_
    rintro e w' ⟨rfl, hF⟩
    refine ⟨?_, hF⟩
    congr 2
    unfold bareF
    simp only [empl, beq_self_eq_true, Bool.true_and]
    try simp only [xz]
    simp
  have k0 := h1.2 0 _ rfl
  simp only [Nat.add_zero] at k0
  have kj := h1.2 4 _ rfl
  have bj := cellOf (o := 4) hB1 rfl
  have gj := freeOf 4 hB1
  have HF2 : Hid _ := hF2
  skip
  clear h h1 h2 hB1 hF1 hW1 hB2 hF2
  generalize bareF _ = B at *
  go_enter Tryz.func65, Tryz.ntmps65
  go_wp2_with (first
    | (refine wpList_store_row rfl 29 (.tmp 3) (.tmp 8) rfl w.heap.size #[.int .i64 5, .float .f64 0, .string ⟨#[]⟩, .int .i64 0, .string ⟨#[]⟩, .string ⟨#[]⟩, .string ⟨#[]⟩, .bool false, .bool false, .int .i64 0, .int .i64 0, .bool false, .bool false, .int .i64 0, .int .i64 0, .bool false, .bool false, .int .i64 0, .slice none 0 0] rfl rfl 29 _ HZ.out info_tm rfl (tm_one _ _ _ _ _ _ _ _ _ _ _ _ _ _ _ _ _ _ _ _ _) ?_; rw [HW1.out]; clear HW1 HZ c0w)
    | (go_at_call 95; (first | rw [hW2] | skip); refine HS.out.mono ?_; rintro e w3 ⟨rfl, hF3⟩))
  go_ret
  exact ⟨rfl, HF2.out.trans hF3⟩
set_option maxRecDepth 100000 in
set_option maxHeartbeats 2000000 in
theorem bare_p6 (x : Nat) (t : ByteArray) (er : Int) (nm : ByteArray) (r1 r2 : ByteArray) (r3 r4 : Bool) (r5 r6 : Int) (r7 r8 : Bool) (r9 r10 : Int) (r11 r12 : Bool) (rows : Int) (s : Value) (b o : Nat) (w : World) (h : RowAt w b o (TF.cells ⟨6, x, t, er, nm, r1, r2, r3, r4, r5, r6, r7, r8, r9, r10, r11, r12, rows⟩ s)) :
    Calls Tryz.prog 65 #[.pointer (some ⟨b, o, none⟩)] w fun e w' => e = .returned (.bool (bareF ⟨6, x, t, er, nm, r1, r2, r3, r4, r5, r6, r7, r8, r9, r10, r11, r12, rows⟩)) ∧ Fr noB w w' := by
  obtain ⟨W1, hW1, hB1, hF1⟩ := own_laid 6 w
  have h1 := h.fr hF1 id
  have HW1 : Hid _ := hW1
  have HZ : Hid _ := heap_alloc_new w (.cells #[.int .i64 0, .float .f64 0, .string ⟨#[]⟩, .int .i64 0, .string ⟨#[]⟩, .string ⟨#[]⟩, .string ⟨#[]⟩, .bool false, .bool false, .int .i64 0, .int .i64 0, .bool false, .bool false, .int .i64 0, .int .i64 0, .bool false, .bool false, .int .i64 0, .slice none 0 0] 29 (0, 0))
  have c0w := h.2 0 _ rfl
  simp only [Nat.add_zero] at c0w
  obtain ⟨W2, hW2⟩ : ∃ W2, W1.setCell ⟨w.heap.size, 4, none⟩ (.string nm) = W2 := ⟨_, rfl⟩
  have hB2 : W2.heap[w.heap.size]? = some (.cells #[.int .i64 6, .float .f64 0, .string ⟨#[]⟩, .int .i64 0, .string nm, .string ⟨#[]⟩, .string ⟨#[]⟩, .bool false, .bool false, .int .i64 0, .int .i64 0, .bool false, .bool false, .int .i64 0, .int .i64 0, .bool false, .bool false, .int .i64 0, .slice none 0 0] 29 (0, 0)) := by rw [← hW2]; exact setOf 4 _ hB1
  have hF2 : Fr noB w W2 := by rw [← hW2]; exact hF1.setCell ⟨w.heap.size, 4, none⟩ (Or.inr (Nat.le_refl _)) _
  have h2 := h.fr hF2 id
  have HS : Hid (Calls Tryz.prog 95 #[.pointer (some ⟨b, o, none⟩), .pointer (some ⟨w.heap.size, 0, none⟩)] W2 fun e w' => e = .returned (.bool (bareF ⟨6, x, t, er, nm, r1, r2, r3, r4, r5, r6, r7, r8, r9, r10, r11, r12, rows⟩)) ∧ Fr noB W2 w') := by
    have hla : ∀ n, (Instr.loadAt 26 (.pointer (some ⟨b, o + 5, none⟩))).run Tryz.prog (W2.drewN n) = .ok (.agg #[.string r1, .string r2, .bool r3, .bool r4, .int .i64 r5, .int .i64 r6, .bool r7, .bool r8, .int .i64 r9, .int .i64 r10, .bool r11, .bool r12]) (W2.drewN n) := fun n => load_ref _ _ _ _ _ _ _ _ _ _ _ _ (fun j v hv => by
      have hj : j < 12 := by
        rcases Nat.lt_or_ge j 12 with e | e
        · exact e
        · rw [List.getElem?_eq_none (by simpa using e)] at hv; cases hv
      have e : W2.cell? ⟨b, o + (5 + j), none⟩ = some v := h2.2 (5 + j) v (by
        obtain rfl | rfl | rfl | rfl | rfl | rfl | rfl | rfl | rfl | rfl | rfl | rfl : j = 0 ∨ j = 1 ∨ j = 2 ∨ j = 3 ∨ j = 4 ∨ j = 5 ∨ j = 6 ∨ j = 7 ∨ j = 8 ∨ j = 9 ∨ j = 10 ∨ j = 11 := by omega
        all_goals exact hv)
      rw [show o + 5 + j = o + (5 + j) by omega]
      exact e)
    have hlb : ∀ n, (Instr.loadAt 26 (.pointer (some ⟨w.heap.size, 0 + 5, none⟩))).run Tryz.prog (W2.drewN n) = .ok (.agg #[.string ⟨#[]⟩, .string ⟨#[]⟩, .bool false, .bool false, .int .i64 0, .int .i64 0, .bool false, .bool false, .int .i64 0, .int .i64 0, .bool false, .bool false]) (W2.drewN n) := fun n => load_ref _ _ _ _ _ _ _ _ _ _ _ _ (fun j v hv => by
      have hj : j < 12 := by
        rcases Nat.lt_or_ge j 12 with e | e
        · exact e
        · rw [List.getElem?_eq_none (by simpa using e)] at hv; cases hv
      show W2.cell? _ = _
      rw [show 0 + 5 + j = j + 5 by omega]
      refine cellOf (o := j + 5) hB2 ?_
      obtain rfl | rfl | rfl | rfl | rfl | rfl | rfl | rfl | rfl | rfl | rfl | rfl : j = 0 ∨ j = 1 ∨ j = 2 ∨ j = 3 ∨ j = 4 ∨ j = 5 ∨ j = 6 ∨ j = 7 ∨ j = 8 ∨ j = 9 ∨ j = 10 ∨ j = 11 := by omega
      all_goals exact hv)
    have c0 := h2.2 0 _ rfl
    simp only [Nat.add_zero] at c0
    have H := same_any b o w.heap.size 0 6 6 x 0 t ⟨#[]⟩ er 0 nm nm _ _ rows 0 _ W2 c0 (h2.2 1 _ rfl) (h2.2 2 _ rfl) (h2.2 3 _ rfl) (h2.2 4 _ rfl) (h2.2 17 _ rfl) (cellOf (o := 0) hB2 rfl) (cellOf (o := 1) hB2 rfl) (cellOf (o := 2) hB2 rfl) (cellOf (o := 3) hB2 rfl) (cellOf (o := 4) hB2 rfl) (cellOf (o := 17) hB2 rfl) hla hlb (eq_ref0 r1 r2 r3 r4 r5 r6 r7 r8 r9 r10 r11 r12)
    refine H.mono ?_
    rintro e w' ⟨rfl, hF⟩
    refine ⟨?_, hF⟩
    congr 2
    unfold bareF
    simp only [empl, beq_self_eq_true, Bool.true_and]
    try simp only [xz]
    simp
  have k0 := h1.2 0 _ rfl
  simp only [Nat.add_zero] at k0
  have kj := h1.2 4 _ rfl
  have bj := cellOf (o := 4) hB1 rfl
  have gj := freeOf 4 hB1
  have HF2 : Hid _ := hF2
  skip
  clear h h1 h2 hB1 hF1 hW1 hB2 hF2
  generalize bareF _ = B at *
  go_enter Tryz.func65, Tryz.ntmps65
  go_wp2_with (first
    | (refine wpList_store_row rfl 29 (.tmp 3) (.tmp 8) rfl w.heap.size #[.int .i64 6, .float .f64 0, .string ⟨#[]⟩, .int .i64 0, .string ⟨#[]⟩, .string ⟨#[]⟩, .string ⟨#[]⟩, .bool false, .bool false, .int .i64 0, .int .i64 0, .bool false, .bool false, .int .i64 0, .int .i64 0, .bool false, .bool false, .int .i64 0, .slice none 0 0] rfl rfl 29 _ HZ.out info_tm rfl (tm_one _ _ _ _ _ _ _ _ _ _ _ _ _ _ _ _ _ _ _ _ _) ?_; rw [HW1.out]; clear HW1 HZ c0w)
    | (go_at_call 95; (first | rw [hW2] | skip); refine HS.out.mono ?_; rintro e w3 ⟨rfl, hF3⟩))
  go_ret
  exact ⟨rfl, HF2.out.trans hF3⟩
set_option maxRecDepth 100000 in
set_option maxHeartbeats 2000000 in
theorem bare_p7 (x : Nat) (t : ByteArray) (er : Int) (nm : ByteArray) (r1 r2 : ByteArray) (r3 r4 : Bool) (r5 r6 : Int) (r7 r8 : Bool) (r9 r10 : Int) (r11 r12 : Bool) (rows : Int) (s : Value) (b o : Nat) (w : World) (h : RowAt w b o (TF.cells ⟨7, x, t, er, nm, r1, r2, r3, r4, r5, r6, r7, r8, r9, r10, r11, r12, rows⟩ s)) :
    Calls Tryz.prog 65 #[.pointer (some ⟨b, o, none⟩)] w fun e w' => e = .returned (.bool (bareF ⟨7, x, t, er, nm, r1, r2, r3, r4, r5, r6, r7, r8, r9, r10, r11, r12, rows⟩)) ∧ Fr noB w w' := by
  obtain ⟨W1, hW1, hB1, hF1⟩ := own_laid 7 w
  have h1 := h.fr hF1 id
  have HW1 : Hid _ := hW1
  have HZ : Hid _ := heap_alloc_new w (.cells #[.int .i64 0, .float .f64 0, .string ⟨#[]⟩, .int .i64 0, .string ⟨#[]⟩, .string ⟨#[]⟩, .string ⟨#[]⟩, .bool false, .bool false, .int .i64 0, .int .i64 0, .bool false, .bool false, .int .i64 0, .int .i64 0, .bool false, .bool false, .int .i64 0, .slice none 0 0] 29 (0, 0))
  have c0w := h.2 0 _ rfl
  simp only [Nat.add_zero] at c0w
  obtain ⟨W2, hW2⟩ : ∃ W2, W1.setCell ⟨w.heap.size, 17, none⟩ (.int .i64 rows) = W2 := ⟨_, rfl⟩
  have hB2 : W2.heap[w.heap.size]? = some (.cells #[.int .i64 7, .float .f64 0, .string ⟨#[]⟩, .int .i64 0, .string ⟨#[]⟩, .string ⟨#[]⟩, .string ⟨#[]⟩, .bool false, .bool false, .int .i64 0, .int .i64 0, .bool false, .bool false, .int .i64 0, .int .i64 0, .bool false, .bool false, .int .i64 rows, .slice none 0 0] 29 (0, 0)) := by rw [← hW2]; exact setOf 17 _ hB1
  have hF2 : Fr noB w W2 := by rw [← hW2]; exact hF1.setCell ⟨w.heap.size, 17, none⟩ (Or.inr (Nat.le_refl _)) _
  have h2 := h.fr hF2 id
  have HS : Hid (Calls Tryz.prog 95 #[.pointer (some ⟨b, o, none⟩), .pointer (some ⟨w.heap.size, 0, none⟩)] W2 fun e w' => e = .returned (.bool (bareF ⟨7, x, t, er, nm, r1, r2, r3, r4, r5, r6, r7, r8, r9, r10, r11, r12, rows⟩)) ∧ Fr noB W2 w') := by
    have hla : ∀ n, (Instr.loadAt 26 (.pointer (some ⟨b, o + 5, none⟩))).run Tryz.prog (W2.drewN n) = .ok (.agg #[.string r1, .string r2, .bool r3, .bool r4, .int .i64 r5, .int .i64 r6, .bool r7, .bool r8, .int .i64 r9, .int .i64 r10, .bool r11, .bool r12]) (W2.drewN n) := fun n => load_ref _ _ _ _ _ _ _ _ _ _ _ _ (fun j v hv => by
      have hj : j < 12 := by
        rcases Nat.lt_or_ge j 12 with e | e
        · exact e
        · rw [List.getElem?_eq_none (by simpa using e)] at hv; cases hv
      have e : W2.cell? ⟨b, o + (5 + j), none⟩ = some v := h2.2 (5 + j) v (by
        obtain rfl | rfl | rfl | rfl | rfl | rfl | rfl | rfl | rfl | rfl | rfl | rfl : j = 0 ∨ j = 1 ∨ j = 2 ∨ j = 3 ∨ j = 4 ∨ j = 5 ∨ j = 6 ∨ j = 7 ∨ j = 8 ∨ j = 9 ∨ j = 10 ∨ j = 11 := by omega
        all_goals exact hv)
      rw [show o + 5 + j = o + (5 + j) by omega]
      exact e)
    have hlb : ∀ n, (Instr.loadAt 26 (.pointer (some ⟨w.heap.size, 0 + 5, none⟩))).run Tryz.prog (W2.drewN n) = .ok (.agg #[.string ⟨#[]⟩, .string ⟨#[]⟩, .bool false, .bool false, .int .i64 0, .int .i64 0, .bool false, .bool false, .int .i64 0, .int .i64 0, .bool false, .bool false]) (W2.drewN n) := fun n => load_ref _ _ _ _ _ _ _ _ _ _ _ _ (fun j v hv => by
      have hj : j < 12 := by
        rcases Nat.lt_or_ge j 12 with e | e
        · exact e
        · rw [List.getElem?_eq_none (by simpa using e)] at hv; cases hv
      show W2.cell? _ = _
      rw [show 0 + 5 + j = j + 5 by omega]
      refine cellOf (o := j + 5) hB2 ?_
      obtain rfl | rfl | rfl | rfl | rfl | rfl | rfl | rfl | rfl | rfl | rfl | rfl : j = 0 ∨ j = 1 ∨ j = 2 ∨ j = 3 ∨ j = 4 ∨ j = 5 ∨ j = 6 ∨ j = 7 ∨ j = 8 ∨ j = 9 ∨ j = 10 ∨ j = 11 := by omega
      all_goals exact hv)
    have c0 := h2.2 0 _ rfl
    simp only [Nat.add_zero] at c0
    have H := same_any b o w.heap.size 0 7 7 x 0 t ⟨#[]⟩ er 0 nm ⟨#[]⟩ _ _ rows rows _ W2 c0 (h2.2 1 _ rfl) (h2.2 2 _ rfl) (h2.2 3 _ rfl) (h2.2 4 _ rfl) (h2.2 17 _ rfl) (cellOf (o := 0) hB2 rfl) (cellOf (o := 1) hB2 rfl) (cellOf (o := 2) hB2 rfl) (cellOf (o := 3) hB2 rfl) (cellOf (o := 4) hB2 rfl) (cellOf (o := 17) hB2 rfl) hla hlb (eq_ref0 r1 r2 r3 r4 r5 r6 r7 r8 r9 r10 r11 r12)
    refine H.mono ?_
    rintro e w' ⟨rfl, hF⟩
    refine ⟨?_, hF⟩
    congr 2
    unfold bareF
    simp only [empl, beq_self_eq_true, Bool.true_and]
    try simp only [xz]
    simp
  have k0 := h1.2 0 _ rfl
  simp only [Nat.add_zero] at k0
  have kj := h1.2 17 _ rfl
  have bj := cellOf (o := 17) hB1 rfl
  have gj := freeOf 17 hB1
  have HF2 : Hid _ := hF2
  skip
  clear h h1 h2 hB1 hF1 hW1 hB2 hF2
  generalize bareF _ = B at *
  go_enter Tryz.func65, Tryz.ntmps65
  go_wp2_with (first
    | (refine wpList_store_row rfl 29 (.tmp 3) (.tmp 8) rfl w.heap.size #[.int .i64 7, .float .f64 0, .string ⟨#[]⟩, .int .i64 0, .string ⟨#[]⟩, .string ⟨#[]⟩, .string ⟨#[]⟩, .bool false, .bool false, .int .i64 0, .int .i64 0, .bool false, .bool false, .int .i64 0, .int .i64 0, .bool false, .bool false, .int .i64 0, .slice none 0 0] rfl rfl 29 _ HZ.out info_tm rfl (tm_one _ _ _ _ _ _ _ _ _ _ _ _ _ _ _ _ _ _ _ _ _) ?_; rw [HW1.out]; clear HW1 HZ c0w)
    | (go_at_call 95; (first | rw [hW2] | skip); refine HS.out.mono ?_; rintro e w3 ⟨rfl, hF3⟩))
  go_ret
  exact ⟨rfl, HF2.out.trans hF3⟩
set_option maxRecDepth 100000 in
set_option maxHeartbeats 2000000 in
theorem bare_p0 (op : Int) (x : Nat) (t : ByteArray) (er : Int) (nm : ByteArray) (r1 r2 : ByteArray) (r3 r4 : Bool) (r5 r6 : Int) (r7 r8 : Bool) (r9 r10 : Int) (r11 r12 : Bool) (rows : Int) (s : Value) (b o : Nat) (w : World) (h : RowAt w b o (TF.cells ⟨op, x, t, er, nm, r1, r2, r3, r4, r5, r6, r7, r8, r9, r10, r11, r12, rows⟩ s)) (n1 : ¬ op = 1) (n2 : ¬ op = 2) (n3 : ¬ op = 3) (n4 : ¬ op = 4) (n5 : ¬ op = 5) (n6 : ¬ op = 6) (n7 : ¬ op = 7) :
    Calls Tryz.prog 65 #[.pointer (some ⟨b, o, none⟩)] w fun e w' => e = .returned (.bool (bareF ⟨op, x, t, er, nm, r1, r2, r3, r4, r5, r6, r7, r8, r9, r10, r11, r12, rows⟩)) ∧ Fr noB w w' := by
  obtain ⟨W1, hW1, hB1, hF1⟩ := own_laid op w
  have h1 := h.fr hF1 id
  have HW1 : Hid _ := hW1
  have HZ : Hid _ := heap_alloc_new w (.cells #[.int .i64 0, .float .f64 0, .string ⟨#[]⟩, .int .i64 0, .string ⟨#[]⟩, .string ⟨#[]⟩, .string ⟨#[]⟩, .bool false, .bool false, .int .i64 0, .int .i64 0, .bool false, .bool false, .int .i64 0, .int .i64 0, .bool false, .bool false, .int .i64 0, .slice none 0 0] 29 (0, 0))
  have c0w := h.2 0 _ rfl
  simp only [Nat.add_zero] at c0w
  obtain ⟨W2, hB2, hF2, hW12⟩ : ∃ W2, W2.heap[w.heap.size]? = some (.cells #[.int .i64 op, .float .f64 0, .string ⟨#[]⟩, .int .i64 0, .string ⟨#[]⟩, .string ⟨#[]⟩, .string ⟨#[]⟩, .bool false, .bool false, .int .i64 0, .int .i64 0, .bool false, .bool false, .int .i64 0, .int .i64 0, .bool false, .bool false, .int .i64 0, .slice none 0 0] 29 (0, 0)) ∧ Fr noB w W2 ∧ W2 = W1 := ⟨W1, hB1, hF1, rfl⟩
  subst hW12
  have h2 := h.fr hF2 id
  have HS : Hid (Calls Tryz.prog 95 #[.pointer (some ⟨b, o, none⟩), .pointer (some ⟨w.heap.size, 0, none⟩)] W2 fun e w' => e = .returned (.bool (bareF ⟨op, x, t, er, nm, r1, r2, r3, r4, r5, r6, r7, r8, r9, r10, r11, r12, rows⟩)) ∧ Fr noB W2 w') := by
    have hla : ∀ n, (Instr.loadAt 26 (.pointer (some ⟨b, o + 5, none⟩))).run Tryz.prog (W2.drewN n) = .ok (.agg #[.string r1, .string r2, .bool r3, .bool r4, .int .i64 r5, .int .i64 r6, .bool r7, .bool r8, .int .i64 r9, .int .i64 r10, .bool r11, .bool r12]) (W2.drewN n) := fun n => load_ref _ _ _ _ _ _ _ _ _ _ _ _ (fun j v hv => by
      have hj : j < 12 := by
        rcases Nat.lt_or_ge j 12 with e | e
        · exact e
        · rw [List.getElem?_eq_none (by simpa using e)] at hv; cases hv
      have e : W2.cell? ⟨b, o + (5 + j), none⟩ = some v := h2.2 (5 + j) v (by
        obtain rfl | rfl | rfl | rfl | rfl | rfl | rfl | rfl | rfl | rfl | rfl | rfl : j = 0 ∨ j = 1 ∨ j = 2 ∨ j = 3 ∨ j = 4 ∨ j = 5 ∨ j = 6 ∨ j = 7 ∨ j = 8 ∨ j = 9 ∨ j = 10 ∨ j = 11 := by omega
        all_goals exact hv)
      rw [show o + 5 + j = o + (5 + j) by omega]
      exact e)
    have hlb : ∀ n, (Instr.loadAt 26 (.pointer (some ⟨w.heap.size, 0 + 5, none⟩))).run Tryz.prog (W2.drewN n) = .ok (.agg #[.string ⟨#[]⟩, .string ⟨#[]⟩, .bool false, .bool false, .int .i64 0, .int .i64 0, .bool false, .bool false, .int .i64 0, .int .i64 0, .bool false, .bool false]) (W2.drewN n) := fun n => load_ref _ _ _ _ _ _ _ _ _ _ _ _ (fun j v hv => by
      have hj : j < 12 := by
        rcases Nat.lt_or_ge j 12 with e | e
        · exact e
        · rw [List.getElem?_eq_none (by simpa using e)] at hv; cases hv
      show W2.cell? _ = _
      rw [show 0 + 5 + j = j + 5 by omega]
      refine cellOf (o := j + 5) hB2 ?_
      obtain rfl | rfl | rfl | rfl | rfl | rfl | rfl | rfl | rfl | rfl | rfl | rfl : j = 0 ∨ j = 1 ∨ j = 2 ∨ j = 3 ∨ j = 4 ∨ j = 5 ∨ j = 6 ∨ j = 7 ∨ j = 8 ∨ j = 9 ∨ j = 10 ∨ j = 11 := by omega
      all_goals exact hv)
    have c0 := h2.2 0 _ rfl
    simp only [Nat.add_zero] at c0
    have H := same_any b o w.heap.size 0 op op x 0 t ⟨#[]⟩ er 0 nm ⟨#[]⟩ _ _ rows 0 _ W2 c0 (h2.2 1 _ rfl) (h2.2 2 _ rfl) (h2.2 3 _ rfl) (h2.2 4 _ rfl) (h2.2 17 _ rfl) (cellOf (o := 0) hB2 rfl) (cellOf (o := 1) hB2 rfl) (cellOf (o := 2) hB2 rfl) (cellOf (o := 3) hB2 rfl) (cellOf (o := 4) hB2 rfl) (cellOf (o := 17) hB2 rfl) hla hlb (eq_ref0 r1 r2 r3 r4 r5 r6 r7 r8 r9 r10 r11 r12)
    refine H.mono ?_
    rintro e w' ⟨rfl, hF⟩
    refine ⟨?_, hF⟩
    congr 2
    unfold bareF
    simp only [empl, beq_self_eq_true, Bool.true_and]
    try simp only [xz]
    simp [n1, n2, n3, n4, n5, n6, n7]
  have k0 := h1.2 0 _ rfl
  simp only [Nat.add_zero] at k0
  have HF2 : Hid _ := hF2
  skip
  clear h h1 h2 hB1 hF1 hW1 hB2 hF2
  generalize bareF _ = B at *
  go_enter Tryz.func65, Tryz.ntmps65
  go_wp2_with (first
    | (refine wpList_store_row rfl 29 (.tmp 3) (.tmp 8) rfl w.heap.size #[.int .i64 op, .float .f64 0, .string ⟨#[]⟩, .int .i64 0, .string ⟨#[]⟩, .string ⟨#[]⟩, .string ⟨#[]⟩, .bool false, .bool false, .int .i64 0, .int .i64 0, .bool false, .bool false, .int .i64 0, .int .i64 0, .bool false, .bool false, .int .i64 0, .slice none 0 0] rfl rfl 29 _ HZ.out info_tm rfl (tm_one _ _ _ _ _ _ _ _ _ _ _ _ _ _ _ _ _ _ _ _ _) ?_; rw [HW1.out]; clear HW1 HZ c0w)
    | (go_at_call 95; refine HS.out.mono ?_; rintro e w3 ⟨rfl, hF3⟩))
  go_ret
  exact ⟨rfl, HF2.out.trans hF3⟩
theorem bareT_any (f : TF) (s : Value) (b o : Nat) (w : World) (h : RowAt w b o (f.cells s)) : Calls Tryz.prog 65 #[.pointer (some ⟨b, o, none⟩)] w fun e w' => e = .returned (.bool (bareF f)) ∧ Fr noB w w' := by
  obtain ⟨op, x, t, er, nm, r1, r2, r3, r4, r5, r6, r7, r8, r9, r10, r11, r12, rows⟩ := f
  by_cases n1 : op = 1
  · subst n1
    exact bare_p1 x t er nm r1 r2 r3 r4 r5 r6 r7 r8 r9 r10 r11 r12 rows s b o w h
  by_cases n2 : op = 2
  · subst n2
    exact bare_p2 x t er nm r1 r2 r3 r4 r5 r6 r7 r8 r9 r10 r11 r12 rows s b o w h
  by_cases n3 : op = 3
  · subst n3
    exact bare_p3 x t er nm r1 r2 r3 r4 r5 r6 r7 r8 r9 r10 r11 r12 rows s b o w h
  by_cases n4 : op = 4
  · subst n4
    exact bare_p4 x t er nm r1 r2 r3 r4 r5 r6 r7 r8 r9 r10 r11 r12 rows s b o w h
  by_cases n5 : op = 5
  · subst n5
    exact bare_p5 x t er nm r1 r2 r3 r4 r5 r6 r7 r8 r9 r10 r11 r12 rows s b o w h
  by_cases n6 : op = 6
  · subst n6
    exact bare_p6 x t er nm r1 r2 r3 r4 r5 r6 r7 r8 r9 r10 r11 r12 rows s b o w h
  by_cases n7 : op = 7
  · subst n7
    exact bare_p7 x t er nm r1 r2 r3 r4 r5 r6 r7 r8 r9 r10 r11 r12 rows s b o w h
  exact bare_p0 op x t er nm r1 r2 r3 r4 r5 r6 r7 r8 r9 r10 r11 r12 rows s b o w h n1 n2 n3 n4 n5 n6 n7
#print axioms bareT_any
#print axioms bare_p1
#print axioms bare_p2
#print axioms bare_p3
#print axioms bare_p4
#print axioms bare_p5
#print axioms bare_p6
#print axioms bare_p7
#print axioms bare_p0
end Go.Proofs.YtdmjbhbiehjelaaGreatDoor
