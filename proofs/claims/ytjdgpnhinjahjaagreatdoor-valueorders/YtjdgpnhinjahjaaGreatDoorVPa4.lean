/- Parse of the text 1.5 is 1.5: the program's own functions. -/
import Derived.Test.YtjdgpnhinjahjaaGreatDoorVPa3
import Derived.Laws.Tables
import Derived.Deep.QuietTactic
namespace Go.Proofs.YtjdgpnhinjahjaaGreatDoor
open Go.RowKit Ieee Go.Shelf

theorem results_cell_tmp {P : Program} {fn : Func} {p q : Tmp} {ty : TypeId} (h : fn.results = #[.cell p ty, .tmp q]) (tmps : Array Value) (w : World) (g : Nat) (t : TypeId) (cs : Array Value) (fr : Nat × Nat) (d : TypeDesc)
    (hp : tmps.getD p undef = .pointer (some ⟨g, 0, none⟩)) (hg : w.heap[g]? = some (.cells cs t fr))
    (hu : P.underlying ty = some d) (hd : (match d with | .struct _ | .array _ _ => true | _ => false) = true) (hi : (P.info? ty).map (·.size) = some cs.size) :
    (results fn tmps).run P w = .ok (.tuple #[.agg cs, tmps.getD q undef]) w := by
  have hp' : tmps[p]?.getD undef = .pointer (some ⟨g, 0, none⟩) := by simpa using hp
  simp [results, h, hp', asAddr, run_loadVar_row w g t ty cs fr d hg hu hd hi]
theorem info_dec : (Tryz.prog.info? 76).map (·.size) = some 3 := by kernel_rfl
set_option maxRecDepth 100000 in
set_option maxHeartbeats 1000000 in
theorem nread15 (w : World) (hX : XTab w) : Calls Tryz.prog 67 #[.string t15] w fun e w' => e = .returned (.tuple #[.agg #[.bool false, .string ⟨#[49, 53]⟩, .int .i64 1], .bool true]) ∧ Fr noB w w' := by
  have HX : Hid (XTab w) := hX
  have H1 := cutPrefix_any t15 ⟨#[45]⟩
  rw [show baL (Lib.trimPrefix t15.data.toList (⟨#[45]⟩ : ByteArray).data.toList) = t15 from rfl, show Lib.hasPrefix t15.data.toList (⟨#[45]⟩ : ByteArray).data.toList = false from rfl] at H1
  have H2 := anyE
  have H3 : Hid (∀ W, Fr noB w W → Calls Tryz.prog 74 #[.string t15, .string ⟨#[46]⟩] W fun e w' => e = .returned (.tuple #[.string ⟨#[49]⟩, .string ⟨#[53]⟩, .bool true]) ∧ Fr noB W w') := fun W hW => cut15 W (HX.out.fr hW)
  have H4 : ∀ W, Calls Tryz.prog 75 #[.string ⟨#[49]⟩] W fun e w' => e = .returned (.bool true) ∧ Fr noB W w' := fun W => allDig1 49 (by omega) W
  have H5 : ∀ W, Calls Tryz.prog 75 #[.string ⟨#[53]⟩] W fun e w' => e = .returned (.bool true) ∧ Fr noB W w' := fun W => allDig1 53 (by omega) W
  have H6 := power0
  have H7 := trimLeft_any ⟨#[49, 53]⟩ 48 (by decide)
  rw [show baL (Lib.trimLeftB (⟨#[49, 53]⟩ : ByteArray).data.toList 48) = ⟨#[49, 53]⟩ from rfl] at H7
  have H8 := trimS_any ⟨#[49, 53]⟩ 48 (by decide)
  rw [show (⟨(Lib.trimRightB (⟨#[49, 53]⟩ : ByteArray).data.toList 48).toArray⟩ : ByteArray) = ⟨#[49, 53]⟩ from rfl] at H8
  have hcat : (⟨#[49]⟩ : ByteArray) ++ ⟨#[53]⟩ = ⟨#[49, 53]⟩ := by decide
  have z1 : (⟨#[49]⟩ : ByteArray).size = 1 := rfl
  have z2 : (⟨#[49, 53]⟩ : ByteArray).size = 2 := rfl
  generalize t15 = s at *
  go_enter Tryz.func67, Tryz.ntmps67
  go_wp2_with fail
  obtain ⟨W0, hW0⟩ : ∃ W0, w.alloc (.cells #[.bool false, .string ⟨#[]⟩, .int .i64 0] 76 (0, 0)) = W0 := ⟨_, rfl⟩
  have hB : Hid (W0.heap[w.heap.size]? = some (.cells #[.bool false, .string ⟨#[]⟩, .int .i64 0] 76 (0, 0))) := by rw [← hW0]; exact heap_alloc_new w _
  have hF0 : Fr noB w W0 := by rw [← hW0]; exact (Fr.refl noB w).alloc _
  rw [hW0]
  clear hW0
  go_wp2_with (first
    | (go_at_call 72; refine (H1 _).mono ?_; rintro e w1 ⟨rfl, rfl⟩)
    | (go_at_call 73; refine (H2 _).mono ?_; rintro e w2 ⟨rfl, hF2⟩)
    | (go_at_call 74; refine (H3.out _ (hF0.trans hF2)).mono ?_; rintro e w3 ⟨rfl, hF3⟩)
    | (go_at_call_of 75 (Value.string ⟨#[49]⟩); refine (H4 _).mono ?_; rintro e w4 ⟨rfl, hF4⟩)
    | (go_at_call_of 75 (Value.string ⟨#[53]⟩); refine (H5 _).mono ?_; rintro e w5 ⟨rfl, hF5⟩)
    | (go_at_call 76; refine (H6 _).mono ?_; rintro e w6 ⟨rfl, hF6⟩
       have hB6 : w6.heap[w.heap.size]? = some (.cells #[.bool false, .string ⟨#[]⟩, .int .i64 0] 76 (0, 0)) := (((((hF2.trans hF3).trans hF4).trans hF5).trans hF6).obj hB.out id)
       have hG6 : Fr noB w w6 := hF0.trans ((((hF2.trans hF3).trans hF4).trans hF5).trans hF6)
       have q1 := (setOf 2 (.int .i64 1) (setOf 1 (.string ⟨#[49, 53]⟩) (setOf 0 (.bool false) hB6)))
       have HQ : Hid _ := And.intro q1 (((hG6.setCell ⟨w.heap.size, 0, none⟩ (Or.inr (Nat.le_refl _)) (.bool false)).setCell ⟨w.heap.size, 1, none⟩ (Or.inr (Nat.le_refl _)) (.string ⟨#[49, 53]⟩)).setCell ⟨w.heap.size, 2, none⟩ (Or.inr (Nat.le_refl _)) (.int .i64 1))
       have c0 := cellOf (o := 0) hB6 rfl
       have c1 := cellOf (o := 1) hB6 rfl
       have c2 := cellOf (o := 2) hB6 rfl
       have f0 := freeOf 0 hB6
       have f1 := freeOf 1 hB6
       have f2 := freeOf 2 hB6
       clear hB6 hG6 q1 hF2 hF3 hF4 hF5 hF6)
    | (go_at_call 77; refine (H7 _).mono ?_; rintro e w7 ⟨rfl, rfl⟩)
    | (go_at_call 78; refine (H8 _ (by omega)).mono ?_; rintro e w8 ⟨rfl, rfl⟩))
  exact bodyPost_ret (results_cell_tmp Tryz.results67 _ _ w.heap.size 76 #[.bool false, .string ⟨#[49, 53]⟩, .int .i64 1] (0, 0) _ rfl HQ.out.1 Tryz.underlying76 rfl info_dec) rfl ⟨rfl, HQ.out.2⟩
set_option maxRecDepth 100000 in
set_option maxHeartbeats 1000000 in
theorem nearest15 (w : World) (hT : RTab w) : Calls Tryz.prog 68 #[.agg #[.bool false, .string ⟨#[49, 53]⟩, .int .i64 1]] w fun e w' => e = .returned (.tuple #[.float .f64 4609434218613702656, .int .i64 0]) ∧ Fr noB w w' := by
  have H1 := itoa1
  have H2 : Hid (∀ W, Fr noB w W → Calls Tryz.prog 79 #[.string ⟨#[48, 46, 49, 53, 69, 49]⟩, .int .i64 64] W fun e w' => e = .returned (.tuple #[.float .f64 4609434218613702656, .nilIface]) ∧ w' = W) := fun W hW => parse15 W (hT.fr hW)
  clear hT
  have c1 : (⟨#[48, 46]⟩ : ByteArray) ++ ⟨#[49, 53]⟩ = ⟨#[48, 46, 49, 53]⟩ := by decide
  have c2 : (⟨#[48, 46, 49, 53]⟩ : ByteArray) ++ ⟨#[69]⟩ = ⟨#[48, 46, 49, 53, 69]⟩ := by decide
  have c3 : (⟨#[48, 46, 49, 53, 69]⟩ : ByteArray) ++ ⟨#[49]⟩ = ⟨#[48, 46, 49, 53, 69, 49]⟩ := by decide
  have hne : (⟨#[49, 53]⟩ : ByteArray).toList.isEmpty = false := by rw [ByteArray.toList_eq]; rfl
  go_enter Tryz.func68, Tryz.ntmps68
  go_wp2_with fail
  obtain ⟨W0, hW0⟩ : ∃ W0, w.alloc (.cells #[.bool false, .string ⟨#[49, 53]⟩, .int .i64 1] 76 (0, 0)) = W0 := ⟨_, rfl⟩
  have hB : W0.heap[w.heap.size]? = some (.cells #[.bool false, .string ⟨#[49, 53]⟩, .int .i64 1] 76 (0, 0)) := by rw [← hW0]; exact heap_alloc_new w _
  have hF0 : Fr noB w W0 := by rw [← hW0]; exact (Fr.refl noB w).alloc _
  rw [hW0]
  clear hW0
  have k0 := cellOf (o := 0) hB rfl
  have k1 := cellOf (o := 1) hB rfl
  have k2 := cellOf (o := 2) hB rfl
  clear hB
  go_wp2_with fail
  go_quiet ((first | (go_at_call 80; exact Calls.quiet_of_same (H1 _)) | (go_at_call 79; exact Calls.quiet_of_same (H2.out _ (hF0.drewN _))) | (go_at_call 79; exact Calls.quiet_of_same (H2.out _ hF0))))
  go_wp2_with fail
  go_ret2
  exact ⟨rfl, hF0.drewN _⟩
set_option maxRecDepth 100000 in
set_option maxHeartbeats 1000000 in
theorem nparse15 (w : World) (hX : XTab w) (hT : RTab w) : Calls Tryz.prog 63 #[.string t15] w fun e w' => e = .returned (.tuple #[.float .f64 4609434218613702656, .int .i64 0]) ∧ Fr noB w w' := by
  have H1 := nread15 w hX
  have H2 : Hid (∀ W, Fr noB w W → Calls Tryz.prog 68 #[.agg #[.bool false, .string ⟨#[49, 53]⟩, .int .i64 1]] W fun e w' => e = .returned (.tuple #[.float .f64 4609434218613702656, .int .i64 0]) ∧ Fr noB W w') := fun W hW => nearest15 W (hT.fr hW)
  clear hT hX
  have hz := t15_size
  generalize t15 = s at *
  generalize (⟨#[49, 53]⟩ : ByteArray) = t at *
  go_enter Tryz.func63, Tryz.ntmps63
  go_wp2_with (first | (go_at_call 67; refine H1.mono ?_; rintro e w1 ⟨rfl, hF1⟩))
  refine (H2.out _ (hF1.alloc _)).mono ?_
  rintro e w2 ⟨rfl, hF2⟩
  have hG2 : Fr noB w w2 := (hF1.alloc _).trans hF2
  clear hF1 hF2
  go_wp2_with fail
  go_ret2
  exact ⟨rfl, hG2⟩
#print axioms nparse15
end Go.Proofs.YtjdgpnhinjahjaaGreatDoor
