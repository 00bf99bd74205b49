/- Parse of the text 1.5: the strings. -/
import Derived.Test.YtjdgpnhinjahjaaGreatDoorNStr
import Derived.LoopN
import Derived.WalkMore
import Derived.Lib.IndexLaws
import GoSem.Extern.BytealgIndexByte
namespace Go.Proofs.YtjdgpnhinjahjaaGreatDoor
open Go.RowKit Ieee Go.Shelf

theorem ext_idx (args : Array Value) (w : World) : (callFunc 168 args).run Tryz.prog w = ((Extern.BytealgIndexByte.indexByte args).run Tryz.prog w).andThen fun v w' => .ok (.value v) w' :=
  run_callFunc_extern Tryz.func168 (by kernel_rfl) (by kernel_rfl) (by kernel_rfl) (by kernel_rfl) args w
theorem run_idxE (c : Nat) (w : World) (h : c = 49 ∨ c = 46 ∨ c = 53) : (callFunc 168 #[.string ⟨#[69, 101]⟩, .int .u8 (c : Int)]).run Tryz.prog w = .ok (.value (.int .i64 (-1))) w := by
  rw [ext_idx]
  rcases h with rfl | rfl | rfl <;> rfl
set_option maxRecDepth 100000 in
theorem sliteE (c : Nat) (w : World) (h : c = 49 ∨ c = 46 ∨ c = 53) : Calls Tryz.prog 140 #[.string ⟨#[69, 101]⟩, .int .u8 (c : Int)] w fun e w' => e = .returned (.int .i64 (-1)) ∧ w' = w := by
  have hr : ∀ W, _ := fun W => run_idxE c W h
  clear h
  go_enter Tryz.func140, Tryz.ntmps140
  go_wp2_with fail
  go_ret
  exact ⟨rfl, rfl⟩
set_option maxRecDepth 100000 in
theorem stringsE (c : Nat) (w : World) (h : c = 49 ∨ c = 46 ∨ c = 53) : Calls Tryz.prog 116 #[.string ⟨#[69, 101]⟩, .int .u8 (c : Int)] w fun e w' => e = .returned (.int .i64 (-1)) ∧ w' = w := by
  have hr := sliteE c
  go_enter Tryz.func116, Tryz.ntmps116
  go_wp2_with (go_at_call 140; refine (hr _ h).mono ?_; rintro e w1 ⟨rfl, rfl⟩)
  go_ret
  exact ⟨rfl, rfl⟩
set_option maxRecDepth 100000 in
set_option maxHeartbeats 1000000 in
theorem runeE (c : Nat) (w : World) (h : c = 49 ∨ c = 46 ∨ c = 53) : Calls Tryz.prog 88 #[.string ⟨#[69, 101]⟩, .int .i32 (c : Int)] w fun e w' => e = .returned (.int .i64 (-1)) ∧ w' = w := by
  have hr := stringsE c
  have h2 : c < 128 := by omega
  go_enter Tryz.func88, Tryz.ntmps88
  go_wp2_with (go_at_call 116; refine (hr _ h).mono ?_; rintro e w1 ⟨rfl, rfl⟩)
  go_ret
  exact ⟨rfl, rfl⟩
set_option maxRecDepth 100000 in
theorem shouldE (w : World) : Calls Tryz.prog 89 #[.int .i64 3] w fun e w' => e = .returned (.bool false) ∧ w' = w := by
  go_enter Tryz.func89, Tryz.ntmps89
  go_wp2_with fail
  go_ret
  exact ⟨rfl, rfl⟩
def t15 : ByteArray := ⟨#[49, 46, 53]⟩
theorem t15_size : t15.size = 3 := rfl
theorem dec0 : Utf8.decode t15 0 = (49, 1) := by decide +kernel
theorem dec1 : Utf8.decode t15 1 = (46, 1) := by decide +kernel
theorem dec2 : Utf8.decode t15 2 = (53, 1) := by decide +kernel
set_option maxRecDepth 100000 in
set_option maxHeartbeats 1000000 in
theorem anyE (w : World) : Calls Tryz.prog 73 #[.string t15, .string ⟨#[69, 101]⟩] w fun e w' => e = .returned (.int .i64 (-1)) ∧ Fr noB w w' := by
  have H0 := shouldE
  have R0 : ∀ W, Calls Tryz.prog 88 #[.string ⟨#[69, 101]⟩, .int .i32 49] W fun e w' => e = .returned (.int .i64 (-1)) ∧ w' = W := fun W => runeE 49 W (by omega)
  have R1 : ∀ W, Calls Tryz.prog 88 #[.string ⟨#[69, 101]⟩, .int .i32 46] W fun e w' => e = .returned (.int .i64 (-1)) ∧ w' = W := fun W => runeE 46 W (by omega)
  have R2 : ∀ W, Calls Tryz.prog 88 #[.string ⟨#[69, 101]⟩, .int .i32 53] W fun e w' => e = .returned (.int .i64 (-1)) ∧ w' = W := fun W => runeE 53 W (by omega)
  have n0 : ∀ ty, (Instr.next (.pointer (some ⟨w.heap.size, 0, none⟩)) true ty).run Tryz.prog (w.iter t15 0) = _ := fun ty => run_next_any w t15 0 ty (by rw [t15_size]; omega)
  have n1 : ∀ ty, (Instr.next (.pointer (some ⟨w.heap.size, 0, none⟩)) true ty).run Tryz.prog (w.iter t15 1) = _ := fun ty => run_next_any w t15 1 ty (by rw [t15_size]; omega)
  have n2 : ∀ ty, (Instr.next (.pointer (some ⟨w.heap.size, 0, none⟩)) true ty).run Tryz.prog (w.iter t15 2) = _ := fun ty => run_next_any w t15 2 ty (by rw [t15_size]; omega)
  have n3 : ∀ ty, (Instr.next (.pointer (some ⟨w.heap.size, 0, none⟩)) true ty).run Tryz.prog (w.iter t15 3) = _ := fun ty => run_next_end w t15 3 ty (by rw [t15_size]; omega)
  rw [dec0] at n0
  rw [dec1] at n1
  rw [dec2] at n2
  simp only [Nat.zero_add, Nat.reduceAdd] at n0 n1 n2
  have hF : Hid (Fr noB w (w.iter t15 3)) := (Fr.refl noB w).alloc _
  have hz := t15_size
  generalize t15 = s at *
  have he : (⟨#[69, 101]⟩ : ByteArray).size = 2 := rfl
  have hne : (⟨#[69, 101]⟩ : ByteArray).toList.isEmpty = false := by rw [ByteArray.toList_eq]; rfl
  generalize (⟨#[69, 101]⟩ : ByteArray) = t at *
  go_enter Tryz.func73, Tryz.ntmps73
  go_wp2_with (first | (go_at_call 89; refine (H0 _).mono ?_; rintro e w1 ⟨rfl, rfl⟩))
  refine wp_loop_rounds 5 ?_
  rw [rounds_succ]
  go_wp2_with (go_at_call 88; refine (R0 _).mono ?_; rintro e w2 ⟨rfl, rfl⟩)
  rw [rounds_succ]
  go_wp2_with (go_at_call 88; refine (R1 _).mono ?_; rintro e w2 ⟨rfl, rfl⟩)
  rw [rounds_succ]
  go_wp2_with (go_at_call 88; refine (R2 _).mono ?_; rintro e w2 ⟨rfl, rfl⟩)
  rw [rounds_succ]
  go_wp2_with fail
  go_ret
  exact ⟨rfl, hF.out⟩
#print axioms anyE
end Go.Proofs.YtjdgpnhinjahjaaGreatDoor
