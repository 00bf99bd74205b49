/- Parse of the text 1.5 is 1.5. -/
import Derived.Test.YtjdgpnhinjahjaaGreatDoorVPa1
import Derived.Test.YtjdgpnhinjahjaaGreatDoorVPa2
import Derived.Test.YtjdgpnhinjahjaaGreatDoorShelf2
namespace Go.Proofs.YtjdgpnhinjahjaaGreatDoor
open Go.RowKit Ieee Go.Shelf

def baL (L : List UInt8) : ByteArray := ⟨L.toArray⟩
theorem cutPrefix_any (s p : ByteArray) (w : World) : Calls Tryz.prog 72 #[.string s, .string p] w fun e w' => e = .returned (.tuple #[.string (baL (Lib.trimPrefix s.data.toList p.data.toList)), .bool (Lib.hasPrefix s.data.toList p.data.toList)]) ∧ w' = w :=
  Any.strings_CutPrefix Tryz.laysLaysn103 s p w
theorem trimPrefix_any (s p : ByteArray) (w : World) : Calls Tryz.prog 94 #[.string s, .string p] w fun e w' => e = .returned (.string (baL (Lib.trimPrefix s.data.toList p.data.toList))) ∧ w' = w :=
  Any.strings_TrimPrefix Tryz.laysLaysn101 s p w
theorem trimLeft_any (s : ByteArray) (c : UInt8) (hc : c.toNat < 128) (w : World) : Calls Tryz.prog 77 #[.string s, .string ⟨#[c]⟩] w fun e w' => e = .returned (.string (baL (Lib.trimLeftB s.data.toList c))) ∧ w' = w :=
  Any.strings_TrimLeft_one Tryz.laysLaysn161 s c hc w
theorem itoa1 (w : World) : Calls Tryz.prog 80 #[.int .i64 1] w fun e w' => e = .returned (.string ⟨#[49]⟩) ∧ w' = w := by
  have h := Any.strconv_Itoa_small Tryz.laysLaysn171 1 (by decide) w
  rw [show (Lib.decDigits 1).toArray = #[49] by rw [Lib.decDigits_one (by omega)]; rfl] at h
  exact h
set_option maxRecDepth 100000 in
theorem isDig (c : Nat) (h : 48 ≤ c ∧ c ≤ 57) (w : World) : Calls Tryz.prog 93 #[.int .i32 (c : Int)] w fun e w' => e = .returned (.bool true) ∧ w' = w := by
  go_enter Tryz.func93, Tryz.ntmps93
  go_wp2_with fail
  go_ret
  exact ⟨ret_bool (by simp; omega), rfl⟩
theorem dec_one (c : Nat) (h : 48 ≤ c ∧ c ≤ 57) : Utf8.decode ⟨#[UInt8.ofNat c]⟩ 0 = (c, 1) := by
  obtain ⟨k, rfl⟩ : ∃ k : _root_.Fin 10, c = 48 + k.val := ⟨⟨c - 48, by omega⟩, by simp; omega⟩
  revert k
  decide +kernel
set_option maxRecDepth 100000 in
set_option maxHeartbeats 1000000 in
theorem allDig1 (c : Nat) (h : 48 ≤ c ∧ c ≤ 57) (w : World) : Calls Tryz.prog 75 #[.string ⟨#[UInt8.ofNat c]⟩] w fun e w' => e = .returned (.bool true) ∧ Fr noB w w' := by
  have HD := isDig c h
  have n0 : ∀ ty, (Instr.next (.pointer (some ⟨w.heap.size, 0, none⟩)) true ty).run Tryz.prog (w.iter ⟨#[UInt8.ofNat c]⟩ 0) = _ := fun ty => run_next_any w _ 0 ty (show 0 < 1 by omega)
  have n1 : ∀ ty, (Instr.next (.pointer (some ⟨w.heap.size, 0, none⟩)) true ty).run Tryz.prog (w.iter ⟨#[UInt8.ofNat c]⟩ 1) = _ := fun ty => run_next_end w _ 1 ty (show ¬ 1 < 1 by omega)
  rw [dec_one c h] at n0
  simp only [Nat.zero_add] at n0
  have hF : Hid (Fr noB w (w.iter ⟨#[UInt8.ofNat c]⟩ 1)) := (Fr.refl noB w).alloc _
  have hne : ¬ (⟨#[UInt8.ofNat c]⟩ : ByteArray).toList = [] := by rw [ByteArray.toList_eq]; simp
  generalize (⟨#[UInt8.ofNat c]⟩ : ByteArray) = s at *
  go_enter Tryz.func75, Tryz.ntmps75
  go_wp2_with fail
  refine wp_loop_rounds 3 ?_
  rw [rounds_succ]
  go_wp2_with (go_at_call 93; refine (HD _).mono ?_; rintro e w2 ⟨rfl, rfl⟩)
  rw [rounds_succ]
  go_wp2_with fail
  go_ret
  exact ⟨ret_bool (by simp [hne]), hF.out⟩
set_option maxRecDepth 100000 in
set_option maxHeartbeats 1000000 in
theorem power0 (w : World) : Calls Tryz.prog 76 #[.string ⟨#[48]⟩] w fun e w' => e = .returned (.tuple #[.int .i64 0, .bool true]) ∧ Fr noB w w' := by
  have H1 := cutPrefix_any ⟨#[48]⟩ ⟨#[45]⟩
  have H2 := trimPrefix_any ⟨#[48]⟩ ⟨#[43]⟩
  rw [show baL (Lib.trimPrefix (⟨#[48]⟩ : ByteArray).data.toList (⟨#[45]⟩ : ByteArray).data.toList) = ⟨#[48]⟩ from rfl, show Lib.hasPrefix (⟨#[48]⟩ : ByteArray).data.toList (⟨#[45]⟩ : ByteArray).data.toList = false from rfl] at H1
  rw [show baL (Lib.trimPrefix (⟨#[48]⟩ : ByteArray).data.toList (⟨#[43]⟩ : ByteArray).data.toList) = ⟨#[48]⟩ from rfl] at H2
  have H3 : ∀ W, Calls Tryz.prog 75 #[.string ⟨#[48]⟩] W fun e w' => e = .returned (.bool true) ∧ Fr noB W w' := fun W => allDig1 48 (by omega) W
  have hd : Utf8.decode ⟨#[48]⟩ 0 = (48, 1) := dec_one 48 (by omega)
  have hz : (⟨#[48]⟩ : ByteArray).size = 1 := rfl
  obtain ⟨s, hs⟩ : ∃ s, (⟨#[48]⟩ : ByteArray) = s := ⟨_, rfl⟩
  rw [hs] at H1 H2 H3 hd hz ⊢
  have HD : Hid _ := And.intro hd hz
  clear hs hd hz
  go_enter Tryz.func76, Tryz.ntmps76
  go_wp2_with (first
    | (go_at_call 72; refine (H1 _).mono ?_; rintro e w1 ⟨rfl, rfl⟩)
    | (go_at_call 94; refine (H2 _).mono ?_; rintro e w1 ⟨rfl, rfl⟩))
  refine (H3 _).mono ?_
  rintro e w3 ⟨rfl, hF⟩
  have n0 : ∀ ty, (Instr.next (.pointer (some ⟨w3.heap.size, 0, none⟩)) true ty).run Tryz.prog (w3.iter s 0) = _ := fun ty => run_next_any w3 _ 0 ty (by rw [HD.out.2]; omega)
  have n1 : ∀ ty, (Instr.next (.pointer (some ⟨w3.heap.size, 0, none⟩)) true ty).run Tryz.prog (w3.iter s 1) = _ := fun ty => run_next_end w3 _ 1 ty (by rw [HD.out.2]; omega)
  rw [HD.out.1] at n0
  simp only [Nat.zero_add] at n0
  have hG : Hid (Fr noB _ (w3.iter s 1)) := hF.alloc _
  clear hF
  go_wp2_with fail
  refine wp_loop_rounds 3 ?_
  rw [rounds_succ]
  go_wp2_with fail
  rw [rounds_succ]
  go_wp2_with fail
  go_ret2
  exact ⟨rfl, hG.out⟩
theorem cut15 (w : World) (hX : XTab w) : Calls Tryz.prog 74 #[.string t15, .string ⟨#[46]⟩] w fun e w' => e = .returned (.tuple #[.string ⟨#[49]⟩, .string ⟨#[53]⟩, .bool true]) ∧ Fr noB w w' := by
  have h := cutS_any t15 ⟨#[46]⟩ w hX (by rw [t15_size]; omega)
  rw [show Lib.cut t15.data.toList (⟨#[46]⟩ : ByteArray).data.toList = ([49], [53], true) from cut_hit 46 [49] [53] (by decide)] at h
  refine h.mono ?_
  rintro e w' ⟨rfl, h2⟩
  first
    | exact ⟨rfl, h2⟩
    | (subst h2; exact ⟨rfl, Fr.refl _ _⟩)
    | (obtain ⟨n, rfl⟩ := h2; exact ⟨rfl, (Fr.refl _ _).drewN n⟩)
#print axioms cut15
#print axioms power0
end Go.Proofs.YtjdgpnhinjahjaaGreatDoor
