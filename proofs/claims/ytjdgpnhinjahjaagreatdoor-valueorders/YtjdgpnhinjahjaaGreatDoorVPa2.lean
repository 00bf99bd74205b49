/- Parse of the text 1.5: the library's reader at 0.15E1. -/
import Derived.Test.YtjdgpnhinjahjaaGreatDoorNToD
import Derived.LoopN
import Derived.WalkMore
namespace Go.Proofs.YtjdgpnhinjahjaaGreatDoor
open Go.RowKit Ieee

set_option maxRecDepth 100000 in
theorem lower_any (c : Nat) (w : World) : Calls Tryz.prog 188 #[.int .u8 (c : Int)] w fun e w' => e = .returned (.int .u8 (bits .or .u8 (c : Int) 32)) ∧ w' = w := by
  go_enter Tryz.func188, Tryz.ntmps188
  go_wp2_with fail
  go_ret
  exact ⟨rfl, rfl⟩
/-- A text whose bytes are told one by one. -/
theorem text_at (L : List Nat) (hL : ∀ x ∈ L, x < 256) : ∃ s : ByteArray, s = ⟨(L.map UInt8.ofNat).toArray⟩ ∧ s.size = L.length ∧ ∀ (i : Nat) (h : i < s.size) (h2 : i < L.length), (s[i]'h).toNat = L[i] := by
  refine ⟨_, rfl, by simp [ByteArray.size], fun i h h2 => ?_⟩
  show (((L.map UInt8.ofNat).toArray)[i]'_).toNat = _
  have := hL L[i] (List.getElem_mem h2)
  simp
  omega
set_option maxRecDepth 100000 in
set_option maxHeartbeats 4000000 in
theorem read15 (w : World) : Calls Tryz.prog 171 #[.string ⟨#[48, 46, 49, 53, 69, 49]⟩] w fun e w' => e = .returned (.tuple #[.int .u64 15, .int .i64 (-1), .bool false, .bool false, .bool false, .int .i64 6, .bool true]) ∧ w' = w := by
  have L1 := lower_any 46
  have L2 := lower_any 69
  rw [show bits .or .u8 ((46 : Nat) : Int) 32 = 46 by decide] at L1
  rw [show bits .or .u8 ((69 : Nat) : Int) 32 = 101 by decide] at L2
  obtain ⟨s, hs, hz, hb⟩ := text_at [48, 46, 49, 53, 69, 49] (by decide)
  have hs' : (⟨#[48, 46, 49, 53, 69, 49]⟩ : ByteArray) = s := by rw [hs]; rfl
  rw [hs']
  have b0 : ∀ h, (s[0]'h).toNat = 48 := fun h => hb 0 h (by decide)
  have b1 : ∀ h, (s[1]'h).toNat = 46 := fun h => hb 1 h (by decide)
  have b2 : ∀ h, (s[2]'h).toNat = 49 := fun h => hb 2 h (by decide)
  have b3 : ∀ h, (s[3]'h).toNat = 53 := fun h => hb 3 h (by decide)
  have b4 : ∀ h, (s[4]'h).toNat = 69 := fun h => hb 4 h (by decide)
  have b5 : ∀ h, (s[5]'h).toNat = 49 := fun h => hb 5 h (by decide)
  have hz : s.size = 6 := hz
  clear hs hs' hb
  go_enter Tryz.func171, Tryz.ntmps171
  go_wp2_with fail
  go_step3
  go_wp2_with (first | (go_at_call 188; refine (L1 _).mono ?_; rintro e w1 ⟨rfl, rfl⟩))
  go_step3
  go_wp2_with fail
  refine wp_loop_rounds 7 ?_
  rw [rounds_succ]
  go_wp2_with fail
  rw [rounds_succ]
  go_wp2_with fail
  rw [rounds_succ]
  go_wp2_with fail
  rw [rounds_succ]
  go_wp2_with fail
  rw [rounds_succ]
  go_wp2_with (first | (go_at_call 188; refine (L2 _).mono ?_; rintro e w1 ⟨rfl, rfl⟩))
  refine wp_loop_rounds 3 ?_
  rw [rounds_succ]
  go_wp2_with fail
  rw [rounds_succ]
  go_wp2_with fail
  rw [Exit.noGoto_ret]
  refine bodyPost_ret ?_ rfl ⟨rfl, rfl⟩
  simp [results, Tryz.results171, go_sem]
/-- What the library's reader of floats reads of variables. -/
structure RTab (w : World) : Prop where
  o : 7 < w.heap.size ∧ w.cell? ⟨7, 0, none⟩ = some (.bool true)
  i : 9 < w.heap.size ∧ w.cell? ⟨9, 0, none⟩ = some (.int .u64 52)
  f : 13 < w.heap.size ∧ ∃ b o n c, w.cell? ⟨13, 0, none⟩ = some (.slice (some ⟨b, o, none⟩) n c) ∧ 1 < n ∧ n ≤ 1000 ∧ b < w.heap.size ∧ w.cell? ⟨b, o + 1, none⟩ = some (.float .f64 4621819117588971520)
theorem RTab.fr {w w' : World} (h : RTab w) (hF : Fr noB w w') : RTab w' := by
  obtain ⟨⟨a1, a2⟩, ⟨b1, b2⟩, ⟨c1, b, o, n, c, c2, c3, c4, c5, c6⟩⟩ := h
  have hz := hF.size
  exact ⟨⟨by omega, (hF.cell a1 id).trans a2⟩, ⟨by omega, (hF.cell b1 id).trans b2⟩, ⟨by omega, b, o, n, c, (hF.cell c1 id).trans c2, c3, c4, by omega, (hF.cell (a := ⟨b, o + 1, none⟩) c5 id).trans c6⟩⟩
theorem quo15 (W : World) : (binOp .quo 23 (.float .f64 (floatOfInt .f64 15)) (.float .f64 4621819117588971520)).run Tryz.prog W = .ok (.float .f64 4609434218613702656) W :=
  run_float_arith W .quo 23 .f64 _ _ _ (show floatBits .quo .f64 (floatOfInt .f64 15) 4621819117588971520 = some 4609434218613702656 by decide +kernel)
set_option maxRecDepth 100000 in
set_option maxHeartbeats 1000000 in
theorem exact15 (w : World) (hT : RTab w) : Calls Tryz.prog 181 #[.int .u64 15, .int .i64 (-1), .bool false] w fun e w' => e = .returned (.tuple #[.float .f64 4609434218613702656, .bool true]) ∧ w' = w := by
  obtain ⟨⟨a1, a2⟩, ⟨b1, b2⟩, ⟨c1, b, o, n, c, c2, c3, c4, c5, c6⟩⟩ := hT
  have hq := quo15
  go_enter Tryz.func181, Tryz.ntmps181
  go_wp2_with fail
  go_ret2
  exact ⟨rfl, rfl⟩
set_option maxRecDepth 100000 in
set_option maxHeartbeats 1000000 in
theorem special15 (w : World) : Calls Tryz.prog 170 #[.string ⟨#[48, 46, 49, 53, 69, 49]⟩] w fun e w' => e = .returned (.tuple #[.float .f64 0, .int .i64 0, .bool false]) ∧ w' = w := by
  obtain ⟨s, hs, hz, hb⟩ := text_at [48, 46, 49, 53, 69, 49] (by decide)
  have hs' : (⟨#[48, 46, 49, 53, 69, 49]⟩ : ByteArray) = s := by rw [hs]; rfl
  rw [hs']
  have b0 : ∀ h, (s[0]'h).toNat = 48 := fun h => hb 0 h (by decide)
  have hz : s.size = 6 := hz
  clear hs hs' hb
  go_enter Tryz.func170, Tryz.ntmps170
  go_wp2_with fail
  go_ret3
  exact ⟨rfl, rfl⟩
set_option maxRecDepth 100000 in
theorem bool2u_false (w : World) : Calls Tryz.prog 179 #[.bool false] w fun e w' => e = .returned (.int .u64 0) ∧ w' = w := by
  go_enter Tryz.func179, Tryz.ntmps179
  go_wp2_with fail
  go_ret
  exact ⟨rfl, rfl⟩
set_option maxRecDepth 100000 in
set_option maxHeartbeats 1000000 in
theorem atof15 (w : World) (hT : RTab w) : Calls Tryz.prog 144 #[.string ⟨#[48, 46, 49, 53, 69, 49]⟩] w fun e w' => e = .returned (.tuple #[.float .f64 4609434218613702656, .int .i64 6, .nilIface]) ∧ w' = w := by
  have a2 := hT.o.2
  have HT : Hid (RTab w) := hT
  clear hT
  have H1 := special15 w
  have H2 := read15 w
  obtain ⟨s, hs⟩ : ∃ s, (⟨#[48, 46, 49, 53, 69, 49]⟩ : ByteArray) = s := ⟨_, rfl⟩
  rw [hs] at H1 H2 ⊢
  clear hs
  have H3 := bool2u_false w
  have H4 := exact15 w HT.out
  go_enter Tryz.func144, Tryz.ntmps144
  go_wp2_with (first
    | (go_at_call 170; refine H1.mono ?_; rintro e w1 ⟨rfl, rfl⟩)
    | (go_at_call 171; refine H2.mono ?_; rintro e w1 ⟨rfl, rfl⟩)
    | (go_at_call 179; refine H3.mono ?_; rintro e w1 ⟨rfl, rfl⟩)
    | (go_at_call 181; refine H4.mono ?_; rintro e w1 ⟨rfl, rfl⟩))
  go_ret3
  exact ⟨rfl, rfl⟩
set_option maxRecDepth 100000 in
theorem prefix15 (w : World) (hT : RTab w) : Calls Tryz.prog 124 #[.string ⟨#[48, 46, 49, 53, 69, 49]⟩, .int .i64 64] w fun e w' => e = .returned (.tuple #[.float .f64 4609434218613702656, .int .i64 6, .nilIface]) ∧ w' = w := by
  have H1 := atof15 w hT
  obtain ⟨s, hs⟩ : ∃ s, (⟨#[48, 46, 49, 53, 69, 49]⟩ : ByteArray) = s := ⟨_, rfl⟩
  rw [hs] at H1 ⊢
  clear hs hT
  go_enter Tryz.func124, Tryz.ntmps124
  go_wp2_with (go_at_call 144; refine H1.mono ?_; rintro e w1 ⟨rfl, rfl⟩)
  go_ret3
  exact ⟨rfl, rfl⟩
set_option maxRecDepth 100000 in
theorem iparse15 (w : World) (hT : RTab w) : Calls Tryz.prog 101 #[.string ⟨#[48, 46, 49, 53, 69, 49]⟩, .int .i64 64] w fun e w' => e = .returned (.tuple #[.float .f64 4609434218613702656, .nilIface]) ∧ w' = w := by
  have H1 := prefix15 w hT
  have hz : (⟨#[48, 46, 49, 53, 69, 49]⟩ : ByteArray).size = 6 := rfl
  obtain ⟨s, hs⟩ : ∃ s, (⟨#[48, 46, 49, 53, 69, 49]⟩ : ByteArray) = s := ⟨_, rfl⟩
  rw [hs] at H1 hz ⊢
  clear hs hT
  go_enter Tryz.func101, Tryz.ntmps101
  go_wp2_with (go_at_call 124; refine H1.mono ?_; rintro e w1 ⟨rfl, rfl⟩)
  go_ret2
  exact ⟨rfl, rfl⟩
set_option maxRecDepth 100000 in
theorem parse15 (w : World) (hT : RTab w) : Calls Tryz.prog 79 #[.string ⟨#[48, 46, 49, 53, 69, 49]⟩, .int .i64 64] w fun e w' => e = .returned (.tuple #[.float .f64 4609434218613702656, .nilIface]) ∧ w' = w := by
  have H1 := iparse15 w hT
  obtain ⟨s, hs⟩ : ∃ s, (⟨#[48, 46, 49, 53, 69, 49]⟩ : ByteArray) = s := ⟨_, rfl⟩
  rw [hs] at H1 ⊢
  clear hs hT
  go_enter Tryz.func79, Tryz.ntmps79
  go_wp2_with (go_at_call 101; refine H1.mono ?_; rintro e w1 ⟨rfl, rfl⟩)
  go_ret2
  exact ⟨rfl, rfl⟩
#print axioms parse15
end Go.Proofs.YtjdgpnhinjahjaaGreatDoor
