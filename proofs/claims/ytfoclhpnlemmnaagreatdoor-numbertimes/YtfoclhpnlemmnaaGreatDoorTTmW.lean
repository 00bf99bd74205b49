/- NumberTimes: the law's walk. -/
import Derived.Test.YtfoclhpnlemmnaaGreatDoorTPtR
namespace Go.Proofs.YtfoclhpnlemmnaaGreatDoor
open Go.RowKit Ieee

set_option maxRecDepth 100000 in
theorem same_self (x : Nat) (w : World) : Calls Tryz.prog 15 #[.float .f64 x, .float .f64 x] w fun e w' => e = .returned (.bool true) ∧ w' = w := by
  have h1 := run_bits x
  go_enter Tryz.func15, Tryz.ntmps15
  go_wp2_with fail
  go_ret
  exact ⟨ret_bool (by simp), rfl⟩
theorem dtV_tuple (x : Nat) : ∃ (A : ByteArray) (E : Int), dtV x = .tuple #[.string A, .int .i64 E] := by
  unfold dtV
  split
  · exact ⟨_, _, rfl⟩
  · split
    · exact ⟨_, _, rfl⟩
    · exact ⟨_, _, rfl⟩
theorem ttV_tuple (x : Nat) : ∃ (A : ByteArray) (E : Int), ttV x = .tuple #[.string A, .int .i64 E] := by
  unfold ttV
  split
  · exact ⟨_, _, rfl⟩
  · split
    · exact ⟨_, _, rfl⟩
    · exact ⟨_, _, rfl⟩
theorem pdV_tuple (o : Option (Int × Nat)) : ∃ (A : Nat) (E : Int), pdV o = .tuple #[.float .f64 A, .int .i64 E] := by
  unfold pdV
  split
  · exact ⟨_, _, rfl⟩
  · exact ⟨_, _, rfl⟩
theorem ptV_tuple (o : Option (Bool × Nat)) : ∃ (A : Nat) (E : Int), ptV o = .tuple #[.float .f64 A, .int .i64 E] := by
  unfold ptV
  split
  · exact ⟨_, _, rfl⟩
  · exact ⟨_, _, rfl⟩
set_option maxRecDepth 100000 in
set_option maxHeartbeats 4000000 in
theorem times_walk (x : Nat) (s : ByteArray) (hx : x < 18446744073709551616) (hs : s.size ≤ 140737488355328) (w : World) (hT : NTabs w) : Calls Tryz.prog 3 #[.int .u64 (x : Int), .string s] w fun e w' => e = .returned (.bool true) ∧ Below w.heap.size w w' := by
  have h1 := run_from x
  have HL : Hid (∀ W, Fr noB w W → Calls Tryz.prog 14 #[] W fun e w' => e = .returned (.bool true) ∧ Fr noB W w') := fun W hW => live_true W (hT.fr hW)
  obtain ⟨A1, A2, hA⟩ := dtV_tuple x
  have H1 : Hid (∀ W, Fr noB w W → Calls Tryz.prog 6 #[.float .f64 x] W fun e w' => e = .returned (dtV x) ∧ Fr noB W w') := fun W hW => dateText_any x hx W (hT.fr hW).m (hT.fr hW).u
  have H2 : Hid (∀ W, Fr noB w W → Calls Tryz.prog 7 #[.float .f64 x] W fun e w' => e = .returned (dtV x) ∧ Fr noB W w') := fun W hW => rdateText_any x W (hT.fr hW).u
  rw [hA] at H1 H2
  obtain ⟨B1, B2, hB⟩ := ttV_tuple x
  have H3 : Hid (∀ W, Fr noB w W → Calls Tryz.prog 8 #[.float .f64 x] W fun e w' => e = .returned (ttV x) ∧ Fr noB W w') := fun W hW => timeText_any x hx W (hT.fr hW).u
  have H4 : Hid (∀ W, Fr noB w W → Calls Tryz.prog 9 #[.float .f64 x] W fun e w' => e = .returned (ttV x) ∧ Fr noB W w') := fun W hW => rtimeText_any x hx W (hT.fr hW).u
  rw [hB] at H3 H4
  obtain ⟨C1, C2, hC⟩ := pdV_tuple (pdF s.data.toList)
  have H5 : Hid (∀ W, Fr noB w W → Calls Tryz.prog 10 #[.string s] W fun e w' => e = .returned (pdV (pdF s.data.toList)) ∧ Fr noB W w') := fun W hW => parseDate_any s hs W (hT.fr hW).m
  have H6 : Hid (∀ W, Calls Tryz.prog 11 #[.string s] W fun e w' => e = .returned (pdV (pdF s.data.toList)) ∧ Fr noB W w') := fun W => rparseDate_any s W
  rw [hC] at H5 H6
  obtain ⟨D1, D2, hD⟩ := ptV_tuple (ptF s.data.toList)
  have H7 : Hid (∀ W, Calls Tryz.prog 12 #[.string s] W fun e w' => e = .returned (ptV (ptF s.data.toList)) ∧ Fr noB W w') := fun W => parseTime_any s hs W
  have H8 : Hid (∀ W, Calls Tryz.prog 13 #[.string s] W fun e w' => e = .returned (ptV (ptF s.data.toList)) ∧ Fr noB W w') := fun W => rparseTime_any s hs W
  rw [hD] at H7 H8
  have HS1 := same_self C1
  have HS2 := same_self D1
  clear hA hB hC hD hs
  have HT0 : Hid _ := hT
  clear hT
  go_enter Tryz.func3, Tryz.ntmps3
  go_wp2_with fail
  refine (H1.out _ (Fr.refl _ _)).mono ?_
  rintro e w1 ⟨rfl, hF1⟩
  have G1 : Hid (Fr noB w w1) := hF1
  clear hF1
  go_wp2_with fail
  refine (H2.out _ G1.out).mono ?_
  rintro e w2 ⟨rfl, hF2⟩
  have G2 : Hid (Fr noB w w2) := G1.out.trans hF2
  clear hF2
  go_wp2_with fail
  refine (H3.out _ G2.out).mono ?_
  rintro e w3 ⟨rfl, hF3⟩
  have G3 : Hid (Fr noB w w3) := G2.out.trans hF3
  clear hF3
  go_wp2_with fail
  refine (H4.out _ G3.out).mono ?_
  rintro e w4 ⟨rfl, hF4⟩
  have G4 : Hid (Fr noB w w4) := G3.out.trans hF4
  clear hF4
  go_wp2_with fail
  refine (H5.out _ G4.out).mono ?_
  rintro e w5 ⟨rfl, hF5⟩
  have G5 : Hid (Fr noB w w5) := G4.out.trans hF5
  clear hF5
  go_wp2_with fail
  refine (H6.out _).mono ?_
  rintro e w6 ⟨rfl, hF6⟩
  have G6 : Hid (Fr noB w w6) := G5.out.trans hF6
  clear hF6
  go_wp2_with fail
  refine (H7.out _).mono ?_
  rintro e w7 ⟨rfl, hF7⟩
  have G7 : Hid (Fr noB w w7) := G6.out.trans hF7
  clear hF7
  go_wp2_with fail
  refine (H8.out _).mono ?_
  rintro e w8 ⟨rfl, hF8⟩
  have G8 : Hid (Fr noB w w8) := G7.out.trans hF8
  clear hF8
  go_wp2_with fail
  refine (HL.out _ G8.out).mono ?_
  rintro e w9 ⟨rfl, hF9⟩
  have G9 : Hid (Fr noB w w9) := G8.out.trans hF9
  clear hF9
  go_wp2_with fail
  refine (HS1 _).mono ?_
  rintro e w10 ⟨rfl, hw10⟩
  rw [hw10]
  clear hw10
  go_wp2_with fail
  refine (HS2 _).mono ?_
  rintro e w11 ⟨rfl, hw11⟩
  rw [hw11]
  clear hw11
  go_wp2_with fail
  go_ret
  refine ⟨ret_bool (by simp), ?_⟩
  exact G9.out.below (Nat.le_refl _) (fun _ h => h.elim)
#print axioms times_walk
end Go.Proofs.YtfoclhpnlemmnaaGreatDoor
