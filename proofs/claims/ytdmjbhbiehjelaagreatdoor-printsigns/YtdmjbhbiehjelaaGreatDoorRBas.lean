/- Columns, words, names: the program's small functions. -/
import Derived.Test.YtdmjbhbiehjelaaGreatDoorK22
import Derived.Test.YtdmjbhbiehjelaaGreatDoorK23
import Derived.Test.YtdmjbhbiehjelaaGreatDoorShelf
import Derived.Test.YtdmjbhbiehjelaaGreatDoorShelfR
namespace Go.Proofs.YtdmjbhbiehjelaaGreatDoor
open Go.RowKit Go.Shelf

set_option maxRecDepth 100000 in
theorem cap_any (r : Nat) (w : World) : Calls Tryz.prog 219 #[.int .i32 (r : Int)] w fun e w' => e = .returned (.bool (capK r)) ∧ w' = w := by
  go_enter Tryz.func219, Tryz.ntmps219
  go_wp2_with fail
  all_goals
    go_ret
    exact ⟨ret_bool_r (by unfold capK; rw [Bool.eq_iff_iff]; simp; try omega), rfl⟩
set_option maxRecDepth 100000 in
theorem dig_any (r : Nat) (w : World) : Calls Tryz.prog 182 #[.int .i32 (r : Int)] w fun e w' => e = .returned (.bool (digK r)) ∧ w' = w := by
  go_enter Tryz.func182, Tryz.ntmps182
  go_wp2_with fail
  all_goals
    go_ret
    exact ⟨ret_bool_r (by unfold digK; rw [Bool.eq_iff_iff]; simp; try omega), rfl⟩
set_option maxRecDepth 100000 in
theorem wrd_any (r : Nat) (w : World) : Calls Tryz.prog 181 #[.int .i32 (r : Int)] w fun e w' => e = .returned (.bool (wrdK r)) ∧ w' = w := by
  go_enter Tryz.func181, Tryz.ntmps181
  go_wp2_with (first
    | (go_at_call 219; refine (cap_any _ _).mono ?_; rintro e w1 ⟨rfl, rfl⟩)
    | (go_at_call 182; refine (dig_any _ _).mono ?_; rintro e w1 ⟨rfl, rfl⟩))
  all_goals
    go_ret
    exact ⟨ret_bool_r (by unfold wrdK; rw [Bool.eq_iff_iff]; simp_all; try omega), rfl⟩
set_option maxRecDepth 100000 in
theorem isCol_any (n : Int) (w : World) : Calls Tryz.prog 180 #[.int .i64 n] w fun e w' => e = .returned (.bool (decide (0 ≤ n ∧ n < 1024))) ∧ w' = w := by
  go_enter Tryz.func180, Tryz.ntmps180
  go_wp2_with fail
  all_goals
    go_ret
    exact ⟨ret_bool_r (by rw [Bool.eq_iff_iff]; simp; try omega), rfl⟩

/-- The letters of the m-th column, from 1 on. -/
def ltrGo : Nat → Nat → List UInt8
  | 0, _ => []
  | f + 1, m => if m = 0 then [] else ltrGo f ((m - 1) / 26) ++ [UInt8.ofNat (65 + (m - 1) % 26)]
def ltrL (n : Nat) : List UInt8 := ltrGo 1025 (n + 1)
theorem conv_cap (k : Nat) (h : k < 26) (w : World) : (convert 21 9 (.int .i32 ((65 : Int) + (k : Int)))).run Tryz.prog w = .ok (.string (baL_r [UInt8.ofNat (65 + k)])) w := by
  have e : k = 0 ∨ k = 1 ∨ k = 2 ∨ k = 3 ∨ k = 4 ∨ k = 5 ∨ k = 6 ∨ k = 7 ∨ k = 8 ∨ k = 9 ∨ k = 10 ∨ k = 11 ∨ k = 12 ∨ k = 13 ∨ k = 14 ∨ k = 15 ∨ k = 16 ∨ k = 17 ∨ k = 18 ∨ k = 19 ∨ k = 20 ∨ k = 21 ∨ k = 22 ∨ k = 23 ∨ k = 24 ∨ k = 25 := by omega
  rcases e with rfl | rfl | rfl | rfl | rfl | rfl | rfl | rfl | rfl | rfl | rfl | rfl | rfl | rfl | rfl | rfl | rfl | rfl | rfl | rfl | rfl | rfl | rfl | rfl | rfl | rfl <;> (show _ = _; kernel_rfl)
theorem ltrGo_len : ∀ (g m : Nat), (ltrGo g m).length ≤ m
  | 0, m => by simp [ltrGo]
  | g + 1, m => by
    rw [ltrGo]
    split
    · simp
    · have := ltrGo_len g ((m - 1) / 26)
      simp
      omega
set_option maxRecDepth 100000 in
set_option maxHeartbeats 1000000 in
theorem letters_any (n : Nat) (hn : n < 1024) (w : World) : Calls Tryz.prog 114 #[.int .i64 (n : Int)] w fun e w' => e = .returned (.string (baL_r (ltrL n))) ∧ w' = w := by
  obtain ⟨R, hR⟩ : ∃ R, ltrL n = R := ⟨_, rfl⟩
  have HR : Hid (ltrL n = R) := hR
  have hRl : R.length ≤ 1024 := by rw [← hR]; have := ltrGo_len 1025 (n + 1); unfold ltrL; omega
  rw [hR]
  clear hR
  go_enter Tryz.func114, Tryz.ntmps114
  go_wp2_with fail
  go_loop [0, 3] (fun nv sv => ∃ (g m : Nat) (x : Int) (A : List UInt8), nv = .int .i64 x ∧ x = (m : Int) - 1 ∧ sv = .string (baL_r A) ∧ m < g ∧ m ≤ 1024 ∧ A.length ≤ 1024 ∧ Hid (ltrGo g m ++ A = R)) (fun nv _ => (intOf nv + 1).toNat)
  case atStart => exact ⟨1025, n + 1, n, [], rfl, by omega, rfl, by omega, by omega, by simp, by show _ = _; rw [List.append_nil]; exact HR.out⟩
  case round =>
    obtain ⟨g, m, x, A, rfl, hx, rfl, hg, hm, hA, HC⟩ := hrel
    by_cases h0 : m = 0
    · subst h0
      obtain rfl : x = -1 := by omega
      have HX : Hid (A = R) := by
        have := HC.out
        cases g with
        | zero => omega
        | succ g => simpa [ltrGo, Hid] using this
      clear HC hx
      go_wp2_with fail
      go_ret
      rw [HX.out]
      exact ⟨rfl, rfl⟩
    · obtain ⟨q, rfl⟩ : ∃ q, m = q + 1 := ⟨m - 1, by omega⟩
      obtain ⟨g', rfl⟩ : ∃ g', g = g' + 1 := ⟨g - 1, by omega⟩
      obtain rfl : x = (q : Int) := by omega
      have HX : Hid (ltrGo g' (q / 26) ++ ([UInt8.ofNat (65 + q % 26)] ++ A) = R) := by
        have := HC.out
        rw [ltrGo, if_neg (by omega), List.append_assoc] at this
        exact this
      have hq26 : q % 26 < 26 := Nat.mod_lt _ (by omega)
      obtain ⟨k, hk⟩ : ∃ k, q % 26 = k := ⟨_, rfl⟩
      rw [hk] at hq26 HX
      have hcv := conv_cap k hq26
      have htm : (q : Int).tmod 26 = (k : Int) := by rw [← hk]; rfl
      have htd : (q : Int).tdiv 26 = ((q / 26 : Nat) : Int) := rfl
      obtain ⟨d, hd⟩ : ∃ d, q / 26 = d := ⟨_, rfl⟩
      rw [hd] at htd HX
      have HL : Hid (R.length = (ltrGo g' d).length + (1 + A.length)) := by show R.length = _; rw [← HX.out]; simp; omega
      have hAs : (baL_r A).size ≤ 1024 := by rw [baL_size_r]; exact hA
      have h1s : (baL_r [UInt8.ofNat (65 + k)]).size = 1 := rfl
      have HB : Hid (baL_r [UInt8.ofNat (65 + k)] ++ baL_r A = baL_r ([UInt8.ofNat (65 + k)] ++ A)) := baL_append_r _ _
      have hd2 : d ≤ q := by rw [← hd]; exact Nat.div_le_self _ _
      have HH : Hid (q / 26 = d) := hd
      generalize baL_r [UInt8.ofNat (65 + k)] = B1 at *
      generalize hBA : baL_r A = BA at *
      clear HC hk hd hx
      go_wp2_with fail
      go_round
      case rel => exact ⟨g', d, _, [UInt8.ofNat (65 + k)] ++ A, rfl, by omega, by rw [HB.out], by omega, by omega, by have := HL.out; simp; omega, HX⟩
      case measure => simp [intOf]; omega
#print axioms letters_any
end Go.Proofs.YtdmjbhbiehjelaaGreatDoor
