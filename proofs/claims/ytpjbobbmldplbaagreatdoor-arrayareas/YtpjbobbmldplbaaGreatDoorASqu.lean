/- Powers of two by squaring. -/
import Derived.Test.YtpjbobbmldplbaaGreatDoorK05
import Derived.Test.YtpjbobbmldplbaaGreatDoorAFlt
import Derived.Test.YtpjbobbmldplbaaGreatDoorShelf3
import Derived.Shelf.Small.Bits
import Derived.Deep.LoopGhost
namespace Go.Proofs.YtpjbobbmldplbaaGreatDoor
open Go.RowKit Ieee Go.Shelf

theorem len_any (x : Nat) (hx : x < 18446744073709551616) (w : World) : Calls Tryz.prog 98 #[.int .u64 (x : Int)] w fun e w' => e = .returned (.int .i64 ((Lib.bitLen x : Nat) : Int)) ∧ w' = w := by
  have HL : Calls Tryz.prog 106 #[.int .u64 (x : Int)] w fun e w' => e = .returned (.int .i64 ((Lib.bitLen x : Nat) : Int)) ∧ w' = w := Any.bits_Len64 Tryz.laysLaysn129 (x : Int) w (by omega) (by omega)
  go_enter Tryz.func98, Tryz.ntmps98
  go_wp2_with (go_at_call 106; refine HL.mono ?_; rintro e w1 ⟨rfl, rfl⟩)
  go_ret
  exact ⟨rfl, rfl⟩
set_option maxRecDepth 100000 in
theorem bl_all : (List.range 1024).all (fun m => m >>> Lib.bitLen m == 0) = true := by decide +kernel
theorem u64_and1 (n : Nat) (hn : n < 18446744073709551616) : bits .and .u64 (n : Int) 1 = ((n % 2 : Nat) : Int) := by
  show IntKind.u64.wrap ((BitVec.ofInt 64 (n : Int) &&& BitVec.ofInt 64 ((1 : Nat) : Int)).toNat : Int) = _
  rw [BitVec.toNat_and, BitVec.ofInt_natCast, BitVec.ofInt_natCast, BitVec.toNat_ofNat, BitVec.toNat_ofNat, Nat.mod_eq_of_lt (by omega), Nat.mod_eq_of_lt (by omega), Nat.and_one_is_mod]
  rw [IntKind.wrap_u64]
  omega
set_option maxRecDepth 100000 in
theorem squared_any (m : Nat) (hm : m ≤ 1023) (w : World) : Calls Tryz.prog 84 #[.float .f64 4611686018427387904, .int .u64 (m : Int)] w fun e w' => e = .returned (.float .f64 (p2 (m + 1023))) ∧ w' = w := by
  have HL := len_any m (by omega) w
  generalize hk : Lib.bitLen m = len at HL
  go_enter Tryz.func84, Tryz.ntmps84
  go_wp2_with (go_at_call 98; refine HL.mono ?_; rintro e w1 ⟨rfl, hw⟩; rw [hw]; clear hw)
  have hlen : len ≤ 10 := by
    rw [← hk]
    exact Lib.bitLen_le m 10 (by decide) (Nat.lt_of_le_of_lt hm (by decide))
  have hP0 : m >>> len = 0 := by
    rw [← hk]
    simpa using (List.all_eq_true.1 bl_all) m (List.mem_range.2 (by omega))
  have HP : Hid _ := hP0
  have HK : Hid _ := hk
  clear hk hP0
  go_loopg [5, 11] len (fun gh pv iv wr => ∃ i : Nat, i ≤ len ∧ gh = len - i ∧ pv = .float .f64 (p2 (m >>> (len - i) + 1023)) ∧ iv = .int .i64 (i : Int) ∧ wr = w)
  case atStart => exact ⟨0, Nat.zero_le _, rfl, by rw [Nat.sub_zero, HP.out]; rfl, rfl, rfl⟩
  case round =>
    obtain ⟨i, hi, rfl, rfl, rfl, rfl⟩ := hrel
    by_cases hlt : i < len
    · have hle : m >>> (len - (i + 1)) ≤ 1023 := Nat.le_trans (Nat.shiftRight_le m _) hm
      obtain ⟨j, hj⟩ : ∃ j, j = len - (i + 1) := ⟨_, rfl⟩
      have HJ : Hid (len - i = j + 1 ∧ len - (i + 1) = j) := ⟨by omega, by omega⟩
      have hs := shr_step m j
      rw [← hj] at hle
      rw [HJ.out.1]
      have e3 : (len : Int) - 1 - (i : Int) = (j : Int) := by omega
      have h1 : (i : Int) < (len : Int) := by omega
      have hj2 : j ≤ 10 := by omega
      have hi2 : i ≤ 10 := by omega
      clear hj
      generalize hq : m >>> (j + 1) = q at *
      have HS : Hid _ := hs
      have hmu : ∀ W, (binOp .mul 35 (.float .f64 (p2 (q + 1023))) (.float .f64 (p2 (q + 1023)))).run Tryz.prog W = .ok (.float .f64 (p2 (q + q + 1023))) W := fun W => run_float_arith W .mul 35 .f64 _ _ _ (p2_sq (by omega))
      have hA : bits .and .u64 ((m : Int) / 2 ^ j) 1 = (((m >>> j) % 2 : Nat) : Int) := by
        rw [← u64_and1 _ (by omega), Nat.shiftRight_eq_div_pow]
        norm_cast
      have hR : ∀ b, m >>> j % 2 = b → Hid (m >>> j = q + q + b) := fun b h => by show m >>> j = q + q + b; omega
      clear hs
      rcases Nat.mod_two_eq_zero_or_one (m >>> j) with h0 | h0
      · have HR := hR 0 h0
        rw [h0] at hA
        clear h0 hR
        go_wp2_with fail
        go_roundg (len - (i + 1))
        case rel => exact ⟨i + 1, by omega, rfl, by rw [HJ.out.2, HR.out], by go_num, rfl⟩
        case measure => omega
      · have HR := hR 1 h0
        have hmv : ∀ W, (binOp .mul 35 (.float .f64 (p2 (q + q + 1023))) (.float .f64 4611686018427387904)).run Tryz.prog W = .ok (.float .f64 (p2 (q + q + 1 + 1023))) W := fun W => run_float_arith W .mul 35 .f64 _ _ _ (p2_two (by have := HR.out; omega))
        rw [h0] at hA
        clear h0 hR
        go_wp2_with fail
        go_roundg (len - (i + 1))
        case rel => exact ⟨i + 1, by omega, rfl, by rw [HJ.out.2, HR.out], by go_num, rfl⟩
        case measure => omega
    · obtain rfl : i = len := by omega
      have h1 : ¬ ((i : Int) < (i : Int)) := by omega
      go_wp2_with fail
      go_ret
      exact ⟨rfl, rfl⟩
#print axioms squared_any
end Go.Proofs.YtpjbobbmldplbaaGreatDoor
