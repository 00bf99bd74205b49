/- Scaling by powers of ten: contracts of the library's small functions. -/
import Derived.Test.YtnklmcmdlobicaaGreatDoorNToD
import Derived.Test.YtnklmcmdlobicaaGreatDoorShelf
import GoSem.PinnedTables
namespace Go.Proofs.YtnklmcmdlobicaaGreatDoor
open Go.RowKit Ieee Go.Shelf

def l10 (x : Int) : Int := x * 78913 / 262144
def l2 (x : Int) : Int := x * 108853 / 32768
def skw (e : Int) : Int := (e * 631305 - 261663) / 2097152
set_option maxRecDepth 100000 in
theorem l10_any (x : Int) (h1 : -100000 ≤ x) (h2 : x ≤ 100000) (w : World) : Calls Tryz.prog 178 #[.int .i64 x] w fun e w' => e = .returned (.int .i64 (l10 x)) ∧ w' = w := by
  go_enter Tryz.func178, Tryz.ntmps178
  go_wp2_with fail
  go_ret
  exact ⟨ret_int (by unfold l10; go_num), rfl⟩
set_option maxRecDepth 100000 in
theorem l2_any (x : Int) (h1 : -100000 ≤ x) (h2 : x ≤ 100000) (w : World) : Calls Tryz.prog 212 #[.int .i64 x] w fun e w' => e = .returned (.int .i64 (l2 x)) ∧ w' = w := by
  go_enter Tryz.func212, Tryz.ntmps212
  go_wp2_with fail
  go_ret
  exact ⟨ret_int (by unfold l2; go_num), rfl⟩
set_option maxRecDepth 100000 in
theorem skw_any (x : Int) (h1 : -100000 ≤ x) (h2 : x ≤ 100000) (w : World) : Calls Tryz.prog 210 #[.int .i64 x] w fun e w' => e = .returned (.int .i64 (skw x)) ∧ w' = w := by
  go_enter Tryz.func210, Tryz.ntmps210
  go_wp2_with fail
  go_ret
  exact ⟨ret_int (by unfold skw; go_num), rfl⟩
set_option maxRecDepth 100000 in
theorem bool2u_any (b : Bool) (w : World) : Calls Tryz.prog 242 #[.bool b] w fun e w' => e = .returned (.int .u64 ((b.toNat : Nat) : Int)) ∧ w' = w := by
  cases b <;> (
    go_enter Tryz.func242, Tryz.ntmps242
    go_wp2_with fail
    go_ret
    exact ⟨rfl, rfl⟩)
set_option maxRecDepth 100000 in
theorem bool2i_any (b : Bool) (w : World) : Calls Tryz.prog 219 #[.bool b] w fun e w' => e = .returned (.int .i64 ((b.toNat : Nat) : Int)) ∧ w' = w := by
  cases b <;> (
    go_enter Tryz.func219, Tryz.ntmps219
    go_wp2_with fail
    go_ret
    exact ⟨rfl, rfl⟩)
set_option maxRecDepth 100000 in
theorem ceil_any (u : Nat) (w : World) : Calls Tryz.prog 215 #[.int .u64 (u : Int)] w fun e w' => e = .returned (.int .u64 (((u + 3) % 18446744073709551616 / 4 : Nat) : Int)) ∧ w' = w := by
  go_enter Tryz.func215, Tryz.ntmps215
  go_wp2_with fail
  go_ret
  exact ⟨ret_int (by rw [IntKind.wrap_u64]; omega), rfl⟩
set_option maxRecDepth 100000 in
theorem floorU_any (u : Nat) (hu : u < 18446744073709551616) (w : World) : Calls Tryz.prog 216 #[.int .u64 (u : Int)] w fun e w' => e = .returned (.int .u64 ((u / 4 : Nat) : Int)) ∧ w' = w := by
  go_enter Tryz.func216, Tryz.ntmps216
  go_wp2_with fail
  go_ret
  exact ⟨ret_int (by omega), rfl⟩
set_option maxRecDepth 100000 in
theorem round_any (u : Nat) (hu : u < 18446744073709551616) (w : World) : Calls Tryz.prog 217 #[.int .u64 (u : Int)] w fun e w' => e = .returned (.int .u64 (((u + 1 + u / 4 % 2) % 18446744073709551616 / 4 : Nat) : Int)) ∧ w' = w := by
  go_enter Tryz.func217, Tryz.ntmps217
  go_wp2_with fail
  go_ret
  refine ⟨ret_int ?_, rfl⟩
  have h1 : bits BinOp.and IntKind.u64 ((u : Int) / 4) 1 = ((u / 4 % 2 : Nat) : Int) := by
    rw [show ((u : Int) / 4) = ((u / 4 : Nat) : Int) by omega, show (1 : Int) = ((1 : Nat) : Int) from rfl, u64_and_nat _ _ (by omega) (by omega), Nat.and_one_is_mod]
  rw [h1, IntKind.wrap_u64, IntKind.wrap_u64]
  omega
set_option maxRecDepth 100000 in
theorem nudge_any (u : Nat) (d : Int) (w : World) : Calls Tryz.prog 214 #[.int .u64 (u : Int), .int .i64 d] w fun e w' => e = .returned (.int .u64 (((u : Int) + d) % 18446744073709551616)) ∧ w' = w := by
  go_enter Tryz.func214, Tryz.ntmps214
  go_wp2_with fail
  go_ret
  exact ⟨ret_int (by rw [IntKind.wrap_u64, IntKind.wrap_u64]; omega), rfl⟩

/-- The table of powers of ten lies where it should. -/
def PTab (w : World) : Prop := 11 < w.heap.size ∧ ∀ i, i < 696 → w.cell? ⟨11, i * 2, none⟩ = some (.int .u64 (((Pinned.pow10Rows.getD i (0, 0)).1 : Nat) : Int)) ∧ w.cell? ⟨11, i * 2 + 1, none⟩ = some (.int .u64 (((Pinned.pow10Rows.getD i (0, 0)).2 : Nat) : Int))
theorem PTab.fr {w w' : World} (h : PTab w) (hF : Fr noB w w') : PTab w' := ⟨Nat.lt_of_lt_of_le h.1 hF.size, fun i hi => ⟨(hF.cell (a := ⟨11, i * 2, none⟩) h.1 id).trans (h.2 i hi).1, (hF.cell (a := ⟨11, i * 2 + 1, none⟩) h.1 id).trans (h.2 i hi).2⟩⟩

set_option maxRecDepth 100000 in
set_option maxHeartbeats 1000000 in
theorem prescale_any (pb i : Nat) (e lp : Int) (w : World) (hT : PTab w) (hne : ¬ pb = 11) (hi : i < 696) (h1 : -100000 ≤ e) (h2 : e ≤ 100000) (h3 : -100000 ≤ lp) (h4 : lp ≤ 100000) (hp : w.heap[pb]? = some (.cells #[.int .u64 0, .int .u64 0, .int .i64 0] 217 (0, 0))) :
    Calls Tryz.prog 211 #[.pointer (some ⟨pb, 0, none⟩), .int .i64 e, .int .i64 ((i : Int) - 348), .int .i64 lp] w fun en w' => en = .returned (.tuple #[]) ∧ w'.heap[pb]? = some (.cells #[.int .u64 (((Pinned.pow10Rows.getD i (0, 0)).1 : Nat) : Int), .int .u64 (((Pinned.pow10Rows.getD i (0, 0)).2 : Nat) : Int), .int .i64 (-(e + lp + 3))] 217 (0, 0)) ∧ Fr (oneB pb) w w' := by
  obtain ⟨c1, c2⟩ := hT.2 i hi
  generalize ((Pinned.pow10Rows.getD i (0, 0)).1 : Nat) = hi at *
  generalize ((Pinned.pow10Rows.getD i (0, 0)).2 : Nat) = lo at *
  have f0 := freeOf (o := 0) hp
  have f1 := freeOf (o := 1) hp
  have f2 := freeOf (o := 2) hp
  have hne' : ¬ 11 = pb := fun h => hne h.symm
  have g0 : w.cell? ⟨pb, 0, none⟩ = some (.int .u64 0) := cellOf (o := 0) hp rfl
  have g1 : w.cell? ⟨pb, 1, none⟩ = some (.int .u64 0) := cellOf (o := 1) hp rfl
  have g2 : w.cell? ⟨pb, 2, none⟩ = some (.int .i64 0) := cellOf (o := 2) hp rfl
  go_enter Tryz.func211, Tryz.ntmps211
  go_wp2_with fail
  go_end0
  refine ⟨rfl, setOf 2 _ (setOf 1 _ (setOf 0 _ hp)), ?_⟩
  exact (((Fr.refl (oneB pb) w).setOne 0 _).setOne 1 _).setOne 2 _

theorem i64_and_nat (a b : Nat) (ha : a < 4611686018427387904) (hb : b < 4611686018427387904) : bits .and .i64 (a : Int) (b : Int) = ((a &&& b : Nat) : Int) := by
  show IntKind.i64.wrap ((BitVec.ofInt 64 (a : Int) &&& BitVec.ofInt 64 (b : Int)).toNat : Int) = _
  rw [BitVec.toNat_and, BitVec.ofInt_natCast, BitVec.ofInt_natCast, BitVec.toNat_ofNat, BitVec.toNat_ofNat, Nat.mod_eq_of_lt (by omega), Nat.mod_eq_of_lt (by omega)]
  have h : a &&& b ≤ a := Nat.and_le_left
  rw [IntKind.wrap_i64]
  omega

theorem mul64_any (x y : Nat) (hx : x < 18446744073709551616) (hy : y < 18446744073709551616) (w : World) : Calls Tryz.prog 117 #[.int .u64 (x : Int), .int .u64 (y : Int)] w fun e w' => e = .returned (.tuple #[.int .u64 ((x * y / 18446744073709551616 : Nat) : Int), .int .u64 ((x * y % 18446744073709551616 : Nat) : Int)]) ∧ w' = w :=
  Any.bits_Mul64 Tryz.laysLaysn264 x y hx hy w
theorem len64_any (x : Nat) (hx : x < 18446744073709551616) (w : World) : Calls Tryz.prog 174 #[.int .u64 (x : Int)] w fun e w' => e = .returned (.int .i64 ((Lib.bitLen x : Nat) : Int)) ∧ w' = w :=
  Any.bits_Len64 Tryz.laysLaysn129 (x : Int) w (by omega) (by omega)
/-- What is scaled, not rounded. -/
def uscF (x hi lo s : Nat) : Nat :=
  if x * hi / 18446744073709551616 / 2 ^ s * 2 ^ s ≠ x * hi / 18446744073709551616 then x * hi / 18446744073709551616 / 2 ^ s ||| 1
  else (x * hi / 18446744073709551616 + 18446744073709551616 - (decide (x * hi % 18446744073709551616 < x * lo / 18446744073709551616)).toNat) % 18446744073709551616 / 2 ^ s ||| (decide (1 < (x * hi % 18446744073709551616 + 18446744073709551616 - x * lo / 18446744073709551616) % 18446744073709551616)).toNat
theorem mul_hi_lt {x y : Nat} (hx : x < 18446744073709551616) (hy : y < 18446744073709551616) : x * y / 18446744073709551616 < 18446744073709551616 := by
  rw [Nat.div_lt_iff_lt_mul (by omega)]
  exact Nat.lt_of_le_of_lt (Nat.mul_le_mul_right y (Nat.le_of_lt hx)) (Nat.mul_lt_mul_of_pos_left hy (by omega))
set_option maxRecDepth 100000 in
set_option maxHeartbeats 1000000 in
theorem uscale_any (x hi lo s pb : Nat) (w : World) (hx : x < 18446744073709551616) (hhi : hi < 18446744073709551616) (hlo : lo < 18446744073709551616) (hs : s ≤ 63) (hp : w.heap[pb]? = some (.cells #[.int .u64 (hi : Int), .int .u64 (lo : Int), .int .i64 (s : Int)] 217 (0, 0))) :
    Calls Tryz.prog 213 #[.int .u64 (x : Int), .pointer (some ⟨pb, 0, none⟩)] w fun e w' => e = .returned (.int .u64 ((uscF x hi lo s : Nat) : Int)) ∧ ∃ m, w' = w.drewN m := by
  have g0 : w.cell? ⟨pb, 0, none⟩ = some (.int .u64 (hi : Int)) := cellOf (o := 0) hp rfl
  have g1 : w.cell? ⟨pb, 1, none⟩ = some (.int .u64 (lo : Int)) := cellOf (o := 1) hp rfl
  have g2 : w.cell? ⟨pb, 2, none⟩ = some (.int .i64 (s : Int)) := cellOf (o := 2) hp rfl
  have HM1 := mul64_any x hi hx hhi w
  have HM2 := mul64_any x lo hx hlo w
  have hand : bits .and .i64 (s : Int) 63 = (s : Int) := by
    rw [show (63 : Int) = ((63 : Nat) : Int) from rfl, i64_and_nat _ _ (by omega) (by omega)]
    congr 1
    exact (Nat.and_two_pow_sub_one_eq_mod s 6).trans (Nat.mod_eq_of_lt (by omega))
  have k1 := mul_hi_lt hx hhi
  have k2 := mul_hi_lt hx hlo
  have k3 : x * hi % 18446744073709551616 < 18446744073709551616 := Nat.mod_lt _ (by omega)
  obtain ⟨U, hU⟩ : ∃ U, uscF x hi lo s = U := ⟨_, rfl⟩
  rw [hU]
  unfold uscF at hU
  generalize x * hi / 18446744073709551616 = A at *
  generalize x * hi % 18446744073709551616 = M at *
  generalize x * lo / 18446744073709551616 = M2 at *
  have HU : Hid _ := hU
  clear hU
  go_enter Tryz.func213, Tryz.ntmps213
  go_wp2_with (first | (go_at_call 117; (first | with_reducible refine HM1.mono ?_ | with_reducible refine HM2.mono ?_); rintro e w1 ⟨rfl, rfl⟩) | (go_at_call 242; with_reducible refine (bool2u_any _ _).mono ?_; rintro e w1 ⟨rfl, rfl⟩))
  · have hcond : (IntKind.u64.wrap ((A : Int) / 2 ^ s * 2 ^ s) != (A : Int)) = true := by assumption
    go_ret
    refine ⟨ret_int ?_, 0, rfl⟩
    have e1 : (A : Int) / 2 ^ s = ((A / 2 ^ s : Nat) : Int) := by simp
    have e2 : (A : Int) / 2 ^ s * 2 ^ s = ((A / 2 ^ s * 2 ^ s : Nat) : Int) := by simp
    have hle : A / 2 ^ s * 2 ^ s ≤ A := Nat.div_mul_le_self A (2 ^ s)
    have hle2 : A / 2 ^ s ≤ A := Nat.div_le_self A (2 ^ s)
    rw [e2, IntKind.wrap_u64] at hcond
    have hne : A / 2 ^ s * 2 ^ s ≠ A := by
      intro h
      rw [h] at hcond
      simp at hcond
      omega
    rw [← HU.out, if_pos hne, e1, show (1 : Int) = ((1 : Nat) : Int) from rfl, u64_or_nat _ _ (by omega) (by omega)]
  · have hcond : (IntKind.u64.wrap ((A : Int) / 2 ^ s * 2 ^ s) != (A : Int)) = false := by assumption
    have e2 : (A : Int) / 2 ^ s * 2 ^ s = ((A / 2 ^ s * 2 ^ s : Nat) : Int) := by simp
    have hle : A / 2 ^ s * 2 ^ s ≤ A := Nat.div_mul_le_self A (2 ^ s)
    rw [e2, IntKind.wrap_u64] at hcond
    have hne : ¬ A / 2 ^ s * 2 ^ s ≠ A := by
      intro h
      simp at hcond
      omega
    have hU := HU.out
    rw [if_neg hne] at hU
    clear HU
    have ew : IntKind.u64.wrap ((A : Int) - ((decide (M < M2)).toNat : Nat)) = (((A + 18446744073709551616 - (decide (M < M2)).toNat) % 18446744073709551616 : Nat) : Int) := by
      have : (decide (M < M2)).toNat ≤ 1 := Bool.toNat_le _
      rw [IntKind.wrap_u64]
      omega
    rw [ew]
    have em : IntKind.u64.wrap ((M : Int) - (M2 : Int)) = (((M + 18446744073709551616 - M2) % 18446744073709551616 : Nat) : Int) := by
      rw [IntKind.wrap_u64]
      omega
    have kA : (A + 18446744073709551616 - (decide (M < M2)).toNat) % 18446744073709551616 < 18446744073709551616 := Nat.mod_lt _ (by omega)
    have kM : (M + 18446744073709551616 - M2) % 18446744073709551616 < 18446744073709551616 := Nat.mod_lt _ (by omega)
    generalize (A + 18446744073709551616 - (decide (M < M2)).toNat) % 18446744073709551616 = A2 at *
    generalize (M + 18446744073709551616 - M2) % 18446744073709551616 = M3 at *
    have HU2 : Hid _ := hU
    clear hU ew hcond hle hne e2
    go_quiet (first | (go_at_call 242; exact Calls.quiet_of_same (bool2u_any _ _)))
    go_wp2_with fail
    go_ret
    refine ⟨ret_int ?_, nq, rfl⟩
    have e1 : (A2 : Int) / 2 ^ s = ((A2 / 2 ^ s : Nat) : Int) := by simp
    have hle2 : A2 / 2 ^ s ≤ A2 := Nat.div_le_self A2 (2 ^ s)
    have hb : (decide (1 < M3)).toNat ≤ 1 := Bool.toNat_le _
    have hd : decide ((1 : Int) < (M3 : Int)) = decide (1 < M3) := decide_eq_decide.2 (by omega)
    rw [← HU2.out, e1, hd, u64_or_nat _ _ (by omega) (by omega)]
#print axioms uscale_any
#print axioms prescale_any
end Go.Proofs.YtnklmcmdlobicaaGreatDoor
