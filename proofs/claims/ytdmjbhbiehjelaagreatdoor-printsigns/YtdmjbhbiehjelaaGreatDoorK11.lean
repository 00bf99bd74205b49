/- Scaling by powers of ten: contracts of the library's small functions. -/
import Derived.Test.YtdmjbhbiehjelaaGreatDoorK09
import Derived.Test.YtdmjbhbiehjelaaGreatDoorShelf
import GoSem.PinnedTables
namespace Go.Proofs.YtdmjbhbiehjelaaGreatDoor
open Go.RowKit Ieee Go.Shelf

def l10 (x : Int) : Int := x * 78913 / 262144
def l2 (x : Int) : Int := x * 108853 / 32768
def skw (e : Int) : Int := (e * 631305 - 261663) / 2097152
set_option maxRecDepth 100000 in
theorem l10_any (x : Int) (h1 : -100000 ≤ x) (h2 : x ≤ 100000) (w : World) : Calls Tryz.prog 192 #[.int .i64 x] w fun e w' => e = .returned (.int .i64 (l10 x)) ∧ w' = w := by
  go_enter Tryz.func192, Tryz.ntmps192
  go_wp2_with fail
  go_ret
  exact ⟨ret_int (by unfold l10; go_num), rfl⟩
set_option maxRecDepth 100000 in
theorem l2_any (x : Int) (h1 : -100000 ≤ x) (h2 : x ≤ 100000) (w : World) : Calls Tryz.prog 225 #[.int .i64 x] w fun e w' => e = .returned (.int .i64 (l2 x)) ∧ w' = w := by
  go_enter Tryz.func225, Tryz.ntmps225
  go_wp2_with fail
  go_ret
  exact ⟨ret_int (by unfold l2; go_num), rfl⟩
set_option maxRecDepth 100000 in
theorem skw_any (x : Int) (h1 : -100000 ≤ x) (h2 : x ≤ 100000) (w : World) : Calls Tryz.prog 223 #[.int .i64 x] w fun e w' => e = .returned (.int .i64 (skw x)) ∧ w' = w := by
  go_enter Tryz.func223, Tryz.ntmps223
  go_wp2_with fail
  go_ret
  exact ⟨ret_int (by unfold skw; go_num), rfl⟩
set_option maxRecDepth 100000 in
theorem bool2u_any (b : Bool) (w : World) : Calls Tryz.prog 248 #[.bool b] w fun e w' => e = .returned (.int .u64 ((b.toNat : Nat) : Int)) ∧ w' = w := by
  cases b <;> (
    go_enter Tryz.func248, Tryz.ntmps248
    go_wp2_with fail
    go_ret
    exact ⟨rfl, rfl⟩)
set_option maxRecDepth 100000 in
theorem bool2i_any (b : Bool) (w : World) : Calls Tryz.prog 200 #[.bool b] w fun e w' => e = .returned (.int .i64 ((b.toNat : Nat) : Int)) ∧ w' = w := by
  cases b <;> (
    go_enter Tryz.func200, Tryz.ntmps200
    go_wp2_with fail
    go_ret
    exact ⟨rfl, rfl⟩)
set_option maxRecDepth 100000 in
theorem ceil_any (u : Nat) (w : World) : Calls Tryz.prog 228 #[.int .u64 (u : Int)] w fun e w' => e = .returned (.int .u64 (((u + 3) % 18446744073709551616 / 4 : Nat) : Int)) ∧ w' = w := by
  go_enter Tryz.func228, Tryz.ntmps228
  go_wp2_with fail
  go_ret
  exact ⟨ret_int (by rw [IntKind.wrap_u64]; omega), rfl⟩
set_option maxRecDepth 100000 in
theorem floorU_any (u : Nat) (hu : u < 18446744073709551616) (w : World) : Calls Tryz.prog 229 #[.int .u64 (u : Int)] w fun e w' => e = .returned (.int .u64 ((u / 4 : Nat) : Int)) ∧ w' = w := by
  go_enter Tryz.func229, Tryz.ntmps229
  go_wp2_with fail
  go_ret
  exact ⟨ret_int (by omega), rfl⟩
set_option maxRecDepth 100000 in
theorem round_any (u : Nat) (hu : u < 18446744073709551616) (w : World) : Calls Tryz.prog 230 #[.int .u64 (u : Int)] w fun e w' => e = .returned (.int .u64 (((u + 1 + u / 4 % 2) % 18446744073709551616 / 4 : Nat) : Int)) ∧ w' = w := by
  go_enter Tryz.func230, Tryz.ntmps230
  go_wp2_with fail
  go_ret
  refine ⟨ret_int ?_, rfl⟩
  have h1 : bits BinOp.and IntKind.u64 ((u : Int) / 4) 1 = ((u / 4 % 2 : Nat) : Int) := by
    rw [show ((u : Int) / 4) = ((u / 4 : Nat) : Int) by omega, show (1 : Int) = ((1 : Nat) : Int) from rfl, u64_and_nat _ _ (by omega) (by omega), Nat.and_one_is_mod]
  rw [h1, IntKind.wrap_u64, IntKind.wrap_u64]
  omega
set_option maxRecDepth 100000 in
theorem nudge_any (u : Nat) (d : Int) (w : World) : Calls Tryz.prog 227 #[.int .u64 (u : Int), .int .i64 d] w fun e w' => e = .returned (.int .u64 (((u : Int) + d) % 18446744073709551616)) ∧ w' = w := by
  go_enter Tryz.func227, Tryz.ntmps227
  go_wp2_with fail
  go_ret
  exact ⟨ret_int (by rw [IntKind.wrap_u64, IntKind.wrap_u64]; omega), rfl⟩

/-- The table of powers of ten lies where it should. -/
def PTab (w : World) : Prop := 13 < w.heap.size ∧ ∀ i, i < 696 → w.cell? ⟨13, i * 2, none⟩ = some (.int .u64 (((Pinned.pow10Rows.getD i (0, 0)).1 : Nat) : Int)) ∧ w.cell? ⟨13, i * 2 + 1, none⟩ = some (.int .u64 (((Pinned.pow10Rows.getD i (0, 0)).2 : Nat) : Int))
theorem PTab.fr {w w' : World} (h : PTab w) (hF : Fr noB w w') : PTab w' := ⟨Nat.lt_of_lt_of_le h.1 hF.size, fun i hi => ⟨(hF.cell (a := ⟨13, i * 2, none⟩) h.1 id).trans (h.2 i hi).1, (hF.cell (a := ⟨13, i * 2 + 1, none⟩) h.1 id).trans (h.2 i hi).2⟩⟩

set_option maxRecDepth 100000 in
set_option maxHeartbeats 1000000 in
theorem prescale_any (pb i : Nat) (e lp : Int) (w : World) (hT : PTab w) (hne : ¬ pb = 13) (hi : i < 696) (h1 : -100000 ≤ e) (h2 : e ≤ 100000) (h3 : -100000 ≤ lp) (h4 : lp ≤ 100000) (hp : w.heap[pb]? = some (.cells #[.int .u64 0, .int .u64 0, .int .i64 0] 216 (0, 0))) :
    Calls Tryz.prog 224 #[.pointer (some ⟨pb, 0, none⟩), .int .i64 e, .int .i64 ((i : Int) - 348), .int .i64 lp] w fun en w' => en = .returned (.tuple #[]) ∧ w'.heap[pb]? = some (.cells #[.int .u64 (((Pinned.pow10Rows.getD i (0, 0)).1 : Nat) : Int), .int .u64 (((Pinned.pow10Rows.getD i (0, 0)).2 : Nat) : Int), .int .i64 (-(e + lp + 3))] 216 (0, 0)) ∧ Fr (oneB pb) w w' := by
  obtain ⟨c1, c2⟩ := hT.2 i hi
  generalize ((Pinned.pow10Rows.getD i (0, 0)).1 : Nat) = hi at *
  generalize ((Pinned.pow10Rows.getD i (0, 0)).2 : Nat) = lo at *
  have f0 := freeOf (o := 0) hp
  have f1 := freeOf (o := 1) hp
  have f2 := freeOf (o := 2) hp
  have hne' : ¬ 13 = pb := fun h => hne h.symm
  have g0 : w.cell? ⟨pb, 0, none⟩ = some (.int .u64 0) := cellOf (o := 0) hp rfl
  have g1 : w.cell? ⟨pb, 1, none⟩ = some (.int .u64 0) := cellOf (o := 1) hp rfl
  have g2 : w.cell? ⟨pb, 2, none⟩ = some (.int .i64 0) := cellOf (o := 2) hp rfl
  go_enter Tryz.func224, Tryz.ntmps224
  go_wp2_with fail
  go_end0
  refine ⟨rfl, setOf 2 _ (setOf 1 _ (setOf 0 _ hp)), ?_⟩
  exact (((Fr.refl (oneB pb) w).setOne 0 _).setOne 1 _).setOne 2 _

theorem i64_and_nat (a b : Nat) (ha : a < 4611686018427387904) (hb : b < 4611686018427387904) : bits .and .i64 (a : Int) (b : Int) = ((a &&& b : Nat) : Int) := by
  show IntKind.i64.wrap ((BitVec.ofInt 64 (a : Int) &&& BitVec.ofInt 64 (b : Int)).toNat : Int) = _
  rw [BitVec.toNat_and, BitVec.ofInt_natCast, BitVec.ofInt_natCast, BitVec.toNat_ofNat, BitVec.toNat_ofNat, Nat.mod_eq_of_lt (by omega), Nat.mod_eq_of_lt (by omega)]
  have h : a &&& b ≤ a := Nat.and_le_left
  rw [IntKind.wrap_i64]
  omega

theorem mul64_any (x y : Nat) (hx : x < 18446744073709551616) (hy : y < 18446744073709551616) (w : World) : Calls Tryz.prog 177 #[.int .u64 (x : Int), .int .u64 (y : Int)] w fun e w' => e = .returned (.tuple #[.int .u64 ((x * y / 18446744073709551616 : Nat) : Int), .int .u64 ((x * y % 18446744073709551616 : Nat) : Int)]) ∧ w' = w :=
  Any.bits_Mul64 Tryz.laysLaysn264 x y hx hy w
theorem len64_any (x : Nat) (hx : x < 18446744073709551616) (w : World) : Calls Tryz.prog 189 #[.int .u64 (x : Int)] w fun e w' => e = .returned (.int .i64 ((Lib.bitLen x : Nat) : Int)) ∧ w' = w :=
  Any.bits_Len64 Tryz.laysLaysn129 (x : Int) w (by omega) (by omega)
/-- What is scaled, not rounded. -/
def uscF (x hi lo s : Nat) : Nat :=
  if x * hi / 18446744073709551616 / 2 ^ s * 2 ^ s ≠ x * hi / 18446744073709551616 then x * hi / 18446744073709551616 / 2 ^ s ||| 1
  else (x * hi / 18446744073709551616 + 18446744073709551616 - (decide (x * hi % 18446744073709551616 < x * lo / 18446744073709551616)).toNat) % 18446744073709551616 / 2 ^ s ||| (decide (1 < (x * hi % 18446744073709551616 + 18446744073709551616 - x * lo / 18446744073709551616) % 18446744073709551616)).toNat
theorem mul_hi_lt {x y : Nat} (hx : x < 18446744073709551616) (hy : y < 18446744073709551616) : x * y / 18446744073709551616 < 18446744073709551616 := by
  rw [Nat.div_lt_iff_lt_mul (by omega)]
  exact Nat.lt_of_le_of_lt (Nat.mul_le_mul_right y (Nat.le_of_lt hx)) (Nat.mul_lt_mul_of_pos_left hy (by omega))
set_option maxRecDepth 100000 in
set_option maxHeartbeats 1000000 in
theorem uscale_any (x hi lo s pb : Nat) (w : World) (hx : x < 18446744073709551616) (hhi : hi < 18446744073709551616) (hlo : lo < 18446744073709551616) (hs : s ≤ 63) (hp : w.heap[pb]? = some (.cells #[.int .u64 (hi : Int), .int .u64 (lo : Int), .int .i64 (s : Int)] 216 (0, 0))) :
    Calls Tryz.prog 226 #[.int .u64 (x : Int), .pointer (some ⟨pb, 0, none⟩)] w fun e w' => e = .returned (.int .u64 ((uscF x hi lo s : Nat) : Int)) ∧ ∃ m, w' = w.drewN m := by
  have g0 : w.cell? ⟨pb, 0, none⟩ = some (.int .u64 (hi : Int)) := cellOf (o := 0) hp rfl
  have g1 : w.cell? ⟨pb, 1, none⟩ = some (.int .u64 (lo : Int)) := cellOf (o := 1) hp rfl
  have g2 : w.cell? ⟨pb, 2, none⟩ = some (.int .i64 (s : Int)) := cellOf (o := 2) hp rfl
  have HM1 := mul64_any x hi hx hhi w
  have HM2 := mul64_any x lo hx hlo w
  have hand : bits .and .i64 (s : Int) 63 = (s : Int) := by
    rw [show (63 : Int) = ((63 : Nat) : Int) from rfl, i64_and_nat _ _ (by omega) (by omega)]
    congr 1
    exact (Nat.and_two_pow_sub_one_eq_mod s 6).trans (Nat.mod_eq_of_lt (by omega))
  have k1 := mul_hi_lt hx hhi
  have k2 := mul_hi_lt hx hlo
  have k3 : x * hi % 18446744073709551616 < 18446744073709551616 := Nat.mod_lt _ (by omega)
  obtain ⟨U, hU⟩ : ∃ U, uscF x hi lo s = U := ⟨_, rfl⟩
  rw [hU]
  unfold uscF at hU
  generalize x * hi / 18446744073709551616 = A at *
  generalize x * hi % 18446744073709551616 = M at *
  generalize x * lo / 18446744073709551616 = M2 at *
  have HU : Hid _ := hU
  clear hU
  go_enter Tryz.func226, Tryz.ntmps226
  go_wp2_with (first | (go_at_call 177; (first | with_reducible refine HM1.mono ?_ | with_reducible refine HM2.mono ?_); rintro e w1 ⟨rfl, rfl⟩) | (go_at_call 248; with_reducible refine (bool2u_any _ _).mono ?_; rintro e w1 ⟨rfl, rfl⟩))
  · have hcond : (IntKind.u64.wrap ((A : Int) / 2 ^ s * 2 ^ s) != (A : Int)) = true := by assumption
    go_ret
    refine ⟨ret_int ?_, 0, rfl⟩
    have e1 : (A : Int) / 2 ^ s = ((A / 2 ^ s : Nat) : Int) := by simp
    have e2 : (A : Int) / 2 ^ s * 2 ^ s = ((A / 2 ^ s * 2 ^ s : Nat) : Int) := by simp
    have hle : A / 2 ^ s * 2 ^ s ≤ A := Nat.div_mul_le_self A (2 ^ s)
    have hle2 : A / 2 ^ s ≤ A := Nat.div_le_self A (2 ^ s)
    rw [e2, IntKind.wrap_u64] at hcond
    have hne : A / 2 ^ s * 2 ^ s ≠ A := by
      intro h
      rw [h] at hcond
      simp at hcond
      omega
    rw [← HU.out, if_pos hne, e1, show (1 : Int) = ((1 : Nat) : Int) from rfl, u64_or_nat _ _ (by omega) (by omega)]
  · have hcond : (IntKind.u64.wrap ((A : Int) / 2 ^ s * 2 ^ s) != (A : Int)) = false := by assumption
    have e2 : (A : Int) / 2 ^ s * 2 ^ s = ((A / 2 ^ s * 2 ^ s : Nat) : Int) := by simp
    have hle : A / 2 ^ s * 2 ^ s ≤ A := Nat.div_mul_le_self A (2 ^ s)
    rw [e2, IntKind.wrap_u64] at hcond
    have hne : ¬ A / 2 ^ s * 2 ^ s ≠ A := by
      intro h
      simp at hcond
      omega
    have hU := HU.out
    rw [if_neg hne] at hU
    clear HU
    have ew : IntKind.u64.wrap ((A : Int) - ((decide (M < M2)).toNat : Nat)) = (((A + 18446744073709551616 - (decide (M < M2)).toNat) % 18446744073709551616 : Nat) : Int) := by
      have : (decide (M < M2)).toNat ≤ 1 := Bool.toNat_le _
      rw [IntKind.wrap_u64]
      omega
    rw [ew]
    have em : IntKind.u64.wrap ((M : Int) - (M2 : Int)) = (((M + 18446744073709551616 - M2) % 18446744073709551616 : Nat) : Int) := by
      rw [IntKind.wrap_u64]
      omega
    have kA : (A + 18446744073709551616 - (decide (M < M2)).toNat) % 18446744073709551616 < 18446744073709551616 := Nat.mod_lt _ (by omega)
    have kM : (M + 18446744073709551616 - M2) % 18446744073709551616 < 18446744073709551616 := Nat.mod_lt _ (by omega)
    generalize (A + 18446744073709551616 - (decide (M < M2)).toNat) % 18446744073709551616 = A2 at *
    generalize (M + 18446744073709551616 - M2) % 18446744073709551616 = M3 at *
    have HU2 : Hid _ := hU
    clear hU ew hcond hle hne e2
    go_quiet (first | (go_at_call 248; exact Calls.quiet_of_same (bool2u_any _ _)))
    go_wp2_with fail
    go_ret
    refine ⟨ret_int ?_, nq, rfl⟩
    have e1 : (A2 : Int) / 2 ^ s = ((A2 / 2 ^ s : Nat) : Int) := by simp
    have hle2 : A2 / 2 ^ s ≤ A2 := Nat.div_le_self A2 (2 ^ s)
    have hb : (decide (1 < M3)).toNat ≤ 1 := Bool.toNat_le _
    have hd : decide ((1 : Int) < (M3 : Int)) = decide (1 < M3) := decide_eq_decide.2 (by omega)
    rw [← HU2.out, e1, hd, u64_or_nat _ _ (by omega) (by omega)]
#print axioms uscale_any
#print axioms prescale_any
end Go.Proofs.YtdmjbhbiehjelaaGreatDoor
/- The shortest digits: shortFloat's contract. -/
namespace Go.Proofs.YtdmjbhbiehjelaaGreatDoor
open Go.RowKit Ieee Go.Shelf

def hiT (i : Nat) : Nat := (Pinned.pow10Rows.getD i (0, 0)).1
def loT (i : Nat) : Nat := (Pinned.pow10Rows.getD i (0, 0)).2
theorem rows_len : Pinned.pow10Rows.length = 696 := by decide +kernel
theorem rows_all : Pinned.pow10Rows.all (fun x => decide (9223372036854775808 ≤ x.1) && decide (x.1 < 18446744073709551616) && decide (x.2 < 18446744073709551616)) = true := by decide +kernel
theorem rows_at (i : Nat) (hi : i < 696) : 9223372036854775808 ≤ hiT i ∧ hiT i < 18446744073709551616 ∧ loT i < 18446744073709551616 := by
  have hl : i < Pinned.pow10Rows.length := by rw [rows_len]; exact hi
  have h := List.all_eq_true.1 rows_all (Pinned.pow10Rows[i]) (List.getElem_mem hl)
  have e : Pinned.pow10Rows.getD i (0, 0) = Pinned.pow10Rows[i] := by simp [List.getD, hl]
  unfold hiT loT
  rw [e]
  simp only [Bool.and_eq_true, decide_eq_true_eq] at h
  exact ⟨h.1.1, h.1.2, h.2⟩

/-- How many bits stand below the last one that a number has. -/
def zOf (e : Int) : Nat := if -1085 ≤ e then 11 else (-1074 - e).toNat
/-- The power of ten. -/
def pOf (m : Nat) (e : Int) : Int := if m = 9223372036854775808 ∧ -1085 < e then -skw (e + 11) else -l10 (e + zOf e)
def sOf (m : Nat) (e : Int) : Nat := (-(e + l2 (pOf m e) + 3)).toNat
def iOf (m : Nat) (e : Int) : Nat := (pOf m e + 348).toNat
theorem p_range (m : Nat) (e : Int) (h1 : -1137 ≤ e) (h2 : e ≤ 960) : -348 ≤ pOf m e ∧ pOf m e ≤ 347 ∧ 4 ≤ -(e + l2 (pOf m e) + 3) ∧ -(e + l2 (pOf m e) + 3) ≤ 58 := by
  unfold pOf zOf l10 l2 skw
  split
  · omega
  · split
    · omega
    · have : e + ((-1074 - e).toNat : Int) = -1074 := by omega
      rw [this]
      omega
def minOf (m : Nat) (e : Int) : Nat := if m = 9223372036854775808 ∧ -1085 < e then m - 512 else m - 2 ^ (zOf e - 1)
def maxOf (m : Nat) (e : Int) : Nat := m + 2 ^ (zOf e - 1)
def uOf (x m : Nat) (e : Int) : Nat := uscF x (hiT (iOf m e)) (loT (iOf m e)) (sOf m e)
def oddOf (m : Nat) (e : Int) : Nat := m / 2 ^ zOf e % 2
def dmin (m : Nat) (e : Int) : Nat := (uOf (minOf m e) m e + oddOf m e + 3) / 4
def dmax (m : Nat) (e : Int) : Nat := (uOf (maxOf m e) m e - oddOf m e) / 4
/-- The shortest digits, and the power of ten behind them. -/
def shortF (m : Nat) (e : Int) : Nat × Int :=
  if dmin m e ≤ dmax m e / 10 * 10 then (dmax m e / 10, -(pOf m e - 1))
  else if dmin m e < dmax m e then ((uOf m m e + 1 + uOf m m e / 4 % 2) / 4, -pOf m e) else (dmin m e, -pOf m e)

theorem or_bounds (a b : Nat) (hb : b ≤ 1) : a ≤ a ||| b ∧ a ||| b ≤ a + 1 := by
  refine ⟨Nat.left_le_or, ?_⟩
  have h : (a ||| b) / 2 = a / 2 := by
    rw [Nat.or_div_two, show b / 2 = 0 by omega, Nat.or_zero]
  omega
/-- How great and how small what is scaled may be. -/
theorem uscF_bounds {x hi lo s : Nat} (hx1 : 4611686018427387904 ≤ x) (hx2 : x < 18446744073709551616) (hh1 : 9223372036854775808 ≤ hi) (hh2 : hi < 18446744073709551616) (hs1 : 4 ≤ s) (hs2 : s ≤ 58) : 7 ≤ uscF x hi lo s ∧ uscF x hi lo s < 2305843009213693952 := by
  have k1 := mul_hi_lt hx2 hh2
  have k0 : 2305843009213693952 ≤ x * hi / 18446744073709551616 := by
    rw [Nat.le_div_iff_mul_le (by omega)]
    have := Nat.mul_le_mul hx1 hh1
    omega
  have p1 : 2 ^ 4 ≤ 2 ^ s := Nat.pow_le_pow_right (by omega) hs1
  have p2 : 2 ^ s ≤ 2 ^ 58 := Nat.pow_le_pow_right (by omega) hs2
  have p3 : (2 : Nat) ^ 4 = 16 := by decide
  have p4 : (2 : Nat) ^ 58 = 288230376151711744 := by decide
  rw [p3] at p1
  rw [p4] at p2
  obtain ⟨A, hA⟩ : ∃ A, x * hi / 18446744073709551616 = A := ⟨_, rfl⟩
  rw [hA] at k0 k1
  have up : ∀ B, B < 18446744073709551616 → B / 2 ^ s < 1152921504606846976 := fun B hB => by
    have := Nat.div_le_div_left (a := B) p1 (by omega)
    omega
  have dn : ∀ B, 2305843009213693951 ≤ B → 7 ≤ B / 2 ^ s := fun B hB => by
    have := Nat.div_le_div_left (a := B) p2 (Nat.two_pow_pos s)
    omega
  unfold uscF
  rw [hA]
  split
  · have a := up A k1
    have b := dn A (by omega)
    have c := or_bounds (A / 2 ^ s) 1 (by omega)
    omega
  · have q : (decide (x * hi % 18446744073709551616 < x * lo / 18446744073709551616)).toNat ≤ 1 := Bool.toNat_le _
    generalize (decide (x * hi % 18446744073709551616 < x * lo / 18446744073709551616)).toNat = b1 at *
    have a := up ((A + 18446744073709551616 - b1) % 18446744073709551616) (Nat.mod_lt _ (by omega))
    have b := dn ((A + 18446744073709551616 - b1) % 18446744073709551616) (by omega)
    have c := or_bounds ((A + 18446744073709551616 - b1) % 18446744073709551616 / 2 ^ s) (decide (1 < (x * hi % 18446744073709551616 + 18446744073709551616 - x * lo / 18446744073709551616) % 18446744073709551616)).toNat (Bool.toNat_le _)
    omega
theorem zOf_range (e : Int) (h1 : -1137 ≤ e) : 11 ≤ zOf e ∧ zOf e ≤ 63 := by
  unfold zOf
  split <;> omega

theorem nudge_up (u d : Nat) (h : u + d < 18446744073709551616) (w : World) : Calls Tryz.prog 227 #[.int .u64 (u : Int), .int .i64 (d : Int)] w fun e w' => e = .returned (.int .u64 ((u + d : Nat) : Int)) ∧ w' = w :=
  (nudge_any u d w).mono fun e w' ⟨he, hw⟩ => ⟨by rw [he]; exact ret_int (by omega), hw⟩
theorem nudge_dn (u d : Nat) (h : d ≤ u) (hu : u < 18446744073709551616) (w : World) : Calls Tryz.prog 227 #[.int .u64 (u : Int), .int .i64 (-(d : Int))] w fun e w' => e = .returned (.int .u64 ((u - d : Nat) : Int)) ∧ w' = w :=
  (nudge_any u (-(d : Int)) w).mono fun e w' ⟨he, hw⟩ => ⟨by rw [he]; exact ret_int (by omega), hw⟩
theorem ceil_in (u : Nat) (h : u + 3 < 18446744073709551616) (w : World) : Calls Tryz.prog 228 #[.int .u64 (u : Int)] w fun e w' => e = .returned (.int .u64 (((u + 3) / 4 : Nat) : Int)) ∧ w' = w :=
  (ceil_any u w).mono fun e w' ⟨he, hw⟩ => ⟨by rw [he]; exact ret_int (by omega), hw⟩
theorem round_in (u : Nat) (h : u + 2 < 18446744073709551616) (w : World) : Calls Tryz.prog 230 #[.int .u64 (u : Int)] w fun e w' => e = .returned (.int .u64 (((u + 1 + u / 4 % 2) / 4 : Nat) : Int)) ∧ w' = w :=
  (round_any u (by omega) w).mono fun e w' ⟨he, hw⟩ => ⟨by rw [he]; exact ret_int (by omega), hw⟩

set_option maxRecDepth 100000 in
set_option maxHeartbeats 4000000 in
theorem short_any (m : Nat) (e : Int) (w : World) (hm1 : 9223372036854775808 ≤ m) (hmz : m + 2 ^ (zOf e - 1) < 18446744073709551616) (he1 : -1137 ≤ e) (he2 : e ≤ 960) (hT : PTab w) :
    Calls Tryz.prog 197 #[.int .u64 (m : Int), .int .i64 e] w fun en w' => en = .returned (.tuple #[.int .u64 (((shortF m e).1 : Nat) : Int), .int .i64 (shortF m e).2]) ∧ Fr noB w w' := by
  have hR := p_range m e he1 he2
  obtain ⟨i, hi⟩ : ∃ i : Nat, pOf m e = (i : Int) - 348 := ⟨(pOf m e + 348).toNat, by omega⟩
  have hI : iOf m e = i := by unfold iOf; omega
  obtain ⟨s, hs⟩ : ∃ s : Nat, -(e + l2 (pOf m e) + 3) = (s : Int) := ⟨(-(e + l2 (pOf m e) + 3)).toNat, by omega⟩
  have hS : sOf m e = s := by unfold sOf; omega
  rw [hi] at hR hs
  obtain ⟨lp, hlp⟩ : ∃ lp, l2 ((i : Int) - 348) = lp := ⟨_, rfl⟩
  have HLP := l2_any ((i : Int) - 348) (by omega) (by omega)
  rw [hlp] at hR hs HLP
  obtain ⟨p1, p2, p3, p4⟩ := hR
  have hi6 : i < 696 := by omega
  obtain ⟨t1, t2, t3⟩ := rows_at i hi6
  obtain ⟨MI, hMI⟩ : ∃ x, minOf m e = x := ⟨_, rfl⟩
  obtain ⟨MA, hMA⟩ : ∃ x, maxOf m e = x := ⟨_, rfl⟩
  obtain ⟨OD, hOD⟩ : ∃ x, oddOf m e = x := ⟨_, rfl⟩
  have hzr := zOf_range e he1
  have hz0 : 0 < 2 ^ (zOf e - 1) := Nat.two_pow_pos _
  have hz62 : 2 ^ (zOf e - 1) ≤ 4611686018427387904 := Nat.le_trans (Nat.pow_le_pow_right (by omega) (show zOf e - 1 ≤ 62 by omega)) (by decide)
  have hMIb : 4611686018427387904 ≤ MI ∧ MI < 18446744073709551616 := by
    rw [← hMI]; unfold minOf; generalize 2 ^ (zOf e - 1) = Z at *; split <;> omega
  have hMAb : 4611686018427387904 ≤ MA ∧ MA < 18446744073709551616 := by
    rw [← hMA]; unfold maxOf; generalize 2 ^ (zOf e - 1) = Z at *; omega
  have hODb : OD ≤ 1 := by rw [← hOD]; unfold oddOf; omega
  obtain ⟨U1, hU1⟩ : ∃ x, uOf MI m e = x := ⟨_, rfl⟩
  obtain ⟨U2, hU2⟩ : ∃ x, uOf MA m e = x := ⟨_, rfl⟩
  obtain ⟨U3, hU3⟩ : ∃ x, uOf m m e = x := ⟨_, rfl⟩
  have b1 : 7 ≤ U1 ∧ U1 < 2305843009213693952 := by rw [← hU1]; unfold uOf; rw [hI, hS]; exact uscF_bounds hMIb.1 hMIb.2 t1 t2 (by omega) (by omega)
  have b2 : 7 ≤ U2 ∧ U2 < 2305843009213693952 := by rw [← hU2]; unfold uOf; rw [hI, hS]; exact uscF_bounds hMAb.1 hMAb.2 t1 t2 (by omega) (by omega)
  have b3 : 7 ≤ U3 ∧ U3 < 2305843009213693952 := by rw [← hU3]; unfold uOf; rw [hI, hS]; exact uscF_bounds (by omega) (by generalize 2 ^ (zOf e - 1) = Z at *; omega) t1 t2 (by omega) (by omega)
  have hm2 : m < 18446744073709551616 := by generalize 2 ^ (zOf e - 1) = Z at *; omega
  obtain ⟨A1, hA1⟩ : ∃ x, U1 + OD = x := ⟨_, rfl⟩
  obtain ⟨A2, hA2⟩ : ∃ x, U2 - OD = x := ⟨_, rfl⟩
  obtain ⟨DI, hDI⟩ : ∃ x, (A1 + 3) / 4 = x := ⟨_, rfl⟩
  obtain ⟨DA, hDA⟩ : ∃ x, A2 / 4 = x := ⟨_, rfl⟩
  obtain ⟨DR, hDR⟩ : ∃ x, (U3 + 1 + U3 / 4 % 2) / 4 = x := ⟨_, rfl⟩
  have HN1 := nudge_up U1 OD (by omega)
  have HN2 := nudge_dn U2 OD (by omega) (by omega)
  rw [hA1] at HN1
  rw [hA2] at HN2
  have HN3 := ceil_in A1 (by omega)
  have HN4 := floorU_any A2 (by omega)
  have HN5 := round_in U3 (by omega)
  rw [hDI] at HN3
  rw [hDA] at HN4
  rw [hDR] at HN5
  have q1 : DI < 1000000000000000000 := by omega
  have q2 : DA < 1000000000000000000 := by omega
  have HSF : Hid (shortF m e = if DI ≤ DA / 10 * 10 then (DA / 10, -((i : Int) - 348 - 1)) else if DI < DA then (DR, -((i : Int) - 348)) else (DI, -((i : Int) - 348))) := by
    show shortF m e = _
    unfold shortF dmin dmax
    rw [hMI, hMA, hOD, hU1, hU2, hU3, hi, hA1, hA2, hDI, hDA, hDR]
  obtain ⟨W, hW⟩ : ∃ W, w.alloc (.cells #[.int .u64 0, .int .u64 0, .int .i64 0] 216 (0, 0)) = W := ⟨_, rfl⟩
  obtain ⟨N, hN⟩ : ∃ N, w.heap.size = N := ⟨_, rfl⟩
  have hnew : W.heap[N]? = some (.cells #[.int .u64 0, .int .u64 0, .int .i64 0] 216 (0, 0)) := by rw [← hW, ← hN]; exact heap_alloc_new w _
  have hFW : Fr noB w W := by rw [← hW]; exact (Fr.refl noB w).alloc _
  have hne9 : ¬ N = 13 := by have := hT.1; omega
  have HPS := prescale_any N i e lp W (hT.fr hFW) hne9 hi6 (by omega) (by omega) (by rw [← hlp]; unfold l2; omega) (by rw [← hlp]; unfold l2; omega) hnew
  have hneg : -(e + lp + 3) = (s : Int) := hs
  rw [hneg] at HPS
  have HUS : Hid (∀ (x : Nat) (W2 : World), 4611686018427387904 ≤ x → x < 18446744073709551616 → W2.heap[N]? = some (.cells #[.int .u64 (((Pinned.pow10Rows.getD i (0, 0)).1 : Nat) : Int), .int .u64 (((Pinned.pow10Rows.getD i (0, 0)).2 : Nat) : Int), .int .i64 (s : Int)] 216 (0, 0)) → Calls Tryz.prog 226 #[.int .u64 (x : Int), .pointer (some ⟨N, 0, none⟩)] W2 fun e' w' => e' = .returned (.int .u64 ((uOf x m e : Nat) : Int)) ∧ ∃ k, w' = W2.drewN k) := by
    intro x W2 hx1 hx2 hh
    have := uscale_any x (hiT i) (loT i) s N W2 hx2 t2 t3 (by omega) hh
    unfold uOf
    rw [hI, hS]
    exact this
  have HU1 : Hid (∀ (W2 : World), W2.heap[N]? = some (.cells #[.int .u64 (((Pinned.pow10Rows.getD i (0, 0)).1 : Nat) : Int), .int .u64 (((Pinned.pow10Rows.getD i (0, 0)).2 : Nat) : Int), .int .i64 (s : Int)] 216 (0, 0)) → Calls Tryz.prog 226 #[.int .u64 (MI : Int), .pointer (some ⟨N, 0, none⟩)] W2 fun e' w' => e' = .returned (.int .u64 (U1 : Int)) ∧ ∃ k, w' = W2.drewN k) := by
    intro W2 h; rw [← hU1]; exact HUS.out MI W2 hMIb.1 hMIb.2 h
  have HU2 : Hid (∀ (W2 : World), W2.heap[N]? = some (.cells #[.int .u64 (((Pinned.pow10Rows.getD i (0, 0)).1 : Nat) : Int), .int .u64 (((Pinned.pow10Rows.getD i (0, 0)).2 : Nat) : Int), .int .i64 (s : Int)] 216 (0, 0)) → Calls Tryz.prog 226 #[.int .u64 (MA : Int), .pointer (some ⟨N, 0, none⟩)] W2 fun e' w' => e' = .returned (.int .u64 (U2 : Int)) ∧ ∃ k, w' = W2.drewN k) := by
    intro W2 h; rw [← hU2]; exact HUS.out MA W2 hMAb.1 hMAb.2 h
  have HU3 : Hid (∀ (W2 : World), W2.heap[N]? = some (.cells #[.int .u64 (((Pinned.pow10Rows.getD i (0, 0)).1 : Nat) : Int), .int .u64 (((Pinned.pow10Rows.getD i (0, 0)).2 : Nat) : Int), .int .i64 (s : Int)] 216 (0, 0)) → Calls Tryz.prog 226 #[.int .u64 (m : Int), .pointer (some ⟨N, 0, none⟩)] W2 fun e' w' => e' = .returned (.int .u64 (U3 : Int)) ∧ ∃ k, w' = W2.drewN k) := by
    intro W2 h; rw [← hU3]; exact HUS.out m W2 (by omega) hm2 h
  have HM : Hid (_ ∧ _ ∧ _) := And.intro hMI (And.intro hMA hOD)
  have HNW : Hid _ := And.intro hW (And.intro hN hFW)
  have HFIN : Hid (∀ (W2 : World) (k : Nat), Fr (oneB N) W W2 → Fr noB w (W2.drewN k)) := fun W2 k h => (hFW.then h (fun j hj => Or.inr (by have hj' : j = N := hj; omega))).drewN k
  clear hA1 hA2 hDI hDA hDR HUS hMI hMA hOD hU1 hU2 hU3 hs hI hS hlp t1 t2 t3 hnew hFW hz62 hne9 hneg
  have hNw := HNW.out.2.1
  by_cases hb : m = 9223372036854775808
  · have hbB : ((m : Int) == 9223372036854775808) = true := by simp; omega
    have HB : Hid (m = 9223372036854775808) := hb
    clear hb
    rcases (show -1085 < e ∨ e = -1085 ∨ e < -1085 by omega) with he | he | he
    · skip
      have hz : zOf e = 11 := by unfold zOf; rw [if_pos (by omega)]
      have hl : skw (e + 11) = -((i : Int) - 348) := by rw [← hi]; unfold pOf; rw [if_pos ⟨HB.out, he⟩, Int.neg_neg]
      have HL := skw_any (e + 11) (by omega) (by omega)
      rw [hl] at HL
      have f1 : (m : Int) - 512 = (MI : Int) := by
        have := HM.out.1
        unfold minOf at this
        rw [if_pos ⟨HB.out, he⟩] at this
        omega
      have f2 : IntKind.u64.wrap ((m : Int) + 1024) = (MA : Int) := by
        have := HM.out.2.1
        unfold maxOf at this
        rw [hz] at this
        rw [IntKind.wrap_u64]
        omega
      have f3 : bits BinOp.and IntKind.i64 ((m : Int) / 2048) 1 = (OD : Int) := by
        have := HM.out.2.2
        unfold oddOf at this
        rw [hz] at this
        rw [show ((m : Int) / 2048) = ((m / 2048 : Nat) : Int) by omega, show (1 : Int) = ((1 : Nat) : Int) from rfl, i64_and_nat _ _ (by omega) (by omega), Nat.and_one_is_mod]
        omega
      clear HM hl hz hmz hzr
      go_enter Tryz.func197, Tryz.ntmps197
      go_wp2_with (first | (go_at_call 192; with_reducible refine (HL _).mono ?_; rintro e' w1 ⟨rfl, rfl⟩) | (go_at_call 223; with_reducible refine (HL _).mono ?_; rintro e' w1 ⟨rfl, rfl⟩) | (go_at_call 225; with_reducible refine (HLP _).mono ?_; rintro e' w1 ⟨rfl, rfl⟩))
      refine HPS.mono ?_
      rintro e' W2 ⟨rfl, hpre, hF2⟩
      clear HPS HL HLP f1 f2 f3 hz0
      go_wp2_with (first
        | (go_at_call_of 226 (Value.int IntKind.u64 (MI : Int)); refine (HU1.out _ (by exact hpre)).mono ?_; rintro e' w3 ⟨rfl, k1, rfl⟩)
        | (go_at_call_of 226 (Value.int IntKind.u64 (MA : Int)); refine (HU2.out _ (by exact hpre)).mono ?_; rintro e' w3 ⟨rfl, k2, rfl⟩)
        | (go_at_call_of 226 (Value.int IntKind.u64 (m : Int)); refine (HU3.out _ (by exact hpre)).mono ?_; rintro e' w3 ⟨rfl, k3, rfl⟩)
        | (go_at_call 227; (first | with_reducible refine (HN1 _).mono ?_ | with_reducible refine (HN2 _).mono ?_); rintro e' w3 ⟨rfl, rfl⟩)
        | (go_at_call 228; with_reducible refine (HN3 _).mono ?_; rintro e' w3 ⟨rfl, rfl⟩)
        | (go_at_call 229; with_reducible refine (HN4 _).mono ?_; rintro e' w3 ⟨rfl, rfl⟩)
        | (go_at_call 230; with_reducible refine (HN5 _).mono ?_; rintro e' w3 ⟨rfl, rfl⟩))
      · go_ret2
        rw [HSF.out, if_pos (by omega)]
        exact ⟨by simp, HFIN.out _ _ hF2⟩
      · go_ret2
        rw [HSF.out, if_neg (by omega), if_pos (by assumption)]
        exact ⟨by simp, HFIN.out _ _ hF2⟩
      · go_ret2
        rw [HSF.out, if_neg (by omega), if_neg (by assumption)]
        exact ⟨by simp, HFIN.out _ _ hF2⟩
    · have hne : ¬ -1085 < e := by omega
      have hge : -1085 ≤ e := by omega
      have HE : Hid (e = -1085) := he
      clear he
      have hz : zOf e = 11 := by unfold zOf; rw [if_pos hge]
      have hl : l10 (e + 11) = -((i : Int) - 348) := by rw [← hi]; unfold pOf; rw [if_neg (by omega), hz, Int.neg_neg]; rfl
      have HL := l10_any (e + 11) (by omega) (by omega)
      rw [hl] at HL
      have f1 : (m : Int) - 1024 = (MI : Int) := by
        have := HM.out.1
        unfold minOf at this
        rw [if_neg (by omega), hz] at this
        omega
      have f2 : IntKind.u64.wrap ((m : Int) + 1024) = (MA : Int) := by
        have := HM.out.2.1
        unfold maxOf at this
        rw [hz] at this
        rw [IntKind.wrap_u64]
        omega
      have f3 : bits BinOp.and IntKind.i64 ((m : Int) / 2048) 1 = (OD : Int) := by
        have := HM.out.2.2
        unfold oddOf at this
        rw [hz] at this
        rw [show ((m : Int) / 2048) = ((m / 2048 : Nat) : Int) by omega, show (1 : Int) = ((1 : Nat) : Int) from rfl, i64_and_nat _ _ (by omega) (by omega), Nat.and_one_is_mod]
        omega
      clear HM hl hz hmz hzr
      go_enter Tryz.func197, Tryz.ntmps197
      go_wp2_with (first | (go_at_call 192; with_reducible refine (HL _).mono ?_; rintro e' w1 ⟨rfl, rfl⟩) | (go_at_call 223; with_reducible refine (HL _).mono ?_; rintro e' w1 ⟨rfl, rfl⟩) | (go_at_call 225; with_reducible refine (HLP _).mono ?_; rintro e' w1 ⟨rfl, rfl⟩))
      refine HPS.mono ?_
      rintro e' W2 ⟨rfl, hpre, hF2⟩
      clear HPS HL HLP f1 f2 f3 hz0
      go_wp2_with (first
        | (go_at_call_of 226 (Value.int IntKind.u64 (MI : Int)); refine (HU1.out _ (by exact hpre)).mono ?_; rintro e' w3 ⟨rfl, k1, rfl⟩)
        | (go_at_call_of 226 (Value.int IntKind.u64 (MA : Int)); refine (HU2.out _ (by exact hpre)).mono ?_; rintro e' w3 ⟨rfl, k2, rfl⟩)
        | (go_at_call_of 226 (Value.int IntKind.u64 (m : Int)); refine (HU3.out _ (by exact hpre)).mono ?_; rintro e' w3 ⟨rfl, k3, rfl⟩)
        | (go_at_call 227; (first | with_reducible refine (HN1 _).mono ?_ | with_reducible refine (HN2 _).mono ?_); rintro e' w3 ⟨rfl, rfl⟩)
        | (go_at_call 228; with_reducible refine (HN3 _).mono ?_; rintro e' w3 ⟨rfl, rfl⟩)
        | (go_at_call 229; with_reducible refine (HN4 _).mono ?_; rintro e' w3 ⟨rfl, rfl⟩)
        | (go_at_call 230; with_reducible refine (HN5 _).mono ?_; rintro e' w3 ⟨rfl, rfl⟩))
      · go_ret2
        rw [HSF.out, if_pos (by omega)]
        exact ⟨by simp, HFIN.out _ _ hF2⟩
      · go_ret2
        rw [HSF.out, if_neg (by omega), if_pos (by assumption)]
        exact ⟨by simp, HFIN.out _ _ hF2⟩
      · go_ret2
        rw [HSF.out, if_neg (by omega), if_neg (by assumption)]
        exact ⟨by simp, HFIN.out _ _ hF2⟩
    · have he' := he
      have he : ¬ -1085 ≤ e := by omega
      obtain ⟨z, hz'⟩ : ∃ z : Nat, e = -1074 - (z : Int) := ⟨(-1074 - e).toNat, by omega⟩
      have hz : zOf e = z := by unfold zOf; rw [if_neg he]; omega
      have hz1 : 12 ≤ z ∧ z ≤ 63 := by omega
      have hzI : 11 + (-1085 - e) = (z : Int) := by omega
      have hez : e + (z : Int) = -1074 := by omega
      have hl : l10 (-1074) = -((i : Int) - 348) := by rw [← hi]; unfold pOf; rw [if_neg (by omega), hz, Int.neg_neg, hez]
      have HL := l10_any (-1074) (by omega) (by omega)
      rw [hl] at HL
      have hp0 : 0 < 2 ^ (z - 1) := Nat.two_pow_pos _
      have hp62 : 2 ^ (z - 1) ≤ 4611686018427387904 := Nat.le_trans (Nat.pow_le_pow_right (by omega) (show z - 1 ≤ 62 by omega)) (by decide)
      have hpI : ((2 : Int) ^ (z - 1)) = ((2 ^ (z - 1) : Nat) : Int) := by simp
      have f1 : IntKind.u64.wrap ((m : Int) - IntKind.u64.wrap (2 ^ (z - 1))) = (MI : Int) := by
        have := HM.out.1
        unfold minOf at this
        rw [if_neg (by omega), hz] at this
        rw [hpI, IntKind.wrap_u64, IntKind.wrap_u64]
        generalize 2 ^ (z - 1) = Z at *
        omega
      have f2 : IntKind.u64.wrap ((m : Int) + IntKind.u64.wrap (2 ^ (z - 1))) = (MA : Int) := by
        have := HM.out.2.1
        unfold maxOf at this
        rw [hz] at this hmz
        rw [hpI, IntKind.wrap_u64, IntKind.wrap_u64]
        generalize 2 ^ (z - 1) = Z at *
        omega
      have f3 : bits BinOp.and IntKind.i64 (wrap64 ((m : Int) / 2 ^ z)) 1 = (OD : Int) := by
        have := HM.out.2.2
        unfold oddOf at this
        rw [hz] at this
        have hq : m / 2 ^ z ≤ m / 2 ^ 12 := Nat.div_le_div_left (Nat.pow_le_pow_right (by omega) hz1.1) (by decide)
        have h12 : (2 : Nat) ^ 12 = 4096 := by decide
        rw [show ((m : Int) / 2 ^ z) = ((m / 2 ^ z : Nat) : Int) by simp]
        generalize m / 2 ^ z = Q at *
        rw [show wrap64 (Q : Int) = (Q : Int) by unfold wrap64; omega, show (1 : Int) = ((1 : Nat) : Int) from rfl, i64_and_nat _ _ (by omega) (by omega), Nat.and_one_is_mod]
        omega
      have HZ : Hid _ := hz'
      clear HM hl hz' hz hmz hzr hp0 hp62 hpI
      go_enter Tryz.func197, Tryz.ntmps197
      go_wp2_with (first | (go_at_call 192; with_reducible refine (HL _).mono ?_; rintro e' w1 ⟨rfl, rfl⟩) | (go_at_call 223; with_reducible refine (HL _).mono ?_; rintro e' w1 ⟨rfl, rfl⟩) | (go_at_call 225; with_reducible refine (HLP _).mono ?_; rintro e' w1 ⟨rfl, rfl⟩))
      refine HPS.mono ?_
      rintro e' W2 ⟨rfl, hpre, hF2⟩
      clear HPS HL HLP f1 f2 f3 hz0
      go_wp2_with (first
        | (go_at_call_of 226 (Value.int IntKind.u64 (MI : Int)); refine (HU1.out _ (by exact hpre)).mono ?_; rintro e' w3 ⟨rfl, k1, rfl⟩)
        | (go_at_call_of 226 (Value.int IntKind.u64 (MA : Int)); refine (HU2.out _ (by exact hpre)).mono ?_; rintro e' w3 ⟨rfl, k2, rfl⟩)
        | (go_at_call_of 226 (Value.int IntKind.u64 (m : Int)); refine (HU3.out _ (by exact hpre)).mono ?_; rintro e' w3 ⟨rfl, k3, rfl⟩)
        | (go_at_call 227; (first | with_reducible refine (HN1 _).mono ?_ | with_reducible refine (HN2 _).mono ?_); rintro e' w3 ⟨rfl, rfl⟩)
        | (go_at_call 228; with_reducible refine (HN3 _).mono ?_; rintro e' w3 ⟨rfl, rfl⟩)
        | (go_at_call 229; with_reducible refine (HN4 _).mono ?_; rintro e' w3 ⟨rfl, rfl⟩)
        | (go_at_call 230; with_reducible refine (HN5 _).mono ?_; rintro e' w3 ⟨rfl, rfl⟩))
      · go_ret2
        rw [HSF.out, if_pos (by omega)]
        exact ⟨by simp, HFIN.out _ _ hF2⟩
      · go_ret2
        rw [HSF.out, if_neg (by omega), if_pos (by assumption)]
        exact ⟨by simp, HFIN.out _ _ hF2⟩
      · go_ret2
        rw [HSF.out, if_neg (by omega), if_neg (by assumption)]
        exact ⟨by simp, HFIN.out _ _ hF2⟩
  · have hbB : ((m : Int) == 9223372036854775808) = false := by simp; omega
    by_cases he : -1085 ≤ e
    · skip
      have hz : zOf e = 11 := by unfold zOf; rw [if_pos he]
      have hl : l10 (e + 11) = -((i : Int) - 348) := by rw [← hi]; unfold pOf; rw [if_neg (by omega), hz, Int.neg_neg]; rfl
      have HL := l10_any (e + 11) (by omega) (by omega)
      rw [hl] at HL
      have f1 : (m : Int) - 1024 = (MI : Int) := by
        have := HM.out.1
        unfold minOf at this
        rw [if_neg (by omega), hz] at this
        omega
      have f2 : IntKind.u64.wrap ((m : Int) + 1024) = (MA : Int) := by
        have := HM.out.2.1
        unfold maxOf at this
        rw [hz] at this
        rw [IntKind.wrap_u64]
        omega
      have f3 : bits BinOp.and IntKind.i64 ((m : Int) / 2048) 1 = (OD : Int) := by
        have := HM.out.2.2
        unfold oddOf at this
        rw [hz] at this
        rw [show ((m : Int) / 2048) = ((m / 2048 : Nat) : Int) by omega, show (1 : Int) = ((1 : Nat) : Int) from rfl, i64_and_nat _ _ (by omega) (by omega), Nat.and_one_is_mod]
        omega
      clear HM hl hz hmz hzr
      go_enter Tryz.func197, Tryz.ntmps197
      go_wp2_with (first | (go_at_call 192; with_reducible refine (HL _).mono ?_; rintro e' w1 ⟨rfl, rfl⟩) | (go_at_call 223; with_reducible refine (HL _).mono ?_; rintro e' w1 ⟨rfl, rfl⟩) | (go_at_call 225; with_reducible refine (HLP _).mono ?_; rintro e' w1 ⟨rfl, rfl⟩))
      refine HPS.mono ?_
      rintro e' W2 ⟨rfl, hpre, hF2⟩
      clear HPS HL HLP f1 f2 f3 hz0
      go_wp2_with (first
        | (go_at_call_of 226 (Value.int IntKind.u64 (MI : Int)); refine (HU1.out _ (by exact hpre)).mono ?_; rintro e' w3 ⟨rfl, k1, rfl⟩)
        | (go_at_call_of 226 (Value.int IntKind.u64 (MA : Int)); refine (HU2.out _ (by exact hpre)).mono ?_; rintro e' w3 ⟨rfl, k2, rfl⟩)
        | (go_at_call_of 226 (Value.int IntKind.u64 (m : Int)); refine (HU3.out _ (by exact hpre)).mono ?_; rintro e' w3 ⟨rfl, k3, rfl⟩)
        | (go_at_call 227; (first | with_reducible refine (HN1 _).mono ?_ | with_reducible refine (HN2 _).mono ?_); rintro e' w3 ⟨rfl, rfl⟩)
        | (go_at_call 228; with_reducible refine (HN3 _).mono ?_; rintro e' w3 ⟨rfl, rfl⟩)
        | (go_at_call 229; with_reducible refine (HN4 _).mono ?_; rintro e' w3 ⟨rfl, rfl⟩)
        | (go_at_call 230; with_reducible refine (HN5 _).mono ?_; rintro e' w3 ⟨rfl, rfl⟩))
      · go_ret2
        rw [HSF.out, if_pos (by omega)]
        exact ⟨by simp, HFIN.out _ _ hF2⟩
      · go_ret2
        rw [HSF.out, if_neg (by omega), if_pos (by assumption)]
        exact ⟨by simp, HFIN.out _ _ hF2⟩
      · go_ret2
        rw [HSF.out, if_neg (by omega), if_neg (by assumption)]
        exact ⟨by simp, HFIN.out _ _ hF2⟩
    · skip
      obtain ⟨z, hz'⟩ : ∃ z : Nat, e = -1074 - (z : Int) := ⟨(-1074 - e).toNat, by omega⟩
      have hz : zOf e = z := by unfold zOf; rw [if_neg he]; omega
      have hz1 : 12 ≤ z ∧ z ≤ 63 := by omega
      have hzI : 11 + (-1085 - e) = (z : Int) := by omega
      have hez : e + (z : Int) = -1074 := by omega
      have hl : l10 (-1074) = -((i : Int) - 348) := by rw [← hi]; unfold pOf; rw [if_neg (by omega), hz, Int.neg_neg, hez]
      have HL := l10_any (-1074) (by omega) (by omega)
      rw [hl] at HL
      have hp0 : 0 < 2 ^ (z - 1) := Nat.two_pow_pos _
      have hp62 : 2 ^ (z - 1) ≤ 4611686018427387904 := Nat.le_trans (Nat.pow_le_pow_right (by omega) (show z - 1 ≤ 62 by omega)) (by decide)
      have hpI : ((2 : Int) ^ (z - 1)) = ((2 ^ (z - 1) : Nat) : Int) := by simp
      have f1 : IntKind.u64.wrap ((m : Int) - IntKind.u64.wrap (2 ^ (z - 1))) = (MI : Int) := by
        have := HM.out.1
        unfold minOf at this
        rw [if_neg (by omega), hz] at this
        rw [hpI, IntKind.wrap_u64, IntKind.wrap_u64]
        generalize 2 ^ (z - 1) = Z at *
        omega
      have f2 : IntKind.u64.wrap ((m : Int) + IntKind.u64.wrap (2 ^ (z - 1))) = (MA : Int) := by
        have := HM.out.2.1
        unfold maxOf at this
        rw [hz] at this hmz
        rw [hpI, IntKind.wrap_u64, IntKind.wrap_u64]
        generalize 2 ^ (z - 1) = Z at *
        omega
      have f3 : bits BinOp.and IntKind.i64 (wrap64 ((m : Int) / 2 ^ z)) 1 = (OD : Int) := by
        have := HM.out.2.2
        unfold oddOf at this
        rw [hz] at this
        have hq : m / 2 ^ z ≤ m / 2 ^ 12 := Nat.div_le_div_left (Nat.pow_le_pow_right (by omega) hz1.1) (by decide)
        have h12 : (2 : Nat) ^ 12 = 4096 := by decide
        rw [show ((m : Int) / 2 ^ z) = ((m / 2 ^ z : Nat) : Int) by simp]
        generalize m / 2 ^ z = Q at *
        rw [show wrap64 (Q : Int) = (Q : Int) by unfold wrap64; omega, show (1 : Int) = ((1 : Nat) : Int) from rfl, i64_and_nat _ _ (by omega) (by omega), Nat.and_one_is_mod]
        omega
      have HZ : Hid _ := hz'
      clear HM hl hz' hz hmz hzr hp0 hp62 hpI
      go_enter Tryz.func197, Tryz.ntmps197
      go_wp2_with (first | (go_at_call 192; with_reducible refine (HL _).mono ?_; rintro e' w1 ⟨rfl, rfl⟩) | (go_at_call 223; with_reducible refine (HL _).mono ?_; rintro e' w1 ⟨rfl, rfl⟩) | (go_at_call 225; with_reducible refine (HLP _).mono ?_; rintro e' w1 ⟨rfl, rfl⟩))
      refine HPS.mono ?_
      rintro e' W2 ⟨rfl, hpre, hF2⟩
      clear HPS HL HLP f1 f2 f3 hz0
      go_wp2_with (first
        | (go_at_call_of 226 (Value.int IntKind.u64 (MI : Int)); refine (HU1.out _ (by exact hpre)).mono ?_; rintro e' w3 ⟨rfl, k1, rfl⟩)
        | (go_at_call_of 226 (Value.int IntKind.u64 (MA : Int)); refine (HU2.out _ (by exact hpre)).mono ?_; rintro e' w3 ⟨rfl, k2, rfl⟩)
        | (go_at_call_of 226 (Value.int IntKind.u64 (m : Int)); refine (HU3.out _ (by exact hpre)).mono ?_; rintro e' w3 ⟨rfl, k3, rfl⟩)
        | (go_at_call 227; (first | with_reducible refine (HN1 _).mono ?_ | with_reducible refine (HN2 _).mono ?_); rintro e' w3 ⟨rfl, rfl⟩)
        | (go_at_call 228; with_reducible refine (HN3 _).mono ?_; rintro e' w3 ⟨rfl, rfl⟩)
        | (go_at_call 229; with_reducible refine (HN4 _).mono ?_; rintro e' w3 ⟨rfl, rfl⟩)
        | (go_at_call 230; with_reducible refine (HN5 _).mono ?_; rintro e' w3 ⟨rfl, rfl⟩))
      · go_ret2
        rw [HSF.out, if_pos (by omega)]
        exact ⟨by simp, HFIN.out _ _ hF2⟩
      · go_ret2
        rw [HSF.out, if_neg (by omega), if_pos (by assumption)]
        exact ⟨by simp, HFIN.out _ _ hF2⟩
      · go_ret2
        rw [HSF.out, if_neg (by omega), if_neg (by assumption)]
        exact ⟨by simp, HFIN.out _ _ hF2⟩
#print axioms short_any
end Go.Proofs.YtdmjbhbiehjelaaGreatDoor
/- setDigits: its contract. -/
namespace Go.Proofs.YtdmjbhbiehjelaaGreatDoor
open Go.RowKit Ieee Go.Shelf
open Go.Sort (Holds putRow)

/-- How many digits are left without the noughts at the end. -/
def nzF (L : List UInt8) : Nat → Nat
  | 0 => 0
  | k + 1 => if L.getD k 0 = 48 then nzF L k else k + 1
theorem nzF_succ (L : List UInt8) (k : Nat) : nzF L (k + 1) = if L.getD k 0 = 48 then nzF L k else k + 1 := rfl
theorem nzF_le (L : List UInt8) (k : Nat) : nzF L k ≤ k := by
  induction k with
  | zero => exact Nat.le_refl _
  | succ k ih => unfold nzF; split <;> omega
theorem short_pos (m : Nat) (e : Int) (hm1 : 9223372036854775808 ≤ m) (hmz : m + 2 ^ (zOf e - 1) < 18446744073709551616) (he1 : -1137 ≤ e) (he2 : e ≤ 960) : 1 ≤ (shortF m e).1 ∧ (shortF m e).1 < 1000000000000000000 ∧ -400 ≤ (shortF m e).2 ∧ (shortF m e).2 ≤ 400 := by
  have hR := p_range m e he1 he2
  have hzr := zOf_range e he1
  have hz0 : 0 < 2 ^ (zOf e - 1) := Nat.two_pow_pos _
  have hz62 : 2 ^ (zOf e - 1) ≤ 4611686018427387904 := Nat.le_trans (Nat.pow_le_pow_right (by omega) (show zOf e - 1 ≤ 62 by omega)) (by decide)
  have hi6 : iOf m e < 696 := by unfold iOf; omega
  have hS : 4 ≤ sOf m e ∧ sOf m e ≤ 58 := by unfold sOf; omega
  obtain ⟨t1, t2, t3⟩ := rows_at (iOf m e) hi6
  have hMIb : 4611686018427387904 ≤ minOf m e ∧ minOf m e < 18446744073709551616 := by
    unfold minOf; generalize 2 ^ (zOf e - 1) = Z at *; split <;> omega
  have hMAb : 4611686018427387904 ≤ maxOf m e ∧ maxOf m e < 18446744073709551616 := by
    unfold maxOf; generalize 2 ^ (zOf e - 1) = Z at *; omega
  have hm2 : m < 18446744073709551616 := by generalize 2 ^ (zOf e - 1) = Z at *; omega
  have hODb : oddOf m e ≤ 1 := by unfold oddOf; omega
  have b1 : 7 ≤ uOf (minOf m e) m e ∧ uOf (minOf m e) m e < 2305843009213693952 := by unfold uOf; exact uscF_bounds hMIb.1 hMIb.2 t1 t2 hS.1 hS.2
  have b2 : 7 ≤ uOf (maxOf m e) m e ∧ uOf (maxOf m e) m e < 2305843009213693952 := by unfold uOf; exact uscF_bounds hMAb.1 hMAb.2 t1 t2 hS.1 hS.2
  have b3 : 7 ≤ uOf m m e ∧ uOf m m e < 2305843009213693952 := by unfold uOf; exact uscF_bounds (by omega) hm2 t1 t2 hS.1 hS.2
  have d1 : 1 ≤ dmin m e ∧ dmin m e < 1000000000000000000 := by unfold dmin; omega
  have d2 : dmax m e < 1000000000000000000 := by unfold dmax; omega
  unfold shortF
  generalize uOf m m e = U3 at *
  split
  · simp only; omega
  · split
    · simp only; omega
    · simp only; omega
theorem numDigits_any (u : Nat) (h1 : 1 ≤ u) (h2 : u < 18446744073709551616) (w : World) (htab : Lib.TabIs Tryz.prog w "internal/strconv.uint64pow10" .u64 Lib.pow10Tab) : Calls Tryz.prog 158 #[.int .u64 (u : Int)] w fun e w' => e = .returned (.int .i64 ((Lib.nDigits u : Nat) : Int)) ∧ w' = w :=
  Any.internal_strconv_numDigits Tryz.laysLaysMn284 u h1 h2 w htab
theorem fmt10_any (blk off cap u : Nat) (d : Array UInt8) (w : World) (hH : Holds (fun (b : UInt8) => Value.int .u8 (b.toNat : Int)) w blk off d) (hu : u < 10 ^ d.size) (hu64 : u < 18446744073709551616) (hsz : d.size < 4611686018427387904) :
    Calls Tryz.prog 159 #[.slice (some ⟨blk, off, none⟩) d.size cap, .int .u64 (u : Int)] w fun e w' => e = .returned (.tuple #[]) ∧ ∃ (n v' : Nat) (dk : Array UInt8), w' = (putRow (fun (b : UInt8) => Value.int .u8 (b.toNat : Int)) w blk off dk).drewN n ∧ Lib.FmtInv d.size u 0 v' dk :=
  Any.internal_strconv_formatBase10 Tryz.laysLaysn285 blk off cap u d w hH hu hu64 hsz
/-- The buffer's cells, all nought. -/
def zeros32 : Array Value := Array.replicate 32 (.int .u8 0)
theorem Fr.putRow {S : Nat → Prop} {a w : World} (h : Fr S a w) {blk off : Nat} {d : Array UInt8} (hb : S blk ∨ a.heap.size ≤ blk) : Fr S a (putRow (fun (b : UInt8) => Value.int .u8 (b.toNat : Int)) w blk off d) := by
  refine ⟨h.os, h.tape, h.output, by rw [Go.Sort.size_putRow]; exact h.size, fun k hk hs => ?_⟩
  have hne : blk ≠ k := by rintro rfl; rcases hb with hb | hb; exact hs hb; omega
  show (w.heap.modify blk _)[k]? = _
  rw [Array.getElem?_modify, if_neg hne]
  exact h.block k hk hs
theorem pow_le_nDigits (u : Nat) (h : 1 ≤ u) : 10 ^ (Lib.nDigits u - 1) ≤ u := by
  induction u using Nat.strongRecOn with
  | _ u ih =>
    by_cases hs : u < 10
    · rw [Lib.nDigits_small hs]; simpa using h
    · rw [Lib.nDigits_big hs]
      have h1 := ih (u / 10) (by omega) (by omega)
      have h2 := Lib.nDigits_pos (u / 10)
      obtain ⟨k, hk⟩ : ∃ k, Lib.nDigits (u / 10) = k + 1 := ⟨Lib.nDigits (u / 10) - 1, by omega⟩
      rw [hk] at h1 ⊢
      rw [show k + 1 - 1 = k by omega] at h1
      rw [show k + 1 + 1 - 1 = k + 1 by omega, Nat.pow_succ]
      omega
theorem nDigits_le18 (u : Nat) (h1 : 1 ≤ u) (h2 : u < 1000000000000000000) : Lib.nDigits u ≤ 18 := by
  have h := pow_le_nDigits u h1
  rcases Nat.lt_or_ge 18 (Lib.nDigits u) with c | c
  · have := Nat.pow_le_pow_right (show 1 ≤ 10 by omega) (show 18 ≤ Lib.nDigits u - 1 by omega)
    have e : (10 : Nat) ^ 18 = 1000000000000000000 := by decide
    omega
  · exact c
set_option maxRecDepth 100000 in
set_option maxHeartbeats 1000000 in
theorem setDigits_any (B u : Nat) (p : Int) (w : World) (h1 : 1 ≤ u) (h2 : u < 1000000000000000000) (hp1 : -1000 ≤ p) (hp2 : p ≤ 1000) (hB : w.heap[B]? = some (.cells zeros32 186 (0, 0))) :
    Calls Tryz.prog 191 #[.slice (some ⟨B, 0, none⟩) 32 32, .int .u64 (u : Int), .int .i64 p, .int .i64 ((Lib.nDigits u : Nat) : Int)] w fun e w' => e = .returned (.tuple #[.int .i64 ((Lib.nDigits u : Nat) + p), .int .i64 ((nzF (Lib.decDigits u) (Lib.nDigits u) : Nat) : Int)]) ∧ (∀ j (hj : j < (Lib.decDigits u).length), w'.cell? ⟨B, j, none⟩ = some (.int .u8 ((Lib.decDigits u)[j].toNat : Int))) ∧ Fr (oneB B) w w' := by
  have hk1 := Lib.nDigits_pos u
  have hk2 := nDigits_le18 u h1 h2
  have hlt := Lib.lt_pow_nDigits u
  obtain ⟨k, hk⟩ : ∃ k, Lib.nDigits u = k := ⟨_, rfl⟩
  have hlen : (Lib.decDigits u).length = k := by rw [Lib.decDigits_length, hk]
  rw [hk] at hk1 hk2 hlt ⊢
  have HH : Holds (fun (b : UInt8) => Value.int .u8 (b.toNat : Int)) w B 0 (Array.replicate k (0 : UInt8)) := by
    intro j hj
    rw [Array.size_replicate] at hj
    refine ⟨?_, freeOf _ hB⟩
    rw [Nat.zero_add, getElem!_pos _ j (by simpa using hj)]
    refine cellOf hB ?_
    unfold zeros32
    rw [Array.getElem?_replicate, if_pos (by omega)]
    simp
  have HFB := fmt10_any B 0 32 u (Array.replicate k 0) w HH (by simpa using hlt) (by omega) (by simp; omega)
  rw [Array.size_replicate] at HFB
  obtain ⟨L, hL⟩ : ∃ L, Lib.decDigits u = L := ⟨_, rfl⟩
  have HHH : Hid _ := HH
  have HL : Hid _ := hL
  have HK : Hid _ := And.intro hk hlen
  rw [hL] at hlen ⊢
  have HLL : Hid (L.length = k) := hlen
  clear HH hL hk hlen hlt
  go_enter Tryz.func191, Tryz.ntmps191
  go_wp2_with fail
  refine HFB.mono ?_
  rintro e W1 ⟨rfl, n, v', dk, hW1, hF⟩
  have hcells : ∀ j, j < k → W1.cell? ⟨B, j, none⟩ = some (.int .u8 ((L.getD j 0).toNat : Int)) := by
    intro j hj
    have hjl : j < (Lib.decDigits u).length := by rw [HK.out.2]; exact hj
    have hF' : Lib.FmtInv (Lib.nDigits u) u 0 v' dk := by rw [HK.out.1]; exact hF
    have hc := Go.Sort.cell?_putRow (fun (b : UInt8) => Value.int .u8 (b.toNat : Int)) w B 0 _ dk HHH.out (by rw [hF.size, Array.size_replicate]) j (by rw [hF.size]; exact hj)
    rw [Nat.zero_add] at hc
    rw [hW1]
    refine hc.trans ?_
    rw [← Lib.row_is_numeral hF' j hjl]
    have : L.getD j 0 = (Lib.decDigits u)[j] := by
      have hL := HL.out
      subst hL
      simp [List.getD, hjl]
    rw [this]
  have hF1 : Fr (oneB B) w W1 := by rw [hW1]; exact ((Fr.refl (oneB B) w).putRow (Or.inl rfl)).drewN n
  have HC : Hid _ := hcells
  have HF1 : Hid _ := hF1
  clear hcells hF1 hW1 hF HFB
  go_wp2_with fail
  go_loop [3] (fun nv => ∃ i : Nat, i ≤ k ∧ nv = .int .i64 (i : Int) ∧ Hid (nzF L i = nzF L k)) (fun nv => (intOf nv).toNat)
  case atStart => exact ⟨k, Nat.le_refl _, rfl, rfl⟩
  case round =>
    obtain ⟨i, hik, rfl, HZ⟩ := hrel
    have hfin : ∀ j (hj : j < L.length), W1.cell? ⟨B, j, none⟩ = some (.int .u8 ((L[j].toNat : Nat) : Int)) := fun j hj => by
      have := HC.out j (by rw [HLL.out] at hj; exact hj)
      rw [this]
      simp [List.getD, hj]
    have HFIN : Hid _ := hfin
    clear hfin
    cases i with
    | zero =>
      go_wp2_with fail
      go_ret2
      rw [← HZ.out]
      exact ⟨by simp [nzF], HFIN.out, HF1.out⟩
    | succ i =>
      have hc := HC.out i (by omega)
      have hZ := HZ.out
      rw [nzF_succ] at hZ
      by_cases h48 : L.getD i 0 = 48
      · rw [if_pos h48] at hZ
        rw [h48] at hc
        have hc' : W1.cell? ⟨B, i, none⟩ = some (.int .u8 48) := hc
        have HZ2 : Hid _ := hZ
        clear hZ hc h48 HZ
        have e1 : ((i + 1 : Nat) : Int) - 1 = (i : Int) := by omega
        go_wp2_with fail
        go_round
        case rel => exact ⟨i, by omega, by go_num, HZ2.out⟩
        case measure => simp [intOf]
      · rw [if_neg h48] at hZ
        obtain ⟨x, hx⟩ : ∃ x, (L.getD i 0).toNat = x := ⟨_, rfl⟩
        have hxne : ¬ (x : Int) = 48 := by
          intro h
          apply h48
          apply UInt8.toNat_inj.1
          rw [hx]
          show x = 48
          omega
        have hxb : ((x : Int) == 48) = false := by simpa using hxne
        rw [hx] at hc
        have HZ2 : Hid _ := hZ
        clear hZ h48 HZ hx
        go_wp2_with fail
        go_ret2
        rw [← HZ2.out]
        exact ⟨by simp, HFIN.out, HF1.out⟩
#print axioms setDigits_any
#print axioms short_pos
end Go.Proofs.YtdmjbhbiehjelaaGreatDoor
