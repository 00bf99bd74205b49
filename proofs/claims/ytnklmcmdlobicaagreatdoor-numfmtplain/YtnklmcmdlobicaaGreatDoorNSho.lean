/- The shortest digits: shortFloat's contract. -/
import Derived.Test.YtnklmcmdlobicaaGreatDoorNScl
namespace Go.Proofs.YtnklmcmdlobicaaGreatDoor
open Go.RowKit Ieee Go.Shelf

def hiT (i : Nat) : Nat := (Pinned.pow10Rows.getD i (0, 0)).1
def loT (i : Nat) : Nat := (Pinned.pow10Rows.getD i (0, 0)).2
theorem rows_len : Pinned.pow10Rows.length = 696 := by decide +kernel
theorem rows_all : Pinned.pow10Rows.all (fun x => decide (9223372036854775808 ≤ x.1) && decide (x.1 < 18446744073709551616) && decide (x.2 < 18446744073709551616)) = true := by decide +kernel
theorem rows_at (i : Nat) (hi : i < 696) : 9223372036854775808 ≤ hiT i ∧ hiT i < 18446744073709551616 ∧ loT i < 18446744073709551616 := by
  have hl : i < Pinned.pow10Rows.length := by rw [rows_len]; exact hi
  have h := List.all_eq_true.1 rows_all (Pinned.pow10Rows[i]) (List.getElem_mem hl)
  have e : Pinned.pow10Rows.getD i (0, 0) = Pinned.pow10Rows[i] := by simp [List.getD, hl]
  unfold hiT loT
  rw [e]
  simp only [Bool.and_eq_true, decide_eq_true_eq] at h
  exact ⟨h.1.1, h.1.2, h.2⟩

/-- How many bits stand below the last one that a number has. -/
def zOf (e : Int) : Nat := if -1085 ≤ e then 11 else (-1074 - e).toNat
/-- The power of ten. -/
def pOf (m : Nat) (e : Int) : Int := if m = 9223372036854775808 ∧ -1085 < e then -skw (e + 11) else -l10 (e + zOf e)
def sOf (m : Nat) (e : Int) : Nat := (-(e + l2 (pOf m e) + 3)).toNat
def iOf (m : Nat) (e : Int) : Nat := (pOf m e + 348).toNat
theorem p_range (m : Nat) (e : Int) (h1 : -1137 ≤ e) (h2 : e ≤ 960) : -348 ≤ pOf m e ∧ pOf m e ≤ 347 ∧ 4 ≤ -(e + l2 (pOf m e) + 3) ∧ -(e + l2 (pOf m e) + 3) ≤ 58 := by
  unfold pOf zOf l10 l2 skw
  split
  · omega
  · split
    · omega
    · have : e + ((-1074 - e).toNat : Int) = -1074 := by omega
      rw [this]
      omega
def minOf (m : Nat) (e : Int) : Nat := if m = 9223372036854775808 ∧ -1085 < e then m - 512 else m - 2 ^ (zOf e - 1)
def maxOf (m : Nat) (e : Int) : Nat := m + 2 ^ (zOf e - 1)
def uOf (x m : Nat) (e : Int) : Nat := uscF x (hiT (iOf m e)) (loT (iOf m e)) (sOf m e)
def oddOf (m : Nat) (e : Int) : Nat := m / 2 ^ zOf e % 2
def dmin (m : Nat) (e : Int) : Nat := (uOf (minOf m e) m e + oddOf m e + 3) / 4
def dmax (m : Nat) (e : Int) : Nat := (uOf (maxOf m e) m e - oddOf m e) / 4
/-- The shortest digits, and the power of ten behind them. -/
def shortF (m : Nat) (e : Int) : Nat × Int :=
  if dmin m e ≤ dmax m e / 10 * 10 then (dmax m e / 10, -(pOf m e - 1))
  else if dmin m e < dmax m e then ((uOf m m e + 1 + uOf m m e / 4 % 2) / 4, -pOf m e) else (dmin m e, -pOf m e)

theorem or_bounds (a b : Nat) (hb : b ≤ 1) : a ≤ a ||| b ∧ a ||| b ≤ a + 1 := by
  refine ⟨Nat.left_le_or, ?_⟩
  have h : (a ||| b) / 2 = a / 2 := by
    rw [Nat.or_div_two, show b / 2 = 0 by omega, Nat.or_zero]
  omega
/-- How great and how small what is scaled may be. -/
theorem uscF_bounds {x hi lo s : Nat} (hx1 : 4611686018427387904 ≤ x) (hx2 : x < 18446744073709551616) (hh1 : 9223372036854775808 ≤ hi) (hh2 : hi < 18446744073709551616) (hs1 : 4 ≤ s) (hs2 : s ≤ 58) : 7 ≤ uscF x hi lo s ∧ uscF x hi lo s < 2305843009213693952 := by
  have k1 := mul_hi_lt hx2 hh2
  have k0 : 2305843009213693952 ≤ x * hi / 18446744073709551616 := by
    rw [Nat.le_div_iff_mul_le (by omega)]
    have := Nat.mul_le_mul hx1 hh1
    omega
  have p1 : 2 ^ 4 ≤ 2 ^ s := Nat.pow_le_pow_right (by omega) hs1
  have p2 : 2 ^ s ≤ 2 ^ 58 := Nat.pow_le_pow_right (by omega) hs2
  have p3 : (2 : Nat) ^ 4 = 16 := by decide
  have p4 : (2 : Nat) ^ 58 = 288230376151711744 := by decide
  rw [p3] at p1
  rw [p4] at p2
  obtain ⟨A, hA⟩ : ∃ A, x * hi / 18446744073709551616 = A := ⟨_, rfl⟩
  rw [hA] at k0 k1
  have up : ∀ B, B < 18446744073709551616 → B / 2 ^ s < 1152921504606846976 := fun B hB => by
    have := Nat.div_le_div_left (a := B) p1 (by omega)
    omega
  have dn : ∀ B, 2305843009213693951 ≤ B → 7 ≤ B / 2 ^ s := fun B hB => by
    have := Nat.div_le_div_left (a := B) p2 (Nat.two_pow_pos s)
    omega
  unfold uscF
  rw [hA]
  split
  · have a := up A k1
    have b := dn A (by omega)
    have c := or_bounds (A / 2 ^ s) 1 (by omega)
    omega
  · have q : (decide (x * hi % 18446744073709551616 < x * lo / 18446744073709551616)).toNat ≤ 1 := Bool.toNat_le _
    generalize (decide (x * hi % 18446744073709551616 < x * lo / 18446744073709551616)).toNat = b1 at *
    have a := up ((A + 18446744073709551616 - b1) % 18446744073709551616) (Nat.mod_lt _ (by omega))
    have b := dn ((A + 18446744073709551616 - b1) % 18446744073709551616) (by omega)
    have c := or_bounds ((A + 18446744073709551616 - b1) % 18446744073709551616 / 2 ^ s) (decide (1 < (x * hi % 18446744073709551616 + 18446744073709551616 - x * lo / 18446744073709551616) % 18446744073709551616)).toNat (Bool.toNat_le _)
    omega
theorem zOf_range (e : Int) (h1 : -1137 ≤ e) : 11 ≤ zOf e ∧ zOf e ≤ 63 := by
  unfold zOf
  split <;> omega

theorem nudge_up (u d : Nat) (h : u + d < 18446744073709551616) (w : World) : Calls Tryz.prog 214 #[.int .u64 (u : Int), .int .i64 (d : Int)] w fun e w' => e = .returned (.int .u64 ((u + d : Nat) : Int)) ∧ w' = w :=
  (nudge_any u d w).mono fun e w' ⟨he, hw⟩ => ⟨by rw [he]; exact ret_int (by omega), hw⟩
theorem nudge_dn (u d : Nat) (h : d ≤ u) (hu : u < 18446744073709551616) (w : World) : Calls Tryz.prog 214 #[.int .u64 (u : Int), .int .i64 (-(d : Int))] w fun e w' => e = .returned (.int .u64 ((u - d : Nat) : Int)) ∧ w' = w :=
  (nudge_any u (-(d : Int)) w).mono fun e w' ⟨he, hw⟩ => ⟨by rw [he]; exact ret_int (by omega), hw⟩
theorem ceil_in (u : Nat) (h : u + 3 < 18446744073709551616) (w : World) : Calls Tryz.prog 215 #[.int .u64 (u : Int)] w fun e w' => e = .returned (.int .u64 (((u + 3) / 4 : Nat) : Int)) ∧ w' = w :=
  (ceil_any u w).mono fun e w' ⟨he, hw⟩ => ⟨by rw [he]; exact ret_int (by omega), hw⟩
theorem round_in (u : Nat) (h : u + 2 < 18446744073709551616) (w : World) : Calls Tryz.prog 217 #[.int .u64 (u : Int)] w fun e w' => e = .returned (.int .u64 (((u + 1 + u / 4 % 2) / 4 : Nat) : Int)) ∧ w' = w :=
  (round_any u (by omega) w).mono fun e w' ⟨he, hw⟩ => ⟨by rw [he]; exact ret_int (by omega), hw⟩

set_option maxRecDepth 100000 in
set_option maxHeartbeats 4000000 in
theorem short_any (m : Nat) (e : Int) (w : World) (hm1 : 9223372036854775808 ≤ m) (hmz : m + 2 ^ (zOf e - 1) < 18446744073709551616) (he1 : -1137 ≤ e) (he2 : e ≤ 960) (hT : PTab w) :
    Calls Tryz.prog 183 #[.int .u64 (m : Int), .int .i64 e] w fun en w' => en = .returned (.tuple #[.int .u64 (((shortF m e).1 : Nat) : Int), .int .i64 (shortF m e).2]) ∧ Fr noB w w' := by
  have hR := p_range m e he1 he2
  obtain ⟨i, hi⟩ : ∃ i : Nat, pOf m e = (i : Int) - 348 := ⟨(pOf m e + 348).toNat, by omega⟩
  have hI : iOf m e = i := by unfold iOf; omega
  obtain ⟨s, hs⟩ : ∃ s : Nat, -(e + l2 (pOf m e) + 3) = (s : Int) := ⟨(-(e + l2 (pOf m e) + 3)).toNat, by omega⟩
  have hS : sOf m e = s := by unfold sOf; omega
  rw [hi] at hR hs
  obtain ⟨lp, hlp⟩ : ∃ lp, l2 ((i : Int) - 348) = lp := ⟨_, rfl⟩
  have HLP := l2_any ((i : Int) - 348) (by omega) (by omega)
  rw [hlp] at hR hs HLP
  obtain ⟨p1, p2, p3, p4⟩ := hR
  have hi6 : i < 696 := by omega
  obtain ⟨t1, t2, t3⟩ := rows_at i hi6
  obtain ⟨MI, hMI⟩ : ∃ x, minOf m e = x := ⟨_, rfl⟩
  obtain ⟨MA, hMA⟩ : ∃ x, maxOf m e = x := ⟨_, rfl⟩
  obtain ⟨OD, hOD⟩ : ∃ x, oddOf m e = x := ⟨_, rfl⟩
  have hzr := zOf_range e he1
  have hz0 : 0 < 2 ^ (zOf e - 1) := Nat.two_pow_pos _
  have hz62 : 2 ^ (zOf e - 1) ≤ 4611686018427387904 := Nat.le_trans (Nat.pow_le_pow_right (by omega) (show zOf e - 1 ≤ 62 by omega)) (by decide)
  have hMIb : 4611686018427387904 ≤ MI ∧ MI < 18446744073709551616 := by
    rw [← hMI]; unfold minOf; generalize 2 ^ (zOf e - 1) = Z at *; split <;> omega
  have hMAb : 4611686018427387904 ≤ MA ∧ MA < 18446744073709551616 := by
    rw [← hMA]; unfold maxOf; generalize 2 ^ (zOf e - 1) = Z at *; omega
  have hODb : OD ≤ 1 := by rw [← hOD]; unfold oddOf; omega
  obtain ⟨U1, hU1⟩ : ∃ x, uOf MI m e = x := ⟨_, rfl⟩
  obtain ⟨U2, hU2⟩ : ∃ x, uOf MA m e = x := ⟨_, rfl⟩
  obtain ⟨U3, hU3⟩ : ∃ x, uOf m m e = x := ⟨_, rfl⟩
  have b1 : 7 ≤ U1 ∧ U1 < 2305843009213693952 := by rw [← hU1]; unfold uOf; rw [hI, hS]; exact uscF_bounds hMIb.1 hMIb.2 t1 t2 (by omega) (by omega)
  have b2 : 7 ≤ U2 ∧ U2 < 2305843009213693952 := by rw [← hU2]; unfold uOf; rw [hI, hS]; exact uscF_bounds hMAb.1 hMAb.2 t1 t2 (by omega) (by omega)
  have b3 : 7 ≤ U3 ∧ U3 < 2305843009213693952 := by rw [← hU3]; unfold uOf; rw [hI, hS]; exact uscF_bounds (by omega) (by generalize 2 ^ (zOf e - 1) = Z at *; omega) t1 t2 (by omega) (by omega)
  have hm2 : m < 18446744073709551616 := by generalize 2 ^ (zOf e - 1) = Z at *; omega
  obtain ⟨A1, hA1⟩ : ∃ x, U1 + OD = x := ⟨_, rfl⟩
  obtain ⟨A2, hA2⟩ : ∃ x, U2 - OD = x := ⟨_, rfl⟩
  obtain ⟨DI, hDI⟩ : ∃ x, (A1 + 3) / 4 = x := ⟨_, rfl⟩
  obtain ⟨DA, hDA⟩ : ∃ x, A2 / 4 = x := ⟨_, rfl⟩
  obtain ⟨DR, hDR⟩ : ∃ x, (U3 + 1 + U3 / 4 % 2) / 4 = x := ⟨_, rfl⟩
  have HN1 := nudge_up U1 OD (by omega)
  have HN2 := nudge_dn U2 OD (by omega) (by omega)
  rw [hA1] at HN1
  rw [hA2] at HN2
  have HN3 := ceil_in A1 (by omega)
  have HN4 := floorU_any A2 (by omega)
  have HN5 := round_in U3 (by omega)
  rw [hDI] at HN3
  rw [hDA] at HN4
  rw [hDR] at HN5
  have q1 : DI < 1000000000000000000 := by omega
  have q2 : DA < 1000000000000000000 := by omega
  have HSF : Hid (shortF m e = if DI ≤ DA / 10 * 10 then (DA / 10, -((i : Int) - 348 - 1)) else if DI < DA then (DR, -((i : Int) - 348)) else (DI, -((i : Int) - 348))) := by
    show shortF m e = _
    unfold shortF dmin dmax
    rw [hMI, hMA, hOD, hU1, hU2, hU3, hi, hA1, hA2, hDI, hDA, hDR]
  obtain ⟨W, hW⟩ : ∃ W, w.alloc (.cells #[.int .u64 0, .int .u64 0, .int .i64 0] 217 (0, 0)) = W := ⟨_, rfl⟩
  obtain ⟨N, hN⟩ : ∃ N, w.heap.size = N := ⟨_, rfl⟩
  have hnew : W.heap[N]? = some (.cells #[.int .u64 0, .int .u64 0, .int .i64 0] 217 (0, 0)) := by rw [← hW, ← hN]; exact heap_alloc_new w _
  have hFW : Fr noB w W := by rw [← hW]; exact (Fr.refl noB w).alloc _
  have hne9 : ¬ N = 11 := by have := hT.1; omega
  have HPS := prescale_any N i e lp W (hT.fr hFW) hne9 hi6 (by omega) (by omega) (by rw [← hlp]; unfold l2; omega) (by rw [← hlp]; unfold l2; omega) hnew
  have hneg : -(e + lp + 3) = (s : Int) := hs
  rw [hneg] at HPS
  have HUS : Hid (∀ (x : Nat) (W2 : World), 4611686018427387904 ≤ x → x < 18446744073709551616 → W2.heap[N]? = some (.cells #[.int .u64 (((Pinned.pow10Rows.getD i (0, 0)).1 : Nat) : Int), .int .u64 (((Pinned.pow10Rows.getD i (0, 0)).2 : Nat) : Int), .int .i64 (s : Int)] 217 (0, 0)) → Calls Tryz.prog 213 #[.int .u64 (x : Int), .pointer (some ⟨N, 0, none⟩)] W2 fun e' w' => e' = .returned (.int .u64 ((uOf x m e : Nat) : Int)) ∧ ∃ k, w' = W2.drewN k) := by
    intro x W2 hx1 hx2 hh
    have := uscale_any x (hiT i) (loT i) s N W2 hx2 t2 t3 (by omega) hh
    unfold uOf
    rw [hI, hS]
    exact this
  have HU1 : Hid (∀ (W2 : World), W2.heap[N]? = some (.cells #[.int .u64 (((Pinned.pow10Rows.getD i (0, 0)).1 : Nat) : Int), .int .u64 (((Pinned.pow10Rows.getD i (0, 0)).2 : Nat) : Int), .int .i64 (s : Int)] 217 (0, 0)) → Calls Tryz.prog 213 #[.int .u64 (MI : Int), .pointer (some ⟨N, 0, none⟩)] W2 fun e' w' => e' = .returned (.int .u64 (U1 : Int)) ∧ ∃ k, w' = W2.drewN k) := by
    intro W2 h; rw [← hU1]; exact HUS.out MI W2 hMIb.1 hMIb.2 h
  have HU2 : Hid (∀ (W2 : World), W2.heap[N]? = some (.cells #[.int .u64 (((Pinned.pow10Rows.getD i (0, 0)).1 : Nat) : Int), .int .u64 (((Pinned.pow10Rows.getD i (0, 0)).2 : Nat) : Int), .int .i64 (s : Int)] 217 (0, 0)) → Calls Tryz.prog 213 #[.int .u64 (MA : Int), .pointer (some ⟨N, 0, none⟩)] W2 fun e' w' => e' = .returned (.int .u64 (U2 : Int)) ∧ ∃ k, w' = W2.drewN k) := by
    intro W2 h; rw [← hU2]; exact HUS.out MA W2 hMAb.1 hMAb.2 h
  have HU3 : Hid (∀ (W2 : World), W2.heap[N]? = some (.cells #[.int .u64 (((Pinned.pow10Rows.getD i (0, 0)).1 : Nat) : Int), .int .u64 (((Pinned.pow10Rows.getD i (0, 0)).2 : Nat) : Int), .int .i64 (s : Int)] 217 (0, 0)) → Calls Tryz.prog 213 #[.int .u64 (m : Int), .pointer (some ⟨N, 0, none⟩)] W2 fun e' w' => e' = .returned (.int .u64 (U3 : Int)) ∧ ∃ k, w' = W2.drewN k) := by
    intro W2 h; rw [← hU3]; exact HUS.out m W2 (by omega) hm2 h
  have HM : Hid (_ ∧ _ ∧ _) := And.intro hMI (And.intro hMA hOD)
  have HNW : Hid _ := And.intro hW (And.intro hN hFW)
  have HFIN : Hid (∀ (W2 : World) (k : Nat), Fr (oneB N) W W2 → Fr noB w (W2.drewN k)) := fun W2 k h => (hFW.then h (fun j hj => Or.inr (by have hj' : j = N := hj; omega))).drewN k
  clear hA1 hA2 hDI hDA hDR HUS hMI hMA hOD hU1 hU2 hU3 hs hI hS hlp t1 t2 t3 hnew hFW hz62 hne9 hneg
  have hNw := HNW.out.2.1
  by_cases hb : m = 9223372036854775808
  · have hbB : ((m : Int) == 9223372036854775808) = true := by simp; omega
    have HB : Hid (m = 9223372036854775808) := hb
    clear hb
    rcases (show -1085 < e ∨ e = -1085 ∨ e < -1085 by omega) with he | he | he
    · skip
      have hz : zOf e = 11 := by unfold zOf; rw [if_pos (by omega)]
      have hl : skw (e + 11) = -((i : Int) - 348) := by rw [← hi]; unfold pOf; rw [if_pos ⟨HB.out, he⟩, Int.neg_neg]
      have HL := skw_any (e + 11) (by omega) (by omega)
      rw [hl] at HL
      have f1 : (m : Int) - 512 = (MI : Int) := by
        have := HM.out.1
        unfold minOf at this
        rw [if_pos ⟨HB.out, he⟩] at this
        omega
      have f2 : IntKind.u64.wrap ((m : Int) + 1024) = (MA : Int) := by
        have := HM.out.2.1
        unfold maxOf at this
        rw [hz] at this
        rw [IntKind.wrap_u64]
        omega
      have f3 : bits BinOp.and IntKind.i64 ((m : Int) / 2048) 1 = (OD : Int) := by
        have := HM.out.2.2
        unfold oddOf at this
        rw [hz] at this
        rw [show ((m : Int) / 2048) = ((m / 2048 : Nat) : Int) by omega, show (1 : Int) = ((1 : Nat) : Int) from rfl, i64_and_nat _ _ (by omega) (by omega), Nat.and_one_is_mod]
        omega
      clear HM hl hz hmz hzr
      go_enter Tryz.func183, Tryz.ntmps183
      go_wp2_with (first | (go_at_call 178; with_reducible refine (HL _).mono ?_; rintro e' w1 ⟨rfl, rfl⟩) | (go_at_call 210; with_reducible refine (HL _).mono ?_; rintro e' w1 ⟨rfl, rfl⟩) | (go_at_call 212; with_reducible refine (HLP _).mono ?_; rintro e' w1 ⟨rfl, rfl⟩))
      refine HPS.mono ?_
      rintro e' W2 ⟨rfl, hpre, hF2⟩
      clear HPS HL HLP f1 f2 f3 hz0
      go_wp2_with (first
        | (go_at_call_of 213 (Value.int IntKind.u64 (MI : Int)); refine (HU1.out _ (by exact hpre)).mono ?_; rintro e' w3 ⟨rfl, k1, rfl⟩)
        | (go_at_call_of 213 (Value.int IntKind.u64 (MA : Int)); refine (HU2.out _ (by exact hpre)).mono ?_; rintro e' w3 ⟨rfl, k2, rfl⟩)
        | (go_at_call_of 213 (Value.int IntKind.u64 (m : Int)); refine (HU3.out _ (by exact hpre)).mono ?_; rintro e' w3 ⟨rfl, k3, rfl⟩)
        | (go_at_call 214; (first | with_reducible refine (HN1 _).mono ?_ | with_reducible refine (HN2 _).mono ?_); rintro e' w3 ⟨rfl, rfl⟩)
        | (go_at_call 215; with_reducible refine (HN3 _).mono ?_; rintro e' w3 ⟨rfl, rfl⟩)
        | (go_at_call 216; with_reducible refine (HN4 _).mono ?_; rintro e' w3 ⟨rfl, rfl⟩)
        | (go_at_call 217; with_reducible refine (HN5 _).mono ?_; rintro e' w3 ⟨rfl, rfl⟩))
      · go_ret2
        rw [HSF.out, if_pos (by omega)]
        exact ⟨by simp, HFIN.out _ _ hF2⟩
      · go_ret2
        rw [HSF.out, if_neg (by omega), if_pos (by assumption)]
        exact ⟨by simp, HFIN.out _ _ hF2⟩
      · go_ret2
        rw [HSF.out, if_neg (by omega), if_neg (by assumption)]
        exact ⟨by simp, HFIN.out _ _ hF2⟩
    · have hne : ¬ -1085 < e := by omega
      have hge : -1085 ≤ e := by omega
      have HE : Hid (e = -1085) := he
      clear he
      have hz : zOf e = 11 := by unfold zOf; rw [if_pos hge]
      have hl : l10 (e + 11) = -((i : Int) - 348) := by rw [← hi]; unfold pOf; rw [if_neg (by omega), hz, Int.neg_neg]; rfl
      have HL := l10_any (e + 11) (by omega) (by omega)
      rw [hl] at HL
      have f1 : (m : Int) - 1024 = (MI : Int) := by
        have := HM.out.1
        unfold minOf at this
        rw [if_neg (by omega), hz] at this
        omega
      have f2 : IntKind.u64.wrap ((m : Int) + 1024) = (MA : Int) := by
        have := HM.out.2.1
        unfold maxOf at this
        rw [hz] at this
        rw [IntKind.wrap_u64]
        omega
      have f3 : bits BinOp.and IntKind.i64 ((m : Int) / 2048) 1 = (OD : Int) := by
        have := HM.out.2.2
        unfold oddOf at this
        rw [hz] at this
        rw [show ((m : Int) / 2048) = ((m / 2048 : Nat) : Int) by omega, show (1 : Int) = ((1 : Nat) : Int) from rfl, i64_and_nat _ _ (by omega) (by omega), Nat.and_one_is_mod]
        omega
      clear HM hl hz hmz hzr
      go_enter Tryz.func183, Tryz.ntmps183
      go_wp2_with (first | (go_at_call 178; with_reducible refine (HL _).mono ?_; rintro e' w1 ⟨rfl, rfl⟩) | (go_at_call 210; with_reducible refine (HL _).mono ?_; rintro e' w1 ⟨rfl, rfl⟩) | (go_at_call 212; with_reducible refine (HLP _).mono ?_; rintro e' w1 ⟨rfl, rfl⟩))
      refine HPS.mono ?_
      rintro e' W2 ⟨rfl, hpre, hF2⟩
      clear HPS HL HLP f1 f2 f3 hz0
      go_wp2_with (first
        | (go_at_call_of 213 (Value.int IntKind.u64 (MI : Int)); refine (HU1.out _ (by exact hpre)).mono ?_; rintro e' w3 ⟨rfl, k1, rfl⟩)
        | (go_at_call_of 213 (Value.int IntKind.u64 (MA : Int)); refine (HU2.out _ (by exact hpre)).mono ?_; rintro e' w3 ⟨rfl, k2, rfl⟩)
        | (go_at_call_of 213 (Value.int IntKind.u64 (m : Int)); refine (HU3.out _ (by exact hpre)).mono ?_; rintro e' w3 ⟨rfl, k3, rfl⟩)
        | (go_at_call 214; (first | with_reducible refine (HN1 _).mono ?_ | with_reducible refine (HN2 _).mono ?_); rintro e' w3 ⟨rfl, rfl⟩)
        | (go_at_call 215; with_reducible refine (HN3 _).mono ?_; rintro e' w3 ⟨rfl, rfl⟩)
        | (go_at_call 216; with_reducible refine (HN4 _).mono ?_; rintro e' w3 ⟨rfl, rfl⟩)
        | (go_at_call 217; with_reducible refine (HN5 _).mono ?_; rintro e' w3 ⟨rfl, rfl⟩))
      · go_ret2
        rw [HSF.out, if_pos (by omega)]
        exact ⟨by simp, HFIN.out _ _ hF2⟩
      · go_ret2
        rw [HSF.out, if_neg (by omega), if_pos (by assumption)]
        exact ⟨by simp, HFIN.out _ _ hF2⟩
      · go_ret2
        rw [HSF.out, if_neg (by omega), if_neg (by assumption)]
        exact ⟨by simp, HFIN.out _ _ hF2⟩
    · have he' := he
      have he : ¬ -1085 ≤ e := by omega
      obtain ⟨z, hz'⟩ : ∃ z : Nat, e = -1074 - (z : Int) := ⟨(-1074 - e).toNat, by omega⟩
      have hz : zOf e = z := by unfold zOf; rw [if_neg he]; omega
      have hz1 : 12 ≤ z ∧ z ≤ 63 := by omega
      have hzI : 11 + (-1085 - e) = (z : Int) := by omega
      have hez : e + (z : Int) = -1074 := by omega
      have hl : l10 (-1074) = -((i : Int) - 348) := by rw [← hi]; unfold pOf; rw [if_neg (by omega), hz, Int.neg_neg, hez]
      have HL := l10_any (-1074) (by omega) (by omega)
      rw [hl] at HL
      have hp0 : 0 < 2 ^ (z - 1) := Nat.two_pow_pos _
      have hp62 : 2 ^ (z - 1) ≤ 4611686018427387904 := Nat.le_trans (Nat.pow_le_pow_right (by omega) (show z - 1 ≤ 62 by omega)) (by decide)
      have hpI : ((2 : Int) ^ (z - 1)) = ((2 ^ (z - 1) : Nat) : Int) := by simp
      have f1 : IntKind.u64.wrap ((m : Int) - IntKind.u64.wrap (2 ^ (z - 1))) = (MI : Int) := by
        have := HM.out.1
        unfold minOf at this
        rw [if_neg (by omega), hz] at this
        rw [hpI, IntKind.wrap_u64, IntKind.wrap_u64]
        generalize 2 ^ (z - 1) = Z at *
        omega
      have f2 : IntKind.u64.wrap ((m : Int) + IntKind.u64.wrap (2 ^ (z - 1))) = (MA : Int) := by
        have := HM.out.2.1
        unfold maxOf at this
        rw [hz] at this hmz
        rw [hpI, IntKind.wrap_u64, IntKind.wrap_u64]
        generalize 2 ^ (z - 1) = Z at *
        omega
      have f3 : bits BinOp.and IntKind.i64 (wrap64 ((m : Int) / 2 ^ z)) 1 = (OD : Int) := by
        have := HM.out.2.2
        unfold oddOf at this
        rw [hz] at this
        have hq : m / 2 ^ z ≤ m / 2 ^ 12 := Nat.div_le_div_left (Nat.pow_le_pow_right (by omega) hz1.1) (by decide)
        have h12 : (2 : Nat) ^ 12 = 4096 := by decide
        rw [show ((m : Int) / 2 ^ z) = ((m / 2 ^ z : Nat) : Int) by simp]
        generalize m / 2 ^ z = Q at *
        rw [show wrap64 (Q : Int) = (Q : Int) by unfold wrap64; omega, show (1 : Int) = ((1 : Nat) : Int) from rfl, i64_and_nat _ _ (by omega) (by omega), Nat.and_one_is_mod]
        omega
      have HZ : Hid _ := hz'
      clear HM hl hz' hz hmz hzr hp0 hp62 hpI
      go_enter Tryz.func183, Tryz.ntmps183
      go_wp2_with (first | (go_at_call 178; with_reducible refine (HL _).mono ?_; rintro e' w1 ⟨rfl, rfl⟩) | (go_at_call 210; with_reducible refine (HL _).mono ?_; rintro e' w1 ⟨rfl, rfl⟩) | (go_at_call 212; with_reducible refine (HLP _).mono ?_; rintro e' w1 ⟨rfl, rfl⟩))
      refine HPS.mono ?_
      rintro e' W2 ⟨rfl, hpre, hF2⟩
      clear HPS HL HLP f1 f2 f3 hz0
      go_wp2_with (first
        | (go_at_call_of 213 (Value.int IntKind.u64 (MI : Int)); refine (HU1.out _ (by exact hpre)).mono ?_; rintro e' w3 ⟨rfl, k1, rfl⟩)
        | (go_at_call_of 213 (Value.int IntKind.u64 (MA : Int)); refine (HU2.out _ (by exact hpre)).mono ?_; rintro e' w3 ⟨rfl, k2, rfl⟩)
        | (go_at_call_of 213 (Value.int IntKind.u64 (m : Int)); refine (HU3.out _ (by exact hpre)).mono ?_; rintro e' w3 ⟨rfl, k3, rfl⟩)
        | (go_at_call 214; (first | with_reducible refine (HN1 _).mono ?_ | with_reducible refine (HN2 _).mono ?_); rintro e' w3 ⟨rfl, rfl⟩)
        | (go_at_call 215; with_reducible refine (HN3 _).mono ?_; rintro e' w3 ⟨rfl, rfl⟩)
        | (go_at_call 216; with_reducible refine (HN4 _).mono ?_; rintro e' w3 ⟨rfl, rfl⟩)
        | (go_at_call 217; with_reducible refine (HN5 _).mono ?_; rintro e' w3 ⟨rfl, rfl⟩))
      · go_ret2
        rw [HSF.out, if_pos (by omega)]
        exact ⟨by simp, HFIN.out _ _ hF2⟩
      · go_ret2
        rw [HSF.out, if_neg (by omega), if_pos (by assumption)]
        exact ⟨by simp, HFIN.out _ _ hF2⟩
      · go_ret2
        rw [HSF.out, if_neg (by omega), if_neg (by assumption)]
        exact ⟨by simp, HFIN.out _ _ hF2⟩
  · have hbB : ((m : Int) == 9223372036854775808) = false := by simp; omega
    by_cases he : -1085 ≤ e
    · skip
      have hz : zOf e = 11 := by unfold zOf; rw [if_pos he]
      have hl : l10 (e + 11) = -((i : Int) - 348) := by rw [← hi]; unfold pOf; rw [if_neg (by omega), hz, Int.neg_neg]; rfl
      have HL := l10_any (e + 11) (by omega) (by omega)
      rw [hl] at HL
      have f1 : (m : Int) - 1024 = (MI : Int) := by
        have := HM.out.1
        unfold minOf at this
        rw [if_neg (by omega), hz] at this
        omega
      have f2 : IntKind.u64.wrap ((m : Int) + 1024) = (MA : Int) := by
        have := HM.out.2.1
        unfold maxOf at this
        rw [hz] at this
        rw [IntKind.wrap_u64]
        omega
      have f3 : bits BinOp.and IntKind.i64 ((m : Int) / 2048) 1 = (OD : Int) := by
        have := HM.out.2.2
        unfold oddOf at this
        rw [hz] at this
        rw [show ((m : Int) / 2048) = ((m / 2048 : Nat) : Int) by omega, show (1 : Int) = ((1 : Nat) : Int) from rfl, i64_and_nat _ _ (by omega) (by omega), Nat.and_one_is_mod]
        omega
      clear HM hl hz hmz hzr
      go_enter Tryz.func183, Tryz.ntmps183
      go_wp2_with (first | (go_at_call 178; with_reducible refine (HL _).mono ?_; rintro e' w1 ⟨rfl, rfl⟩) | (go_at_call 210; with_reducible refine (HL _).mono ?_; rintro e' w1 ⟨rfl, rfl⟩) | (go_at_call 212; with_reducible refine (HLP _).mono ?_; rintro e' w1 ⟨rfl, rfl⟩))
      refine HPS.mono ?_
      rintro e' W2 ⟨rfl, hpre, hF2⟩
      clear HPS HL HLP f1 f2 f3 hz0
      go_wp2_with (first
        | (go_at_call_of 213 (Value.int IntKind.u64 (MI : Int)); refine (HU1.out _ (by exact hpre)).mono ?_; rintro e' w3 ⟨rfl, k1, rfl⟩)
        | (go_at_call_of 213 (Value.int IntKind.u64 (MA : Int)); refine (HU2.out _ (by exact hpre)).mono ?_; rintro e' w3 ⟨rfl, k2, rfl⟩)
        | (go_at_call_of 213 (Value.int IntKind.u64 (m : Int)); refine (HU3.out _ (by exact hpre)).mono ?_; rintro e' w3 ⟨rfl, k3, rfl⟩)
        | (go_at_call 214; (first | with_reducible refine (HN1 _).mono ?_ | with_reducible refine (HN2 _).mono ?_); rintro e' w3 ⟨rfl, rfl⟩)
        | (go_at_call 215; with_reducible refine (HN3 _).mono ?_; rintro e' w3 ⟨rfl, rfl⟩)
        | (go_at_call 216; with_reducible refine (HN4 _).mono ?_; rintro e' w3 ⟨rfl, rfl⟩)
        | (go_at_call 217; with_reducible refine (HN5 _).mono ?_; rintro e' w3 ⟨rfl, rfl⟩))
      · go_ret2
        rw [HSF.out, if_pos (by omega)]
        exact ⟨by simp, HFIN.out _ _ hF2⟩
      · go_ret2
        rw [HSF.out, if_neg (by omega), if_pos (by assumption)]
        exact ⟨by simp, HFIN.out _ _ hF2⟩
      · go_ret2
        rw [HSF.out, if_neg (by omega), if_neg (by assumption)]
        exact ⟨by simp, HFIN.out _ _ hF2⟩
    · skip
      obtain ⟨z, hz'⟩ : ∃ z : Nat, e = -1074 - (z : Int) := ⟨(-1074 - e).toNat, by omega⟩
      have hz : zOf e = z := by unfold zOf; rw [if_neg he]; omega
      have hz1 : 12 ≤ z ∧ z ≤ 63 := by omega
      have hzI : 11 + (-1085 - e) = (z : Int) := by omega
      have hez : e + (z : Int) = -1074 := by omega
      have hl : l10 (-1074) = -((i : Int) - 348) := by rw [← hi]; unfold pOf; rw [if_neg (by omega), hz, Int.neg_neg, hez]
      have HL := l10_any (-1074) (by omega) (by omega)
      rw [hl] at HL
      have hp0 : 0 < 2 ^ (z - 1) := Nat.two_pow_pos _
      have hp62 : 2 ^ (z - 1) ≤ 4611686018427387904 := Nat.le_trans (Nat.pow_le_pow_right (by omega) (show z - 1 ≤ 62 by omega)) (by decide)
      have hpI : ((2 : Int) ^ (z - 1)) = ((2 ^ (z - 1) : Nat) : Int) := by simp
      have f1 : IntKind.u64.wrap ((m : Int) - IntKind.u64.wrap (2 ^ (z - 1))) = (MI : Int) := by
        have := HM.out.1
        unfold minOf at this
        rw [if_neg (by omega), hz] at this
        rw [hpI, IntKind.wrap_u64, IntKind.wrap_u64]
        generalize 2 ^ (z - 1) = Z at *
        omega
      have f2 : IntKind.u64.wrap ((m : Int) + IntKind.u64.wrap (2 ^ (z - 1))) = (MA : Int) := by
        have := HM.out.2.1
        unfold maxOf at this
        rw [hz] at this hmz
        rw [hpI, IntKind.wrap_u64, IntKind.wrap_u64]
        generalize 2 ^ (z - 1) = Z at *
        omega
      have f3 : bits BinOp.and IntKind.i64 (wrap64 ((m : Int) / 2 ^ z)) 1 = (OD : Int) := by
        have := HM.out.2.2
        unfold oddOf at this
        rw [hz] at this
        have hq : m / 2 ^ z ≤ m / 2 ^ 12 := Nat.div_le_div_left (Nat.pow_le_pow_right (by omega) hz1.1) (by decide)
        have h12 : (2 : Nat) ^ 12 = 4096 := by decide
        rw [show ((m : Int) / 2 ^ z) = ((m / 2 ^ z : Nat) : Int) by simp]
        generalize m / 2 ^ z = Q at *
        rw [show wrap64 (Q : Int) = (Q : Int) by unfold wrap64; omega, show (1 : Int) = ((1 : Nat) : Int) from rfl, i64_and_nat _ _ (by omega) (by omega), Nat.and_one_is_mod]
        omega
      have HZ : Hid _ := hz'
      clear HM hl hz' hz hmz hzr hp0 hp62 hpI
      go_enter Tryz.func183, Tryz.ntmps183
      go_wp2_with (first | (go_at_call 178; with_reducible refine (HL _).mono ?_; rintro e' w1 ⟨rfl, rfl⟩) | (go_at_call 210; with_reducible refine (HL _).mono ?_; rintro e' w1 ⟨rfl, rfl⟩) | (go_at_call 212; with_reducible refine (HLP _).mono ?_; rintro e' w1 ⟨rfl, rfl⟩))
      refine HPS.mono ?_
      rintro e' W2 ⟨rfl, hpre, hF2⟩
      clear HPS HL HLP f1 f2 f3 hz0
      go_wp2_with (first
        | (go_at_call_of 213 (Value.int IntKind.u64 (MI : Int)); refine (HU1.out _ (by exact hpre)).mono ?_; rintro e' w3 ⟨rfl, k1, rfl⟩)
        | (go_at_call_of 213 (Value.int IntKind.u64 (MA : Int)); refine (HU2.out _ (by exact hpre)).mono ?_; rintro e' w3 ⟨rfl, k2, rfl⟩)
        | (go_at_call_of 213 (Value.int IntKind.u64 (m : Int)); refine (HU3.out _ (by exact hpre)).mono ?_; rintro e' w3 ⟨rfl, k3, rfl⟩)
        | (go_at_call 214; (first | with_reducible refine (HN1 _).mono ?_ | with_reducible refine (HN2 _).mono ?_); rintro e' w3 ⟨rfl, rfl⟩)
        | (go_at_call 215; with_reducible refine (HN3 _).mono ?_; rintro e' w3 ⟨rfl, rfl⟩)
        | (go_at_call 216; with_reducible refine (HN4 _).mono ?_; rintro e' w3 ⟨rfl, rfl⟩)
        | (go_at_call 217; with_reducible refine (HN5 _).mono ?_; rintro e' w3 ⟨rfl, rfl⟩))
      · go_ret2
        rw [HSF.out, if_pos (by omega)]
        exact ⟨by simp, HFIN.out _ _ hF2⟩
      · go_ret2
        rw [HSF.out, if_neg (by omega), if_pos (by assumption)]
        exact ⟨by simp, HFIN.out _ _ hF2⟩
      · go_ret2
        rw [HSF.out, if_neg (by omega), if_neg (by assumption)]
        exact ⟨by simp, HFIN.out _ _ hF2⟩
#print axioms short_any
end Go.Proofs.YtnklmcmdlobicaaGreatDoor
