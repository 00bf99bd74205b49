/- Text of any float: the program's. -/
import Derived.Test.YtkohohjpnlhioaaGreatDoorK15
namespace Go.Proofs.YtkohohjpnlhioaaGreatDoor
open Go.RowKit Ieee Go.Shelf

/-- The text of 0.L times ten to the e. -/
def wrL (L : List UInt8) (e : Int) : List UInt8 :=
  if e < -5 ∨ 21 < e then (if (L.drop 1).isEmpty = true then L.take 1 else L.take 1 ++ 46 :: L.drop 1) ++ 69 :: Lib.itoa (e - 1)
  else if e ≤ 0 then 48 :: 46 :: (List.replicate (-e).toNat 48 ++ L)
  else if (L.length : Int) ≤ e then L ++ List.replicate (e - L.length).toNat 48
  else L.take e.toNat ++ 46 :: L.drop e.toNat
theorem itoa_len (n : Int) (h0 : -1000 ≤ n) (h1 : n ≤ 1000) : (Lib.itoa n).length ≤ 100 := by
  have key : ∀ k : _root_.Fin 2001, (Lib.itoa ((k.val : Int) - 1000)).length ≤ 100 := by decide +kernel
  have := key ⟨(n + 1000).toNat, by omega⟩
  have e : (((n + 1000).toNat : Nat) : Int) - 1000 = n := by omega
  simp only [e] at this
  exact this
set_option maxRecDepth 100000 in
set_option maxHeartbeats 2000000 in
theorem written_any (L : List UInt8) (e : Int) (hl1 : 1 ≤ L.length) (hl2 : L.length ≤ 18) (he1 : -401 ≤ e) (he2 : e ≤ 421) (w : World) (hU : UTab w) :
    Calls Tryz.prog 61 #[.string (baL L), .int .i64 e] w fun en w' => en = .returned (.string (baL (wrL L e))) ∧ Fr noB w w' := by
  have hzL : (baL L).size = L.length := baL_size L
  unfold wrL
  by_cases c1 : e < -5 ∨ 21 < e
  · rw [if_pos c1]
    have HI : Hid (∀ W, Fr noB w W → Calls Tryz.prog 39 #[.int .i64 (e - 1)] W fun en w' => en = .returned (.string (baL (Lib.itoa (e - 1)))) ∧ Fr noB W w') := fun W hW => itoaI_any (e - 1) (by omega) (by omega) W (hU.fr hW)
    have HP := pointed_any (L.take 1) (L.drop 1) (by rw [List.length_take]; omega) (by rw [List.length_drop]; omega)
    have x1 : (baL L).extract 0 1 = baL (L.take 1) := by rw [baL_cut]; simp
    have x2 : (baL L).extract 1 L.length = baL (L.drop 1) := by rw [baL_cut]; simp
    have hlenP : ((if (L.drop 1).isEmpty = true then L.take 1 else L.take 1 ++ 46 :: L.drop 1) : List UInt8).length ≤ 100 := by split <;> simp <;> omega
    have hlenI := itoa_len (e - 1) (by omega) (by omega)
    generalize (if (L.drop 1).isEmpty = true then L.take 1 else L.take 1 ++ 46 :: L.drop 1) = PP at *
    generalize Lib.itoa (e - 1) = II at *
    have a1 : baL PP ++ ⟨#[69]⟩ = baL (PP ++ [69]) := baL_append PP [69]
    have a2 : baL (PP ++ [69]) ++ baL II = baL (PP ++ 69 :: II) := by rw [baL_append]; simp
    have z1 : (baL PP).size ≤ 100 := by rw [baL_size]; exact hlenP
    have z2 : (baL II).size ≤ 100 := by rw [baL_size]; exact hlenI
    have z3 : (baL (PP ++ [69])).size ≤ 101 := by rw [baL_size]; simp; exact hlenP
    generalize baL PP = P1 at *
    generalize baL (PP ++ [69]) = P2 at *
    generalize baL (PP ++ 69 :: II) = P3 at *
    generalize baL II = I1 at *
    generalize baL (L.take 1) = D0 at *
    generalize baL (L.drop 1) = D1 at *
    generalize baL L = D at *
    have hc1 : (decide (e < -5) || decide (21 < e)) = true := by simpa using c1
    clear hU
    go_enter Tryz.func61, Tryz.ntmps61
    go_wp2_with fail
    all_goals
      go_region_with (first
        | (go_at_call 93; with_reducible refine (HP _).mono ?_; rintro en wa ⟨rfl, hwa⟩; subst hwa)
        | (go_at_call 39; with_reducible refine (HI.out _ (by first | exact (Fr.refl noB w).drew | exact Fr.refl noB w)).mono ?_; rintro en wb ⟨rfl, hFb⟩))
    all_goals
      go_wp2_with fail
      go_ret
      refine ⟨rfl, ?_⟩
      repeat first | assumption | exact (Fr.refl _ _).drew | refine Fr.trans ?_ (by assumption)
  rw [if_neg c1]
  have d1 : (decide (e < -5) || decide (21 < e)) = false := by simpa using c1
  have d2 : -5 ≤ e := by omega
  have d3 : e ≤ 21 := by omega
  by_cases c2 : e ≤ 0
  · rw [if_pos c2]
    obtain ⟨k, rfl⟩ : ∃ k : Nat, e = -(k : Int) := ⟨(-e).toNat, by omega⟩
    have HR := repeat_any k (by omega)
    have HP := pointed_any [48] (List.replicate k 48 ++ L) (by simp) (by simp; omega)
    rw [if_neg (by cases L <;> simp_all)] at HP
    rw [show (-(-(k : Int))).toNat = k by omega]
    have a1 : baL (List.replicate k 48) ++ baL L = baL (List.replicate k 48 ++ L) := baL_append _ _
    have z1 : (baL (List.replicate k 48)).size = k := by rw [baL_size]; simp
    have c48 : baL [48] = ⟨#[48]⟩ := rfl
    rw [c48] at HP
    have hfin : [48] ++ 46 :: (List.replicate k 48 ++ L) = 48 :: 46 :: (List.replicate k 48 ++ L) := rfl
    rw [hfin] at HP
    generalize baL (48 :: 46 :: (List.replicate k 48 ++ L)) = RR at *
    generalize baL (List.replicate k 48 ++ L) = R1 at *
    generalize baL (List.replicate k 48) = R0 at *
    generalize baL L = D at *
    have d4 : ¬ (-(k : Int) < -5) := by omega
    clear hU c1 hfin c48 d1
    go_enter Tryz.func61, Tryz.ntmps61
    go_wp2_with (first
      | (go_at_call 94; with_reducible refine (HR _).mono ?_; rintro en wa ⟨rfl, hFa⟩)
      | (go_at_call 93; with_reducible refine (HP _).mono ?_; rintro en wb ⟨rfl, hwb⟩; subst hwb))
    go_ret
    exact ⟨rfl, hFa⟩
  rw [if_neg c2]
  obtain ⟨k, rfl⟩ : ∃ k : Nat, e = (k : Int) := ⟨e.toNat, by omega⟩
  by_cases c3 : (L.length : Int) ≤ (k : Int)
  · rw [if_pos c3]
    obtain ⟨j, hj⟩ : ∃ j : Nat, k = L.length + j := ⟨k - L.length, by omega⟩
    have HR := repeat_any j (by omega)
    rw [show ((k : Int) - (L.length : Int)).toNat = j by omega]
    have hsub : (k : Int) - (L.length : Int) = (j : Int) := by omega
    have a1 : baL L ++ baL (List.replicate j 48) = baL (L ++ List.replicate j 48) := baL_append _ _
    have z1 : (baL (List.replicate j 48)).size = j := by rw [baL_size]; simp
    have hj2 : j ≤ 21 := by omega
    generalize baL (L ++ List.replicate j 48) = RR at *
    generalize baL (List.replicate j 48) = R0 at *
    generalize baL L = D at *
    clear hU c1 d1 hj
    generalize L.length = nl at *
    go_enter Tryz.func61, Tryz.ntmps61
    go_wp2_with (first
      | (go_at_call 94; with_reducible refine (HR _).mono ?_; rintro en wa ⟨rfl, hFa⟩))
    go_ret
    exact ⟨rfl, hFa⟩
  · rw [if_neg c3]
    have ck : k < L.length := by omega
    have HP := pointed_any (L.take k) (L.drop k) (by rw [List.length_take]; omega) (by rw [List.length_drop]; omega)
    rw [if_neg (by rw [List.isEmpty_iff]; intro h; have := congrArg List.length h; rw [List.length_drop] at this; simp at this; omega)] at HP
    rw [show ((k : Int)).toNat = k by omega]
    have x1 : (baL L).extract 0 k = baL (L.take k) := by rw [baL_cut]; simp
    have x2 : (baL L).extract k L.length = baL (L.drop k) := by rw [baL_cut]; simp
    generalize baL (L.take k ++ 46 :: L.drop k) = RR at *
    generalize baL (L.take k) = D0 at *
    generalize baL (L.drop k) = D1 at *
    generalize baL L = D at *
    have k1 : 1 ≤ k := by omega
    clear hU c1 d1
    generalize L.length = nl at *
    go_enter Tryz.func61, Tryz.ntmps61
    go_wp2_with fail
    go_region_with (first
        | (go_at_call 93; with_reducible refine (HP _).mono ?_; rintro en wa ⟨rfl, hwa⟩; subst hwa))
    all_goals
      go_wp2_with fail
      go_ret
      refine ⟨rfl, ?_⟩
      repeat first | assumption | exact (Fr.refl _ _).drew | refine Fr.trans ?_ (by assumption)
set_option maxRecDepth 100000 in
theorem signed_any (b : Bool) (s : ByteArray) (hs : s.size ≤ 1000) (w : World) : Calls Tryz.prog 60 #[.bool b, .string s] w fun e w' => e = .returned (.string (if b = true then ⟨#[45]⟩ ++ s else s)) ∧ w' = w := by
  cases b
  all_goals
    go_enter Tryz.func60, Tryz.ntmps60
    go_wp2_with fail
    go_ret
    exact ⟨rfl, rfl⟩
#print axioms signed_any
#print axioms written_any
end Go.Proofs.YtkohohjpnlhioaaGreatDoor
/- Digits and Text of any float: the program's; Digits of the document. -/
namespace Go.Proofs.YtkohohjpnlhioaaGreatDoor
open Go.RowKit Ieee Go.Shelf

def absN (x : Nat) : Nat := x % 9223372036854775808
def dgL (x : Nat) : List UInt8 := if finB x = false then [] else if absN x = 0 then [48] else (digF (absN x)).map UInt8.ofNat
def dgE (x : Nat) : Int := if finB x = false then 0 else if absN x = 0 then 1 else dpF (absN x)
def dgN (x : Nat) : Int := if finB x = false then 80 else 0
theorem dg_facts (x : Nat) (hf : finB x = true) : 1 ≤ (dgL x).length ∧ (dgL x).length ≤ 18 ∧ -401 ≤ dgE x ∧ dgE x ≤ 421 ∧ dgN x = 0 := by
  have hfn : ¬ finB x = false := by simp [hf]
  have hn : dgN x = 0 := by unfold dgN; rw [if_neg hfn]
  by_cases h0 : absN x = 0
  · have e1 : dgL x = [48] := by unfold dgL; rw [if_neg hfn, if_pos h0]
    have e2 : dgE x = 1 := by unfold dgE; rw [if_neg hfn, if_pos h0]
    rw [e1, e2, hn]
    decide
  · have e1 : dgL x = (digF (absN x)).map UInt8.ofNat := by unfold dgL; rw [if_neg hfn, if_neg h0]
    have e2 : dgE x = dpF (absN x) := by unfold dgE; rw [if_neg hfn, if_neg h0]
    rw [e1, e2, hn, List.length_map]
    have h1 : 0 < absN x := by omega
    have h2 : absN x < 9218868437227405312 := (fin_iff x).1 hf
    have l := digF_len (absN x) h1 h2
    have r := dpF_range (absN x) h1 h2
    exact ⟨l.1, l.2.1, by omega, by omega, rfl⟩
set_option maxRecDepth 100000 in
set_option maxHeartbeats 1000000 in
theorem pdigits_any (x : Nat) (w : World) (hx : x < 18446744073709551616) (hT : NTab w) :
    Calls Tryz.prog 59 #[.float .f64 x] w fun e w' => e = .returned (.tuple #[.string (baL (dgL x)), .int .i64 (dgE x), .int .i64 (dgN x)]) ∧ Fr noB w w' := by
  have HN := finite_any x hx
  cases hf : finB x with
  | false =>
    rw [hf] at HN
    rw [show dgL x = [] by unfold dgL; rw [if_pos hf], show dgE x = 0 by unfold dgE; rw [if_pos hf], show dgN x = 80 by unfold dgN; rw [if_pos hf]]
    clear hT hf
    go_enter Tryz.func59, Tryz.ntmps59
    go_wp2_with (go_at_call 89; refine (HN _).mono ?_; rintro e w1 ⟨rfl, rfl⟩)
    go_ret3
    exact ⟨rfl, Fr.refl _ _⟩
  | true =>
    have hfn : ¬ finB x = false := by simp [hf]
    by_cases h0 : absN x = 0
    · rw [show dgL x = [48] by unfold dgL; rw [if_neg hfn, if_pos h0], show dgE x = 1 by unfold dgE; rw [if_neg hfn, if_pos h0], show dgN x = 0 by unfold dgN; rw [if_neg hfn]]
      rw [hf] at HN
      have hz : (FloatKind.f64.format.order x 0 == some .eq) = true := by rw [order_zero x (fin_of hf)]; exact decide_eq_true h0
      clear hT hf hfn h0
      go_enter Tryz.func59, Tryz.ntmps59
      go_wp2_with (go_at_call 89; refine (HN _).mono ?_; rintro e w1 ⟨rfl, rfl⟩)
      go_ret3
      exact ⟨rfl, Fr.refl _ _⟩
    · rw [show dgL x = (digF (absN x)).map UInt8.ofNat by unfold dgL; rw [if_neg hfn, if_neg h0], show dgE x = dpF (absN x) by unfold dgE; rw [if_neg hfn, if_neg h0], show dgN x = 0 by unfold dgN; rw [if_neg hfn]]
      exact digits_pos x w hx (Nat.pos_of_ne_zero h0) ((fin_iff x).1 hf) hT
set_option maxRecDepth 100000 in
set_option maxHeartbeats 1000000 in
theorem rdigits_any (x : Nat) (w : World) (hx : x < 18446744073709551616) (hT : NTab w) :
    Calls Tryz.prog 37 #[.float .f64 x] w fun e w' => e = .returned (.tuple #[.string (baL (dgL x)), .int .i64 (dgE x), .int .i64 (dgN x)]) ∧ Fr noB w w' := by
  have HN := rfinite_any x
  cases hf : finB x with
  | false =>
    rw [hf] at HN
    rw [show dgL x = [] by unfold dgL; rw [if_pos hf], show dgE x = 0 by unfold dgE; rw [if_pos hf], show dgN x = 80 by unfold dgN; rw [if_pos hf]]
    clear hT hf
    go_enter Tryz.func37, Tryz.ntmps37
    go_wp2_with (go_at_call 65; refine (HN _).mono ?_; rintro e w1 ⟨rfl, m1, h1⟩; subst h1)
    go_ret3
    exact ⟨rfl, (Fr.refl _ _).drewN _⟩
  | true =>
    have hfn : ¬ finB x = false := by simp [hf]
    by_cases h0 : absN x = 0
    · rw [show dgL x = [48] by unfold dgL; rw [if_neg hfn, if_pos h0], show dgE x = 1 by unfold dgE; rw [if_neg hfn, if_pos h0], show dgN x = 0 by unfold dgN; rw [if_neg hfn]]
      rw [hf] at HN
      have hz : (FloatKind.f64.format.order x 0 == some .eq) = true := by rw [order_zero x (fin_of hf)]; exact decide_eq_true h0
      have hl := lt_zero x hx (fin_of hf)
      rw [decide_eq_false (show ¬ 9223372036854775808 < x by unfold absN at h0; omega)] at hl
      clear hT hf hfn h0
      go_enter Tryz.func37, Tryz.ntmps37
      go_wp2_with (go_at_call 65; refine (HN _).mono ?_; rintro e w1 ⟨rfl, m1, h1⟩; subst h1)
      go_ret3
      exact ⟨rfl, (Fr.refl _ _).drewN _⟩
    · rw [show dgL x = (digF (absN x)).map UInt8.ofNat by unfold dgL; rw [if_neg hfn, if_neg h0], show dgE x = dpF (absN x) by unfold dgE; rw [if_neg hfn, if_neg h0], show dgN x = 0 by unfold dgN; rw [if_neg hfn]]
      exact rdigits_pos x w hx (Nat.pos_of_ne_zero h0) ((fin_iff x).1 hf) hT
/-- A float's text. -/
def sgL (x : Nat) : List UInt8 := if 9223372036854775808 < x then [45] else []
def ttL (x : Nat) : List UInt8 := if finB x = false then [] else sgL x ++ wrL (dgL x) (dgE x)
theorem wrL_len (L : List UInt8) (e : Int) (hl2 : L.length ≤ 18) (he1 : -401 ≤ e) (he2 : e ≤ 421) : (wrL L e).length ≤ 200 := by
  unfold wrL
  have hi := itoa_len (e - 1) (by omega) (by omega)
  split
  · split <;> simp <;> omega
  · split
    · simp
      omega
    · split
      · simp
        omega
      · simp
        omega
set_option maxRecDepth 100000 in
set_option maxHeartbeats 1000000 in
theorem ptext_any (x : Nat) (w : World) (hx : x < 18446744073709551616) (hT : NTab w) :
    Calls Tryz.prog 32 #[.float .f64 x] w fun e w' => e = .returned (.tuple #[.string (baL (ttL x)), .int .i64 (dgN x)]) ∧ Fr noB w w' := by
  have HD := pdigits_any x w hx hT
  cases hf : finB x with
  | false =>
    have hn : dgN x = 80 := by unfold dgN; rw [if_pos hf]
    rw [show ttL x = [] by unfold ttL; rw [if_pos hf], hn]
    rw [hn] at HD
    generalize dgL x = DL at *
    generalize dgE x = DE at *
    clear hT hf hn
    go_enter Tryz.func32, Tryz.ntmps32
    go_wp2_with (go_at_call 59; refine HD.mono ?_; rintro e w1 ⟨rfl, hF1⟩)
    go_ret2
    exact ⟨rfl, hF1⟩
  | true =>
    obtain ⟨f1, f2, f3, f4, f5⟩ := dg_facts x hf
    have HW : Hid (∀ W, Fr noB w W → Calls Tryz.prog 61 #[.string (baL (dgL x)), .int .i64 (dgE x)] W fun en w' => en = .returned (.string (baL (wrL (dgL x) (dgE x)))) ∧ Fr noB W w') := fun W hW => written_any (dgL x) (dgE x) f1 f2 f3 f4 W (hT.u.fr hW)
    have hl := lt_zero x hx (fin_of hf)
    have hlen := wrL_len (dgL x) (dgE x) f2 f3 f4
    rw [f5] at HD ⊢
    rw [show ttL x = sgL x ++ wrL (dgL x) (dgE x) by unfold ttL; rw [if_neg (by simp [hf])]]
    generalize dgL x = DL at *
    generalize dgE x = DE at *
    generalize wrL DL DE = WR at *
    have HS := signed_any (decide (9223372036854775808 < x)) (baL WR) (by rw [baL_size]; omega)
    have hres : (if decide (9223372036854775808 < x) = true then ⟨#[45]⟩ ++ baL WR else baL WR) = baL (sgL x ++ WR) := by
      unfold sgL
      by_cases h : 9223372036854775808 < x
      · rw [if_pos (by simpa using h), if_pos h]
        exact baL_append [45] WR
      · rw [if_neg (by simpa using h), if_neg h]
        rfl
    rw [hres] at HS
    generalize baL (sgL x ++ WR) = RR at *
    generalize baL WR = WB at *
    generalize baL DL = DB at *
    generalize decide (9223372036854775808 < x) = neg at *
    clear hT hf f1 f2 f5 hres hlen
    go_enter Tryz.func32, Tryz.ntmps32
    go_wp2_with (first
      | (go_at_call 59; with_reducible refine HD.mono ?_; rintro e w1 ⟨rfl, hF1⟩)
      | (go_at_call 61; with_reducible refine (HW.out _ hF1).mono ?_; rintro e w2 ⟨rfl, hF2⟩)
      | (go_at_call 60; with_reducible refine (HS _).mono ?_; rintro e w3 ⟨rfl, h3⟩; subst h3))
    go_ret2
    exact ⟨rfl, hF1.trans hF2⟩
#print axioms ptext_any
#print axioms rdigits_any
end Go.Proofs.YtkohohjpnlhioaaGreatDoor
/- Text of any float: the document's. -/
namespace Go.Proofs.YtkohohjpnlhioaaGreatDoor
open Go.RowKit Ieee Go.Shelf

theorem baL_sz (L : List UInt8) {n : Nat} (h : L.length ≤ n) : (baL L).size ≤ n := by rw [baL_size]; exact h
set_option maxRecDepth 100000 in
set_option maxHeartbeats 4000000 in
theorem rtext_any (x : Nat) (w : World) (hx : x < 18446744073709551616) (hT : NTab w) :
    Calls Tryz.prog 18 #[.float .f64 x] w fun e w' => e = .returned (.tuple #[.string (baL (ttL x)), .int .i64 (dgN x)]) ∧ Fr noB w w' := by
  have HD := rdigits_any x w hx hT
  cases hf : finB x with
  | false =>
    have hn : dgN x = 80 := by unfold dgN; rw [if_pos hf]
    rw [show ttL x = [] by unfold ttL; rw [if_pos hf], hn]
    rw [hn] at HD
    generalize dgL x = DL at *
    generalize dgE x = DE at *
    clear hT hf hn
    go_enter Tryz.func18, Tryz.ntmps18
    go_wp2_with (go_at_call 37; refine HD.mono ?_; rintro e w1 ⟨rfl, hF1⟩)
    go_ret2
    exact ⟨rfl, hF1⟩
  | true =>
    obtain ⟨f1, f2, f3, f4, f5⟩ := dg_facts x hf
    have hl := lt_zero x hx (fin_of hf)
    rw [f5] at HD ⊢
    rw [show ttL x = sgL x ++ wrL (dgL x) (dgE x) by unfold ttL; rw [if_neg (by simp [hf])]]
    have HI : Hid (∀ W, Fr noB w W → Calls Tryz.prog 39 #[.int .i64 (dgE x - 1)] W fun en w' => en = .returned (.string (baL (Lib.itoa (dgE x - 1)))) ∧ Fr noB W w') := fun W hW => itoaI_any (dgE x - 1) (by omega) (by omega) W (hT.u.fr hW)
    have hlI := itoa_len (dgE x - 1) (by omega) (by omega)
    have HNO := noughts_any
    generalize dgL x = L at *
    generalize dgE x = e at *
    have hzL : (baL L).size = L.length := baL_size L
    clear hT hf f5
    by_cases hs : 9223372036854775808 < x
    · rw [show sgL x = [45] by unfold sgL; rw [if_pos hs]]
      rw [decide_eq_true hs] at hl
      clear hs
      unfold wrL
      by_cases c1 : e < -5 ∨ 21 < e
      · rw [if_pos c1]
        have q1 : (decide (1 ≤ e) && decide (e ≤ 21)) = false := by simp; omega
        have q3 : (decide (-5 ≤ e) && decide (e ≤ 0)) = false := by simp; omega
        have c1' : e < -5 ∨ 21 < e := c1
        have x1 : (baL L).extract 0 1 = baL (L.take 1) := by rw [baL_cut]; simp
        have x2 : (baL L).extract 1 L.length = baL (L.drop 1) := by rw [baL_cut]; simp
        have a1 : (⟨#[45]⟩ : ByteArray) ++ baL (L.take 1) = baL ([45] ++ L.take 1) := baL_append [45] _
        have z0 := baL_sz (L.take 1) (n := 18) (by rw [List.length_take]; omega)
        have z1 := baL_sz ([45] ++ L.take 1) (n := 20) (by simp; omega)
        have z2 := baL_sz (Lib.itoa (e - 1)) hlI
        by_cases cn : L.length = 1
        · have hemp : (L.drop 1).isEmpty = true := by rw [List.isEmpty_iff]; exact List.drop_of_length_le (by omega)
          rw [if_pos hemp]
          have a2 : baL ([45] ++ L.take 1) ++ ⟨#[69]⟩ = baL ([45] ++ L.take 1 ++ [69]) := baL_append _ [69]
          have a3 : baL ([45] ++ L.take 1 ++ [69]) ++ baL (Lib.itoa (e - 1)) = baL ([45] ++ (L.take 1 ++ 69 :: Lib.itoa (e - 1))) := by rw [baL_append]; simp
          have z3 := baL_sz ([45] ++ L.take 1 ++ [69]) (n := 30) (by simp; omega)
          generalize baL ([45] ++ (L.take 1 ++ 69 :: Lib.itoa (e - 1))) = R3 at *
          generalize baL ([45] ++ L.take 1 ++ [69]) = R2 at *
          generalize baL ([45] ++ L.take 1) = R1 at *
          generalize baL (Lib.itoa (e - 1)) = IB at *
          generalize baL (L.take 1) = D0 at *
          generalize baL (L.drop 1) = D1 at *
          generalize baL (L) = D at *
          rw [cn] at hzL x2
          clear c1 hemp cn f1 f2 hlI HNO
          rcases c1' with c | c
          · go_enter Tryz.func18, Tryz.ntmps18
            go_wp2_with (first | (go_at_call 37; with_reducible refine HD.mono ?_; rintro en w1 ⟨rfl, hF1⟩) | (go_at_call 39; with_reducible refine (HI.out _ hF1).mono ?_; rintro en w3 ⟨rfl, hF3⟩))
            go_ret2
            exact ⟨rfl, hF1.trans hF3⟩
          · go_enter Tryz.func18, Tryz.ntmps18
            go_wp2_with (first | (go_at_call 37; with_reducible refine HD.mono ?_; rintro en w1 ⟨rfl, hF1⟩) | (go_at_call 39; with_reducible refine (HI.out _ hF1).mono ?_; rintro en w3 ⟨rfl, hF3⟩))
            go_ret2
            exact ⟨rfl, hF1.trans hF3⟩
        · have hemp : ¬ (L.drop 1).isEmpty = true := by rw [List.isEmpty_iff]; intro h; have := congrArg List.length h; rw [List.length_drop] at this; simp at this; omega
          rw [if_neg hemp]
          have b1 : (⟨#[46]⟩ : ByteArray) ++ baL (L.drop 1) = baL (46 :: L.drop 1) := baL_append [46] _
          have b2 : baL ([45] ++ L.take 1) ++ baL (46 :: L.drop 1) = baL ([45] ++ (L.take 1 ++ 46 :: L.drop 1)) := by rw [baL_append]; simp
          have a2 : baL ([45] ++ (L.take 1 ++ 46 :: L.drop 1)) ++ ⟨#[69]⟩ = baL ([45] ++ (L.take 1 ++ 46 :: L.drop 1) ++ [69]) := baL_append _ [69]
          have a3 : baL ([45] ++ (L.take 1 ++ 46 :: L.drop 1) ++ [69]) ++ baL (Lib.itoa (e - 1)) = baL ([45] ++ ((L.take 1 ++ 46 :: L.drop 1) ++ 69 :: Lib.itoa (e - 1))) := by rw [baL_append]; simp
          have z3 := baL_sz (L.drop 1) (n := 18) (by rw [List.length_drop]; omega)
          have z4 := baL_sz (46 :: L.drop 1) (n := 20) (by simp; omega)
          have z5 := baL_sz ([45] ++ (L.take 1 ++ 46 :: L.drop 1)) (n := 60) (by simp; omega)
          have z6 := baL_sz ([45] ++ (L.take 1 ++ 46 :: L.drop 1) ++ [69]) (n := 70) (by simp; omega)
          generalize baL ([45] ++ ((L.take 1 ++ 46 :: L.drop 1) ++ 69 :: Lib.itoa (e - 1))) = R5 at *
          generalize baL ([45] ++ (L.take 1 ++ 46 :: L.drop 1) ++ [69]) = R4 at *
          generalize baL ([45] ++ (L.take 1 ++ 46 :: L.drop 1)) = R3 at *
          generalize baL (46 :: L.drop 1) = R2 at *
          generalize baL ([45] ++ L.take 1) = R1 at *
          generalize baL (Lib.itoa (e - 1)) = IB at *
          generalize baL (L.take 1) = D0 at *
          generalize baL (L.drop 1) = D1 at *
          generalize baL (L) = D at *
          have cn2 : 1 < L.length := by omega
          clear c1 hemp cn hlI HNO
          generalize L.length = nl at *
          rcases c1' with c | c
          · go_enter Tryz.func18, Tryz.ntmps18
            go_wp2_with (first | (go_at_call 37; with_reducible refine HD.mono ?_; rintro en w1 ⟨rfl, hF1⟩) | (go_at_call 39; with_reducible refine (HI.out _ hF1).mono ?_; rintro en w3 ⟨rfl, hF3⟩))
            go_ret2
            exact ⟨rfl, hF1.trans hF3⟩
          · go_enter Tryz.func18, Tryz.ntmps18
            go_wp2_with (first | (go_at_call 37; with_reducible refine HD.mono ?_; rintro en w1 ⟨rfl, hF1⟩) | (go_at_call 39; with_reducible refine (HI.out _ hF1).mono ?_; rintro en w3 ⟨rfl, hF3⟩))
            go_ret2
            exact ⟨rfl, hF1.trans hF3⟩
      rw [if_neg c1]
      have d1 : -5 ≤ e := by omega
      have d2 : e ≤ 21 := by omega
      clear c1 HI hlI
      by_cases c2 : e ≤ 0
      · rw [if_pos c2]
        have q1 : (decide (1 ≤ e) && decide (e ≤ 21)) = false := by simp; omega
        have q3 : (decide (-5 ≤ e) && decide (e ≤ 0)) = true := by simp; omega
        obtain ⟨k, rfl⟩ : ∃ k : Nat, e = -(k : Int) := ⟨(-e).toNat, by omega⟩
        have HN2 := HNO (k : Int) (by omega) (by omega)
        rw [show ((k : Int)).toNat = k by omega] at HN2
        rw [show (-(-(k : Int))).toNat = k by omega]
        have hng : -(-(k : Int)) = (k : Int) := by omega
        have a1 : (⟨#[45]⟩ : ByteArray) ++ ⟨#[48, 46]⟩ = baL ([45] ++ [48, 46]) := baL_append [45] [48, 46]
        have a2 : baL ([45] ++ [48, 46]) ++ baL (List.replicate k 48) = baL ([45] ++ [48, 46] ++ List.replicate k 48) := baL_append _ _
        have a3 : baL ([45] ++ [48, 46] ++ List.replicate k 48) ++ baL L = baL ([45] ++ 48 :: 46 :: (List.replicate k 48 ++ L)) := by rw [baL_append]; simp
        have z1 := baL_sz ([45] ++ [48, 46]) (n := 10) (by simp)
        have z2 := baL_sz (List.replicate k (48 : UInt8)) (n := 10) (by simp; omega)
        have z3 := baL_sz ([45] ++ [48, 46] ++ List.replicate k 48) (n := 30) (by simp; omega)
        generalize baL ([45] ++ 48 :: 46 :: (List.replicate k 48 ++ L)) = R3 at *
        generalize baL ([45] ++ [48, 46] ++ List.replicate k 48) = R2 at *
        generalize baL ([45] ++ [48, 46]) = R1 at *
        generalize baL (List.replicate k 48) = NB at *
        generalize baL (L) = D at *
        clear HNO
        generalize L.length = nl at *
        go_enter Tryz.func18, Tryz.ntmps18
        go_wp2_with (first | (go_at_call 37; with_reducible refine HD.mono ?_; rintro en w1 ⟨rfl, hF1⟩) | (go_at_call 38; with_reducible refine (HN2 _).mono ?_; rintro en w2 ⟨rfl, h2⟩; subst h2))
        go_ret2
        exact ⟨rfl, hF1⟩
      rw [if_neg c2]
      obtain ⟨k, rfl⟩ : ∃ k : Nat, e = (k : Int) := ⟨e.toNat, by omega⟩
      have q1 : (decide (1 ≤ (k : Int)) && decide ((k : Int) ≤ 21)) = true := by simp; omega
      have k1 : 1 ≤ k := by omega
      have k2 : k ≤ 21 := by omega
      clear c2 d1 d2
      by_cases c3 : (L.length : Int) ≤ (k : Int)
      · rw [if_pos c3]
        obtain ⟨j, hj⟩ : ∃ j : Nat, k = L.length + j := ⟨k - L.length, by omega⟩
        have HN2 := HNO (j : Int) (by omega) (by omega)
        rw [show ((j : Int)).toNat = j by omega] at HN2
        rw [show ((k : Int) - (L.length : Int)).toNat = j by omega]
        have hsub : (k : Int) - (L.length : Int) = (j : Int) := by omega
        have a1 : (⟨#[45]⟩ : ByteArray) ++ baL L = baL ([45] ++ L) := baL_append [45] L
        have a2 : baL ([45] ++ L) ++ baL (List.replicate j 48) = baL ([45] ++ (L ++ List.replicate j 48)) := by rw [baL_append]; simp
        have z1 := baL_sz ([45] ++ L) (n := 20) (by simp; omega)
        have z2 := baL_sz (List.replicate j (48 : UInt8)) (n := 30) (by simp; omega)
        generalize baL ([45] ++ (L ++ List.replicate j 48)) = R2 at *
        generalize baL ([45] ++ L) = R1 at *
        generalize baL (List.replicate j 48) = NB at *
        generalize baL (L) = D at *
        clear HNO hj
        generalize L.length = nl at *
        go_enter Tryz.func18, Tryz.ntmps18
        go_wp2_with (first | (go_at_call 37; with_reducible refine HD.mono ?_; rintro en w1 ⟨rfl, hF1⟩) | (go_at_call 38; with_reducible refine (HN2 _).mono ?_; rintro en w2 ⟨rfl, h2⟩; subst h2))
        go_ret2
        exact ⟨rfl, hF1⟩
      · rw [if_neg c3, show ((k : Int)).toNat = k by omega]
        have ck : k < L.length := by omega
        have q2 : decide ((L.length : Int) ≤ (k : Int)) = false := by simp; omega
        have x1 : (baL L).extract 0 k = baL (L.take k) := by rw [baL_cut]; simp
        have x2 : (baL L).extract k L.length = baL (L.drop k) := by rw [baL_cut]; simp
        have a1 : (⟨#[45]⟩ : ByteArray) ++ baL (L.take k) = baL ([45] ++ L.take k) := baL_append [45] _
        have a2 : baL ([45] ++ L.take k) ++ ⟨#[46]⟩ = baL ([45] ++ L.take k ++ [46]) := baL_append _ [46]
        have a3 : baL ([45] ++ L.take k ++ [46]) ++ baL (L.drop k) = baL ([45] ++ (L.take k ++ 46 :: L.drop k)) := by rw [baL_append]; simp
        have z0 := baL_sz (L.take k) (n := 18) (by rw [List.length_take]; omega)
        have z1 := baL_sz ([45] ++ L.take k) (n := 20) (by simp; omega)
        have z2 := baL_sz ([45] ++ L.take k ++ [46]) (n := 30) (by simp; omega)
        have z3 := baL_sz (L.drop k) (n := 18) (by rw [List.length_drop]; omega)
        generalize baL ([45] ++ (L.take k ++ 46 :: L.drop k)) = R3 at *
        generalize baL ([45] ++ L.take k ++ [46]) = R2 at *
        generalize baL ([45] ++ L.take k) = R1 at *
        generalize baL (L.take k) = D0 at *
        generalize baL (L.drop k) = D1 at *
        generalize baL (L) = D at *
        clear HNO c3
        generalize L.length = nl at *
        go_enter Tryz.func18, Tryz.ntmps18
        go_wp2_with (first | (go_at_call 37; with_reducible refine HD.mono ?_; rintro en w1 ⟨rfl, hF1⟩))
        go_region
        all_goals
          go_wp2_with fail
          go_ret2
          exact ⟨rfl, by first | exact hF1 | exact hF1.drew⟩
    · rw [show sgL x = [] by unfold sgL; rw [if_neg hs]]
      rw [decide_eq_false hs] at hl
      clear hs
      unfold wrL
      by_cases c1 : e < -5 ∨ 21 < e
      · rw [if_pos c1]
        have q1 : (decide (1 ≤ e) && decide (e ≤ 21)) = false := by simp; omega
        have q3 : (decide (-5 ≤ e) && decide (e ≤ 0)) = false := by simp; omega
        have c1' : e < -5 ∨ 21 < e := c1
        have x1 : (baL L).extract 0 1 = baL (L.take 1) := by rw [baL_cut]; simp
        have x2 : (baL L).extract 1 L.length = baL (L.drop 1) := by rw [baL_cut]; simp
        have a1 : (⟨#[]⟩ : ByteArray) ++ baL (L.take 1) = baL ([] ++ L.take 1) := baL_append [] _
        have z0 := baL_sz (L.take 1) (n := 18) (by rw [List.length_take]; omega)
        have z1 := baL_sz ([] ++ L.take 1) (n := 20) (by simp; omega)
        have z2 := baL_sz (Lib.itoa (e - 1)) hlI
        by_cases cn : L.length = 1
        · have hemp : (L.drop 1).isEmpty = true := by rw [List.isEmpty_iff]; exact List.drop_of_length_le (by omega)
          rw [if_pos hemp]
          have a2 : baL ([] ++ L.take 1) ++ ⟨#[69]⟩ = baL ([] ++ L.take 1 ++ [69]) := baL_append _ [69]
          have a3 : baL ([] ++ L.take 1 ++ [69]) ++ baL (Lib.itoa (e - 1)) = baL ([] ++ (L.take 1 ++ 69 :: Lib.itoa (e - 1))) := by rw [baL_append]; simp
          have z3 := baL_sz ([] ++ L.take 1 ++ [69]) (n := 30) (by simp; omega)
          generalize baL ([] ++ (L.take 1 ++ 69 :: Lib.itoa (e - 1))) = R3 at *
          generalize baL ([] ++ L.take 1 ++ [69]) = R2 at *
          generalize baL ([] ++ L.take 1) = R1 at *
          generalize baL (Lib.itoa (e - 1)) = IB at *
          generalize baL (L.take 1) = D0 at *
          generalize baL (L.drop 1) = D1 at *
          generalize baL (L) = D at *
          rw [cn] at hzL x2
          clear c1 hemp cn f1 f2 hlI HNO
          rcases c1' with c | c
          · go_enter Tryz.func18, Tryz.ntmps18
            go_wp2_with (first | (go_at_call 37; with_reducible refine HD.mono ?_; rintro en w1 ⟨rfl, hF1⟩) | (go_at_call 39; with_reducible refine (HI.out _ hF1).mono ?_; rintro en w3 ⟨rfl, hF3⟩))
            go_ret2
            exact ⟨rfl, hF1.trans hF3⟩
          · go_enter Tryz.func18, Tryz.ntmps18
            go_wp2_with (first | (go_at_call 37; with_reducible refine HD.mono ?_; rintro en w1 ⟨rfl, hF1⟩) | (go_at_call 39; with_reducible refine (HI.out _ hF1).mono ?_; rintro en w3 ⟨rfl, hF3⟩))
            go_ret2
            exact ⟨rfl, hF1.trans hF3⟩
        · have hemp : ¬ (L.drop 1).isEmpty = true := by rw [List.isEmpty_iff]; intro h; have := congrArg List.length h; rw [List.length_drop] at this; simp at this; omega
          rw [if_neg hemp]
          have b1 : (⟨#[46]⟩ : ByteArray) ++ baL (L.drop 1) = baL (46 :: L.drop 1) := baL_append [46] _
          have b2 : baL ([] ++ L.take 1) ++ baL (46 :: L.drop 1) = baL ([] ++ (L.take 1 ++ 46 :: L.drop 1)) := by rw [baL_append]; simp
          have a2 : baL ([] ++ (L.take 1 ++ 46 :: L.drop 1)) ++ ⟨#[69]⟩ = baL ([] ++ (L.take 1 ++ 46 :: L.drop 1) ++ [69]) := baL_append _ [69]
          have a3 : baL ([] ++ (L.take 1 ++ 46 :: L.drop 1) ++ [69]) ++ baL (Lib.itoa (e - 1)) = baL ([] ++ ((L.take 1 ++ 46 :: L.drop 1) ++ 69 :: Lib.itoa (e - 1))) := by rw [baL_append]; simp
          have z3 := baL_sz (L.drop 1) (n := 18) (by rw [List.length_drop]; omega)
          have z4 := baL_sz (46 :: L.drop 1) (n := 20) (by simp; omega)
          have z5 := baL_sz ([] ++ (L.take 1 ++ 46 :: L.drop 1)) (n := 60) (by simp; omega)
          have z6 := baL_sz ([] ++ (L.take 1 ++ 46 :: L.drop 1) ++ [69]) (n := 70) (by simp; omega)
          generalize baL ([] ++ ((L.take 1 ++ 46 :: L.drop 1) ++ 69 :: Lib.itoa (e - 1))) = R5 at *
          generalize baL ([] ++ (L.take 1 ++ 46 :: L.drop 1) ++ [69]) = R4 at *
          generalize baL ([] ++ (L.take 1 ++ 46 :: L.drop 1)) = R3 at *
          generalize baL (46 :: L.drop 1) = R2 at *
          generalize baL ([] ++ L.take 1) = R1 at *
          generalize baL (Lib.itoa (e - 1)) = IB at *
          generalize baL (L.take 1) = D0 at *
          generalize baL (L.drop 1) = D1 at *
          generalize baL (L) = D at *
          have cn2 : 1 < L.length := by omega
          clear c1 hemp cn hlI HNO
          generalize L.length = nl at *
          rcases c1' with c | c
          · go_enter Tryz.func18, Tryz.ntmps18
            go_wp2_with (first | (go_at_call 37; with_reducible refine HD.mono ?_; rintro en w1 ⟨rfl, hF1⟩) | (go_at_call 39; with_reducible refine (HI.out _ hF1).mono ?_; rintro en w3 ⟨rfl, hF3⟩))
            go_ret2
            exact ⟨rfl, hF1.trans hF3⟩
          · go_enter Tryz.func18, Tryz.ntmps18
            go_wp2_with (first | (go_at_call 37; with_reducible refine HD.mono ?_; rintro en w1 ⟨rfl, hF1⟩) | (go_at_call 39; with_reducible refine (HI.out _ hF1).mono ?_; rintro en w3 ⟨rfl, hF3⟩))
            go_ret2
            exact ⟨rfl, hF1.trans hF3⟩
      rw [if_neg c1]
      have d1 : -5 ≤ e := by omega
      have d2 : e ≤ 21 := by omega
      clear c1 HI hlI
      by_cases c2 : e ≤ 0
      · rw [if_pos c2]
        have q1 : (decide (1 ≤ e) && decide (e ≤ 21)) = false := by simp; omega
        have q3 : (decide (-5 ≤ e) && decide (e ≤ 0)) = true := by simp; omega
        obtain ⟨k, rfl⟩ : ∃ k : Nat, e = -(k : Int) := ⟨(-e).toNat, by omega⟩
        have HN2 := HNO (k : Int) (by omega) (by omega)
        rw [show ((k : Int)).toNat = k by omega] at HN2
        rw [show (-(-(k : Int))).toNat = k by omega]
        have hng : -(-(k : Int)) = (k : Int) := by omega
        have a1 : (⟨#[]⟩ : ByteArray) ++ ⟨#[48, 46]⟩ = baL ([] ++ [48, 46]) := baL_append [] [48, 46]
        have a2 : baL ([] ++ [48, 46]) ++ baL (List.replicate k 48) = baL ([] ++ [48, 46] ++ List.replicate k 48) := baL_append _ _
        have a3 : baL ([] ++ [48, 46] ++ List.replicate k 48) ++ baL L = baL ([] ++ 48 :: 46 :: (List.replicate k 48 ++ L)) := by rw [baL_append]; simp
        have z1 := baL_sz ([] ++ [48, 46]) (n := 10) (by simp)
        have z2 := baL_sz (List.replicate k (48 : UInt8)) (n := 10) (by simp; omega)
        have z3 := baL_sz ([] ++ [48, 46] ++ List.replicate k 48) (n := 30) (by simp; omega)
        generalize baL ([] ++ 48 :: 46 :: (List.replicate k 48 ++ L)) = R3 at *
        generalize baL ([] ++ [48, 46] ++ List.replicate k 48) = R2 at *
        generalize baL ([] ++ [48, 46]) = R1 at *
        generalize baL (List.replicate k 48) = NB at *
        generalize baL (L) = D at *
        clear HNO
        generalize L.length = nl at *
        go_enter Tryz.func18, Tryz.ntmps18
        go_wp2_with (first | (go_at_call 37; with_reducible refine HD.mono ?_; rintro en w1 ⟨rfl, hF1⟩) | (go_at_call 38; with_reducible refine (HN2 _).mono ?_; rintro en w2 ⟨rfl, h2⟩; subst h2))
        go_ret2
        exact ⟨rfl, hF1⟩
      rw [if_neg c2]
      obtain ⟨k, rfl⟩ : ∃ k : Nat, e = (k : Int) := ⟨e.toNat, by omega⟩
      have q1 : (decide (1 ≤ (k : Int)) && decide ((k : Int) ≤ 21)) = true := by simp; omega
      have k1 : 1 ≤ k := by omega
      have k2 : k ≤ 21 := by omega
      clear c2 d1 d2
      by_cases c3 : (L.length : Int) ≤ (k : Int)
      · rw [if_pos c3]
        obtain ⟨j, hj⟩ : ∃ j : Nat, k = L.length + j := ⟨k - L.length, by omega⟩
        have HN2 := HNO (j : Int) (by omega) (by omega)
        rw [show ((j : Int)).toNat = j by omega] at HN2
        rw [show ((k : Int) - (L.length : Int)).toNat = j by omega]
        have hsub : (k : Int) - (L.length : Int) = (j : Int) := by omega
        have a1 : (⟨#[]⟩ : ByteArray) ++ baL L = baL ([] ++ L) := baL_append [] L
        have a2 : baL ([] ++ L) ++ baL (List.replicate j 48) = baL ([] ++ (L ++ List.replicate j 48)) := by rw [baL_append]; simp
        have z1 := baL_sz ([] ++ L) (n := 20) (by simp; omega)
        have z2 := baL_sz (List.replicate j (48 : UInt8)) (n := 30) (by simp; omega)
        generalize baL ([] ++ (L ++ List.replicate j 48)) = R2 at *
        generalize baL ([] ++ L) = R1 at *
        generalize baL (List.replicate j 48) = NB at *
        generalize baL (L) = D at *
        clear HNO hj
        generalize L.length = nl at *
        go_enter Tryz.func18, Tryz.ntmps18
        go_wp2_with (first | (go_at_call 37; with_reducible refine HD.mono ?_; rintro en w1 ⟨rfl, hF1⟩) | (go_at_call 38; with_reducible refine (HN2 _).mono ?_; rintro en w2 ⟨rfl, h2⟩; subst h2))
        go_ret2
        exact ⟨rfl, hF1⟩
      · rw [if_neg c3, show ((k : Int)).toNat = k by omega]
        have ck : k < L.length := by omega
        have q2 : decide ((L.length : Int) ≤ (k : Int)) = false := by simp; omega
        have x1 : (baL L).extract 0 k = baL (L.take k) := by rw [baL_cut]; simp
        have x2 : (baL L).extract k L.length = baL (L.drop k) := by rw [baL_cut]; simp
        have a1 : (⟨#[]⟩ : ByteArray) ++ baL (L.take k) = baL ([] ++ L.take k) := baL_append [] _
        have a2 : baL ([] ++ L.take k) ++ ⟨#[46]⟩ = baL ([] ++ L.take k ++ [46]) := baL_append _ [46]
        have a3 : baL ([] ++ L.take k ++ [46]) ++ baL (L.drop k) = baL ([] ++ (L.take k ++ 46 :: L.drop k)) := by rw [baL_append]; simp
        have z0 := baL_sz (L.take k) (n := 18) (by rw [List.length_take]; omega)
        have z1 := baL_sz ([] ++ L.take k) (n := 20) (by simp; omega)
        have z2 := baL_sz ([] ++ L.take k ++ [46]) (n := 30) (by simp; omega)
        have z3 := baL_sz (L.drop k) (n := 18) (by rw [List.length_drop]; omega)
        generalize baL ([] ++ (L.take k ++ 46 :: L.drop k)) = R3 at *
        generalize baL ([] ++ L.take k ++ [46]) = R2 at *
        generalize baL ([] ++ L.take k) = R1 at *
        generalize baL (L.take k) = D0 at *
        generalize baL (L.drop k) = D1 at *
        generalize baL (L) = D at *
        clear HNO c3
        generalize L.length = nl at *
        go_enter Tryz.func18, Tryz.ntmps18
        go_wp2_with (first | (go_at_call 37; with_reducible refine HD.mono ?_; rintro en w1 ⟨rfl, hF1⟩))
        go_region
        all_goals
          go_wp2_with fail
          go_ret2
          exact ⟨rfl, by first | exact hF1 | exact hF1.drew⟩
#print axioms rtext_any
end Go.Proofs.YtkohohjpnlhioaaGreatDoor
