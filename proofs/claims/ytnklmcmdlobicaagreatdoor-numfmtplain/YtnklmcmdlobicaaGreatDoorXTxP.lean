/- Text of any float: the program's. -/
import Derived.Test.YtnklmcmdlobicaaGreatDoorXPad
namespace Go.Proofs.YtnklmcmdlobicaaGreatDoor
open Go.RowKit Ieee Go.Shelf

/-- The text of 0.L times ten to the e. -/
def wrL (L : List UInt8) (e : Int) : List UInt8 :=
  if e < -5 ∨ 21 < e then (if (L.drop 1).isEmpty = true then L.take 1 else L.take 1 ++ 46 :: L.drop 1) ++ 69 :: Lib.itoa (e - 1)
  else if e ≤ 0 then 48 :: 46 :: (List.replicate (-e).toNat 48 ++ L)
  else if (L.length : Int) ≤ e then L ++ List.replicate (e - L.length).toNat 48
  else L.take e.toNat ++ 46 :: L.drop e.toNat
theorem itoa_len (n : Int) (h0 : -1000 ≤ n) (h1 : n ≤ 1000) : (Lib.itoa n).length ≤ 100 := by
  have key : ∀ k : _root_.Fin 2001, (Lib.itoa ((k.val : Int) - 1000)).length ≤ 100 := by decide +kernel
  have := key ⟨(n + 1000).toNat, by omega⟩
  have e : (((n + 1000).toNat : Nat) : Int) - 1000 = n := by omega
  simp only [e] at this
  exact this
set_option maxRecDepth 100000 in
set_option maxHeartbeats 2000000 in
theorem written_any (L : List UInt8) (e : Int) (hl1 : 1 ≤ L.length) (hl2 : L.length ≤ 18) (he1 : -401 ≤ e) (he2 : e ≤ 421) (w : World) (hU : UTab w) :
    Calls Tryz.prog 235 #[.string (baL L), .int .i64 e] w fun en w' => en = .returned (.string (baL (wrL L e))) ∧ Fr noB w w' := by
  have hzL : (baL L).size = L.length := baL_size L
  unfold wrL
  by_cases c1 : e < -5 ∨ 21 < e
  · rw [if_pos c1]
    have HI : Hid (∀ W, Fr noB w W → Calls Tryz.prog 91 #[.int .i64 (e - 1)] W fun en w' => en = .returned (.string (baL (Lib.itoa (e - 1)))) ∧ Fr noB W w') := fun W hW => itoaI_any (e - 1) (by omega) (by omega) W (hU.fr hW)
    have HP := pointed_any (L.take 1) (L.drop 1) (by rw [List.length_take]; omega) (by rw [List.length_drop]; omega)
    have x1 : (baL L).extract 0 1 = baL (L.take 1) := by rw [baL_cut]; simp
    have x2 : (baL L).extract 1 L.length = baL (L.drop 1) := by rw [baL_cut]; simp
    have hlenP : ((if (L.drop 1).isEmpty = true then L.take 1 else L.take 1 ++ 46 :: L.drop 1) : List UInt8).length ≤ 100 := by split <;> simp <;> omega
    have hlenI := itoa_len (e - 1) (by omega) (by omega)
    generalize (if (L.drop 1).isEmpty = true then L.take 1 else L.take 1 ++ 46 :: L.drop 1) = PP at *
    generalize Lib.itoa (e - 1) = II at *
    have a1 : baL PP ++ ⟨#[69]⟩ = baL (PP ++ [69]) := baL_append PP [69]
    have a2 : baL (PP ++ [69]) ++ baL II = baL (PP ++ 69 :: II) := by rw [baL_append]; simp
    have z1 : (baL PP).size ≤ 100 := by rw [baL_size]; exact hlenP
    have z2 : (baL II).size ≤ 100 := by rw [baL_size]; exact hlenI
    have z3 : (baL (PP ++ [69])).size ≤ 101 := by rw [baL_size]; simp; exact hlenP
    generalize baL PP = P1 at *
    generalize baL (PP ++ [69]) = P2 at *
    generalize baL (PP ++ 69 :: II) = P3 at *
    generalize baL II = I1 at *
    generalize baL (L.take 1) = D0 at *
    generalize baL (L.drop 1) = D1 at *
    generalize baL L = D at *
    have hc1 : (decide (e < -5) || decide (21 < e)) = true := by simpa using c1
    clear hU
    go_enter Tryz.func235, Tryz.ntmps235
    go_wp2_with fail
    all_goals
      go_region_with (first
        | (go_at_call 43; with_reducible refine (HP _).mono ?_; rintro en wa ⟨rfl, hwa⟩; subst hwa)
        | (go_at_call 91; with_reducible refine (HI.out _ (by first | exact (Fr.refl noB w).drew | exact Fr.refl noB w)).mono ?_; rintro en wb ⟨rfl, hFb⟩))
    all_goals
      go_wp2_with fail
      go_ret
      refine ⟨rfl, ?_⟩
      repeat first | assumption | exact (Fr.refl _ _).drew | refine Fr.trans ?_ (by assumption)
  rw [if_neg c1]
  have d1 : (decide (e < -5) || decide (21 < e)) = false := by simpa using c1
  have d2 : -5 ≤ e := by omega
  have d3 : e ≤ 21 := by omega
  by_cases c2 : e ≤ 0
  · rw [if_pos c2]
    obtain ⟨k, rfl⟩ : ∃ k : Nat, e = -(k : Int) := ⟨(-e).toNat, by omega⟩
    have HR := repeat_any k (by omega)
    have HP := pointed_any [48] (List.replicate k 48 ++ L) (by simp) (by simp; omega)
    rw [if_neg (by cases L <;> simp_all)] at HP
    rw [show (-(-(k : Int))).toNat = k by omega]
    have a1 : baL (List.replicate k 48) ++ baL L = baL (List.replicate k 48 ++ L) := baL_append _ _
    have z1 : (baL (List.replicate k 48)).size = k := by rw [baL_size]; simp
    have c48 : baL [48] = ⟨#[48]⟩ := rfl
    rw [c48] at HP
    have hfin : [48] ++ 46 :: (List.replicate k 48 ++ L) = 48 :: 46 :: (List.replicate k 48 ++ L) := rfl
    rw [hfin] at HP
    generalize baL (48 :: 46 :: (List.replicate k 48 ++ L)) = RR at *
    generalize baL (List.replicate k 48 ++ L) = R1 at *
    generalize baL (List.replicate k 48) = R0 at *
    generalize baL L = D at *
    have d4 : ¬ (-(k : Int) < -5) := by omega
    clear hU c1 hfin c48 d1
    go_enter Tryz.func235, Tryz.ntmps235
    go_wp2_with (first
      | (go_at_call 46; with_reducible refine (HR _).mono ?_; rintro en wa ⟨rfl, hFa⟩)
      | (go_at_call 43; with_reducible refine (HP _).mono ?_; rintro en wb ⟨rfl, hwb⟩; subst hwb))
    go_ret
    exact ⟨rfl, hFa⟩
  rw [if_neg c2]
  obtain ⟨k, rfl⟩ : ∃ k : Nat, e = (k : Int) := ⟨e.toNat, by omega⟩
  by_cases c3 : (L.length : Int) ≤ (k : Int)
  · rw [if_pos c3]
    obtain ⟨j, hj⟩ : ∃ j : Nat, k = L.length + j := ⟨k - L.length, by omega⟩
    have HR := repeat_any j (by omega)
    rw [show ((k : Int) - (L.length : Int)).toNat = j by omega]
    have hsub : (k : Int) - (L.length : Int) = (j : Int) := by omega
    have a1 : baL L ++ baL (List.replicate j 48) = baL (L ++ List.replicate j 48) := baL_append _ _
    have z1 : (baL (List.replicate j 48)).size = j := by rw [baL_size]; simp
    have hj2 : j ≤ 21 := by omega
    generalize baL (L ++ List.replicate j 48) = RR at *
    generalize baL (List.replicate j 48) = R0 at *
    generalize baL L = D at *
    clear hU c1 d1 hj
    generalize L.length = nl at *
    go_enter Tryz.func235, Tryz.ntmps235
    go_wp2_with (first
      | (go_at_call 46; with_reducible refine (HR _).mono ?_; rintro en wa ⟨rfl, hFa⟩))
    go_ret
    exact ⟨rfl, hFa⟩
  · rw [if_neg c3]
    have ck : k < L.length := by omega
    have HP := pointed_any (L.take k) (L.drop k) (by rw [List.length_take]; omega) (by rw [List.length_drop]; omega)
    rw [if_neg (by rw [List.isEmpty_iff]; intro h; have := congrArg List.length h; rw [List.length_drop] at this; simp at this; omega)] at HP
    rw [show ((k : Int)).toNat = k by omega]
    have x1 : (baL L).extract 0 k = baL (L.take k) := by rw [baL_cut]; simp
    have x2 : (baL L).extract k L.length = baL (L.drop k) := by rw [baL_cut]; simp
    generalize baL (L.take k ++ 46 :: L.drop k) = RR at *
    generalize baL (L.take k) = D0 at *
    generalize baL (L.drop k) = D1 at *
    generalize baL L = D at *
    have k1 : 1 ≤ k := by omega
    clear hU c1 d1
    generalize L.length = nl at *
    go_enter Tryz.func235, Tryz.ntmps235
    go_wp2_with fail
    go_region_with (first
        | (go_at_call 43; with_reducible refine (HP _).mono ?_; rintro en wa ⟨rfl, hwa⟩; subst hwa))
    all_goals
      go_wp2_with fail
      go_ret
      refine ⟨rfl, ?_⟩
      repeat first | assumption | exact (Fr.refl _ _).drew | refine Fr.trans ?_ (by assumption)
set_option maxRecDepth 100000 in
theorem signed_any (b : Bool) (s : ByteArray) (hs : s.size ≤ 1000) (w : World) : Calls Tryz.prog 42 #[.bool b, .string s] w fun e w' => e = .returned (.string (if b = true then ⟨#[45]⟩ ++ s else s)) ∧ w' = w := by
  cases b
  all_goals
    go_enter Tryz.func42, Tryz.ntmps42
    go_wp2_with fail
    go_ret
    exact ⟨rfl, rfl⟩
#print axioms signed_any
#print axioms written_any
end Go.Proofs.YtnklmcmdlobicaaGreatDoor
