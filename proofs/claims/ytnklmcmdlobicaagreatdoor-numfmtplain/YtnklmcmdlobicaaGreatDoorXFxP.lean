/- Fixed: the program's, out of what FormatFloat says with all places. -/
import Derived.Test.YtnklmcmdlobicaaGreatDoorXRsR
import Derived.Test.YtnklmcmdlobicaaGreatDoorXTxQ
import Derived.Test.YtnklmcmdlobicaaGreatDoorShelf2
namespace Go.Proofs.YtnklmcmdlobicaaGreatDoor
open Go.RowKit Ieee Go.Shelf

/-- A whole number's digits with p places and a sign. -/
def fxB (neg : Bool) (DG : List UInt8) : Bool := neg && DG.any (fun z => z != 48)
def fxL (neg : Bool) (DG : List UInt8) (p : Nat) : List UInt8 := (if fxB neg DG = true then [45] else []) ++ (if (DG.drop (DG.length - p)).isEmpty = true then DG.take (DG.length - p) else DG.take (DG.length - p) ++ 46 :: DG.drop (DG.length - p))
theorem rs_len (L : List UInt8) : L.length ≤ (rsL L).length ∧ (rsL L).length ≤ L.length + 1 := by
  obtain ⟨T, hT⟩ := trim_suffix L
  have hlen : L.length = (Lib.trimRightB L 57).length + T.length := by
    have := congrArg List.length hT
    rw [List.length_append] at this
    exact this
  unfold rsL
  dsimp only
  split
  · rename_i h
    rw [List.getLast?_eq_none_iff.1 h] at hlen ⊢
    simp
  · rename_i c h
    obtain ⟨J, hJ⟩ := List.getLast?_eq_some_iff.1 h
    rw [hJ] at hlen ⊢
    simp at hlen ⊢
    omega
theorem trimZ_any (s : ByteArray) (w : World) (hs : s.size ≤ 9223372036854775807) : Calls Tryz.prog 41 #[.string s, .string ⟨#[48]⟩] w fun e w' => e = .returned (.string (baL (Lib.trimB s.data.toList 48))) ∧ Fr noB w w' :=
  (Any.strings_Trim_one Tryz.laysLaysn160 s 48 (by decide) w hs).mono fun e w' ⟨he, hw⟩ => ⟨he, by rcases hw with rfl | rfl; exact Fr.refl _ _; exact (Fr.refl _ _).drew⟩
theorem trim_any (DG : List UInt8) : (Lib.trimB DG 48).isEmpty = !(DG.any (fun z => z != 48)) := by
  have key : ∀ L : List UInt8, (L.dropWhile (fun x => x == 48)).isEmpty = !(L.any (fun z => z != 48)) := by
    intro L
    induction L with
    | nil => rfl
    | cons a L ih =>
      by_cases h : a = 48
      · rw [List.dropWhile_cons_of_pos (by simp [h]), ih, List.any_cons]
        simp [h]
      · rw [List.dropWhile_cons_of_neg (by simpa using h), List.any_cons]
        simp [h]
  unfold Lib.trimB Lib.trimLeftB Lib.trimRightB
  rw [key, List.any_reverse]
  have h2 : ∀ L : List UInt8, (L.dropWhile (fun x => x == 48)).any (fun z => z != 48) = L.any (fun z => z != 48) := by
    intro L
    induction L with
    | nil => rfl
    | cons a L ih =>
      by_cases h : a = 48
      · rw [List.dropWhile_cons_of_pos (by simp [h]), ih, List.any_cons]
        simp [h]
      · rw [List.dropWhile_cons_of_neg (by simpa using h)]
  rw [h2, List.any_reverse]
set_option maxRecDepth 100000 in
set_option maxHeartbeats 2000000 in
/-- What Fixed does with its digits: its last two statements. -/
theorem fx_parts (neg : Bool) (DG : List UInt8) (p q : Nat) (hq : DG.length = q + p) (hl : DG.length ≤ 900) :
    (∀ W, Calls Tryz.prog 43 #[.string (baL (DG.take q)), .string (baL (DG.drop q))] W fun e w' => e = .returned (.string (baL (if (DG.drop q).isEmpty = true then DG.take q else DG.take q ++ 46 :: DG.drop q))) ∧ w' = W) ∧
    (∀ W, Calls Tryz.prog 42 #[.bool (fxB neg DG), .string (baL (if (DG.drop q).isEmpty = true then DG.take q else DG.take q ++ 46 :: DG.drop q))] W fun e w' => e = .returned (.string (baL (fxL neg DG p))) ∧ w' = W) ∧
    (∀ W, Calls Tryz.prog 41 #[.string (baL DG), .string ⟨#[48]⟩] W fun e w' => e = .returned (.string (baL (Lib.trimB DG 48))) ∧ Fr noB W w') := by
  refine ⟨pointed_any (DG.take q) (DG.drop q) (by rw [List.length_take]; omega) (by rw [List.length_drop]; omega), fun W => ?_, fun W => ?_⟩
  · have hlen : ((if (DG.drop q).isEmpty = true then DG.take q else DG.take q ++ 46 :: DG.drop q) : List UInt8).length ≤ 1000 := by split <;> simp <;> omega
    have h := signed_any (fxB neg DG) (baL (if (DG.drop q).isEmpty = true then DG.take q else DG.take q ++ 46 :: DG.drop q)) (by rw [baL_size]; exact hlen) W
    have e : (if fxB neg DG = true then ⟨#[45]⟩ ++ baL (if (DG.drop q).isEmpty = true then DG.take q else DG.take q ++ 46 :: DG.drop q) else baL (if (DG.drop q).isEmpty = true then DG.take q else DG.take q ++ 46 :: DG.drop q)) = baL (fxL neg DG p) := by
      unfold fxL
      rw [show DG.length - p = q by omega]
      by_cases hb : fxB neg DG = true
      · rw [if_pos hb, if_pos hb]
        exact baL_append [45] _
      · rw [if_neg hb, if_neg hb]
        rfl
    rw [e] at h
    exact h
  · have h := trimZ_any (baL DG) W (by rw [baL_size]; omega)
    rw [baL_list] at h
    exact h
set_option maxRecDepth 100000 in
set_option maxHeartbeats 4000000 in
theorem pfixed_of (x p : Nat) (Wd Fc : List UInt8) (w : World) (hx : x < 18446744073709551616) (hf : finB x = true) (hp : p ≤ 30) (hw1 : 1 ≤ Wd.length) (hw2 : Wd.length ≤ 400) (hfc : Fc.length = 1074)
    (hd : ∀ z ∈ Wd ++ Fc, 48 ≤ z.toNat ∧ z.toNat ≤ 57) (hX : XTab w)
    (HF : ∀ W, Fr noB w W → Calls Tryz.prog 36 #[.float .f64 (absN x), .int .u8 102, .int .i64 1074, .int .i64 64] W fun e w' => e = .returned (.string (baL (Wd ++ 46 :: Fc))) ∧ Fr noB W w') :
    Calls Tryz.prog 14 #[.float .f64 x, .int .i64 (p : Int)] w fun e w' => e = .returned (.tuple #[.string (baL (fxL (decide (9223372036854775808 < x)) (if 53 ≤ (Fc.getD p 0).toNat then rsL (Wd ++ Fc.take p) else Wd ++ Fc.take p) p)), .int .i64 0]) ∧ Fr noB w w' := by
  have HN := finite_any x hx
  rw [hf] at HN
  have HAb := abs_any x hx
  have hlt := lt_zero x hx (fin_of hf)
  have HFF : Hid _ := HF
  have HC : Hid (∀ W, Fr noB w W → Calls Tryz.prog 16 #[.string (baL (Wd ++ 46 :: Fc)), .string ⟨#[46]⟩] W fun e w' => e = .returned (.tuple #[.string (baL Wd), .string (baL Fc), .bool true]) ∧ Fr noB W w') := by
    intro W hW
    have h := cutS_any (baL (Wd ++ 46 :: Fc)) ⟨#[46]⟩ W (hX.fr hW) (by rw [baL_size]; simp; omega)
    have hc : Lib.cut (baL (Wd ++ 46 :: Fc)).data.toList [46] = (Wd, Fc, true) := by
      rw [baL_list]
      refine cut_hit 46 _ _ (fun hh => ?_)
      have := hd 46 (List.mem_append_left _ hh)
      have e : (46 : UInt8).toNat = 46 := rfl
      omega
    rw [show (⟨#[46]⟩ : ByteArray).data.toList = [46] from rfl, hc] at h
    refine h.mono ?_
    rintro e w' ⟨rfl, n, rfl⟩
    exact ⟨rfl, (Fr.refl _ _).drewN n⟩
  have hzF : (baL Fc).size = 1074 := by rw [baL_size]; exact hfc
  have x1 : (baL Fc).extract 0 p = baL (Fc.take p) := by rw [baL_cut]; simp
  have hat : ∀ h, ((baL Fc)[p]'h).toNat = (Fc.getD p 0).toNat := by
    intro h
    have := bl_at Fc (baL Fc) rfl p h (by omega)
    rw [this]
    simp [List.getD, show p < Fc.length by omega]
  have a1 : baL Wd ++ baL (Fc.take p) = baL (Wd ++ Fc.take p) := baL_append _ _
  have hl0 : (Wd ++ Fc.take p).length = Wd.length + p := by simp; omega
  have z1 : (baL Wd).size ≤ 400 := by rw [baL_size]; exact hw2
  have z2 : (baL (Fc.take p)).size = p := by rw [baL_size]; simp; omega
  have HRs := raised_any (Wd ++ Fc.take p) (fun z hz => hd z (by rcases List.mem_append.1 hz with h | h; exact List.mem_append_left _ h; exact List.mem_append_right _ (List.mem_of_mem_take h))) (by omega)
  obtain ⟨rl1, rl2⟩ := rs_len (Wd ++ Fc.take p)
  obtain ⟨d5, hd5⟩ : ∃ d, (Fc.getD p 0).toNat = d := ⟨_, rfl⟩
  rw [hd5] at hat ⊢
  have hd57 : d5 ≤ 57 := by
    rw [← hd5]
    have : Fc.getD p 0 ∈ Wd ++ Fc := List.mem_append_right _ (by simp [List.getD, show p < Fc.length by omega])
    exact (hd _ this).2
  clear hd5 hd HF hX hf
  rw [show absN x = x % 9223372036854775808 from rfl] at HFF
  generalize x % 9223372036854775808 = y at *
  generalize hng : decide (9223372036854775808 < x) = ng at *
  by_cases h5 : 53 ≤ d5
  · rw [if_pos h5]
    obtain ⟨DG, hDG⟩ : ∃ D, rsL (Wd ++ Fc.take p) = D := ⟨_, rfl⟩
    rw [hDG] at HRs rl1 rl2 ⊢
    obtain ⟨q, hq⟩ : ∃ q, DG.length = q + p := ⟨DG.length - p, by omega⟩
    have hql : q ≤ 500 := by omega
    clear hDG
    cases ng with
    | true =>
      obtain ⟨HP, HS, HTm⟩ := fx_parts true DG p q hq (by omega)
      have x2 : (baL DG).extract 0 q = baL (DG.take q) := by rw [baL_cut]; simp
      have x3 : (baL DG).extract q (q + p) = baL (DG.drop q) := by rw [baL_cut, List.take_of_length_le (by omega)]
      have hzD : (baL DG).size = q + p := by rw [baL_size]; exact hq
      have hemp : (baL (Lib.trimB DG 48)).toList.isEmpty = !(DG.any (fun z => z != 48)) := by rw [baL_empty, trim_any]
      have hfb : fxB true DG = DG.any (fun z => z != 48) := by unfold fxB; simp
      rw [hfb] at HS
      generalize DG.any (fun z => z != 48) = ab at *
      generalize baL (Lib.trimB DG 48) = TB at *
      generalize baL (fxL true DG p) = RR at *
      generalize (if (DG.drop q).isEmpty = true then DG.take q else DG.take q ++ 46 :: DG.drop q) = PL at *
      generalize baL PL = PB at *
      generalize baL (DG.take q) = D0 at *
      generalize baL (DG.drop q) = D1 at *
      generalize baL DG = DB at *
      generalize baL (Wd ++ Fc.take p) = DA at *
      generalize baL (Wd ++ 46 :: Fc) = TX at *
      generalize baL (Fc.take p) = FP at *
      generalize baL Fc = FB at *
      generalize baL Wd = WB at *
      clear hng hx hw1 hw2 hfc rl1 rl2 hl0 hq hfb
      go_enter Tryz.func14, Tryz.ntmps14
      go_wp2_with (first
          | (go_at_call 39; with_reducible refine (HN _).mono ?_; rintro e w1 ⟨rfl, h1⟩; subst h1)
          | (go_at_call 27; with_reducible refine (HAb _).mono ?_; rintro e w1 ⟨rfl, h1⟩; subst h1)
          | (go_at_call 36; with_reducible refine (HFF.out _ (Fr.refl _ _)).mono ?_; rintro e w2 ⟨rfl, hF2⟩)
          | (go_at_call 16; with_reducible refine (HC.out _ hF2).mono ?_; rintro e w3 ⟨rfl, hF3⟩)
          | (go_at_call 40; with_reducible refine (HRs _).mono ?_; rintro e w4 ⟨rfl, hF4⟩)
          | (go_at_call 41; with_reducible refine (HTm _).mono ?_; rintro e w5 ⟨rfl, hF5⟩))
      have hG := ((hF2.trans hF3).trans hF4).trans hF5
      go_quiet ((first | (go_at_call 43; exact Calls.quiet_of_same (HP _)) | (go_at_call 42; exact Calls.quiet_of_same (HS _))))
      go_wp2_with fail
      go_ret2
      exact ⟨rfl, hG.drewN _⟩
    | false =>
      obtain ⟨HP, HS, HTm⟩ := fx_parts false DG p q hq (by omega)
      have x2 : (baL DG).extract 0 q = baL (DG.take q) := by rw [baL_cut]; simp
      have x3 : (baL DG).extract q (q + p) = baL (DG.drop q) := by rw [baL_cut, List.take_of_length_le (by omega)]
      have hzD : (baL DG).size = q + p := by rw [baL_size]; exact hq
      have hfb : fxB false DG = false := rfl
      rw [hfb] at HS
      clear HTm
      generalize baL (fxL false DG p) = RR at *
      generalize (if (DG.drop q).isEmpty = true then DG.take q else DG.take q ++ 46 :: DG.drop q) = PL at *
      generalize baL PL = PB at *
      generalize baL (DG.take q) = D0 at *
      generalize baL (DG.drop q) = D1 at *
      generalize baL DG = DB at *
      generalize baL (Wd ++ Fc.take p) = DA at *
      generalize baL (Wd ++ 46 :: Fc) = TX at *
      generalize baL (Fc.take p) = FP at *
      generalize baL Fc = FB at *
      generalize baL Wd = WB at *
      clear hng hx hw1 hw2 hfc rl1 rl2 hl0 hq hfb
      go_enter Tryz.func14, Tryz.ntmps14
      go_wp2_with (first
          | (go_at_call 39; with_reducible refine (HN _).mono ?_; rintro e w1 ⟨rfl, h1⟩; subst h1)
          | (go_at_call 27; with_reducible refine (HAb _).mono ?_; rintro e w1 ⟨rfl, h1⟩; subst h1)
          | (go_at_call 36; with_reducible refine (HFF.out _ (Fr.refl _ _)).mono ?_; rintro e w2 ⟨rfl, hF2⟩)
          | (go_at_call 16; with_reducible refine (HC.out _ hF2).mono ?_; rintro e w3 ⟨rfl, hF3⟩)
          | (go_at_call 40; with_reducible refine (HRs _).mono ?_; rintro e w4 ⟨rfl, hF4⟩))
      have hG := (hF2.trans hF3).trans hF4
      go_quiet ((first | (go_at_call 43; exact Calls.quiet_of_same (HP _)) | (go_at_call 42; exact Calls.quiet_of_same (HS _))))
      go_wp2_with fail
      go_ret2
      exact ⟨rfl, hG.drewN _⟩
  · rw [if_neg h5]
    clear HRs
    obtain ⟨DG, hDG⟩ : ∃ D, Wd ++ Fc.take p = D := ⟨_, rfl⟩
    rw [hDG] at a1 hl0 ⊢
    obtain ⟨q, hq⟩ : ∃ q, DG.length = q + p := ⟨DG.length - p, by omega⟩
    have hql : q ≤ 500 := by omega
    clear hDG
    cases ng with
    | true =>
      obtain ⟨HP, HS, HTm⟩ := fx_parts true DG p q hq (by omega)
      have x2 : (baL DG).extract 0 q = baL (DG.take q) := by rw [baL_cut]; simp
      have x3 : (baL DG).extract q (q + p) = baL (DG.drop q) := by rw [baL_cut, List.take_of_length_le (by omega)]
      have hzD : (baL DG).size = q + p := by rw [baL_size]; exact hq
      have hemp : (baL (Lib.trimB DG 48)).toList.isEmpty = !(DG.any (fun z => z != 48)) := by rw [baL_empty, trim_any]
      have hfb : fxB true DG = DG.any (fun z => z != 48) := by unfold fxB; simp
      rw [hfb] at HS
      generalize DG.any (fun z => z != 48) = ab at *
      generalize baL (Lib.trimB DG 48) = TB at *
      generalize baL (fxL true DG p) = RR at *
      generalize (if (DG.drop q).isEmpty = true then DG.take q else DG.take q ++ 46 :: DG.drop q) = PL at *
      generalize baL PL = PB at *
      generalize baL (DG.take q) = D0 at *
      generalize baL (DG.drop q) = D1 at *
      generalize baL DG = DB at *
      generalize baL (Wd ++ 46 :: Fc) = TX at *
      generalize baL (Fc.take p) = FP at *
      generalize baL Fc = FB at *
      generalize baL Wd = WB at *
      clear hng hx hw1 hw2 hfc rl1 rl2 hl0 hq hfb
      go_enter Tryz.func14, Tryz.ntmps14
      go_wp2_with (first
          | (go_at_call 39; with_reducible refine (HN _).mono ?_; rintro e w1 ⟨rfl, h1⟩; subst h1)
          | (go_at_call 27; with_reducible refine (HAb _).mono ?_; rintro e w1 ⟨rfl, h1⟩; subst h1)
          | (go_at_call 36; with_reducible refine (HFF.out _ (Fr.refl _ _)).mono ?_; rintro e w2 ⟨rfl, hF2⟩)
          | (go_at_call 16; with_reducible refine (HC.out _ hF2).mono ?_; rintro e w3 ⟨rfl, hF3⟩)
          | (go_at_call 41; with_reducible refine (HTm _).mono ?_; rintro e w5 ⟨rfl, hF5⟩))
      have hG := (hF2.trans hF3).trans hF5
      go_quiet ((first | (go_at_call 43; exact Calls.quiet_of_same (HP _)) | (go_at_call 42; exact Calls.quiet_of_same (HS _))))
      go_wp2_with fail
      go_ret2
      exact ⟨rfl, hG.drewN _⟩
    | false =>
      obtain ⟨HP, HS, HTm⟩ := fx_parts false DG p q hq (by omega)
      have x2 : (baL DG).extract 0 q = baL (DG.take q) := by rw [baL_cut]; simp
      have x3 : (baL DG).extract q (q + p) = baL (DG.drop q) := by rw [baL_cut, List.take_of_length_le (by omega)]
      have hzD : (baL DG).size = q + p := by rw [baL_size]; exact hq
      have hfb : fxB false DG = false := rfl
      rw [hfb] at HS
      clear HTm
      generalize baL (fxL false DG p) = RR at *
      generalize (if (DG.drop q).isEmpty = true then DG.take q else DG.take q ++ 46 :: DG.drop q) = PL at *
      generalize baL PL = PB at *
      generalize baL (DG.take q) = D0 at *
      generalize baL (DG.drop q) = D1 at *
      generalize baL DG = DB at *
      generalize baL (Wd ++ 46 :: Fc) = TX at *
      generalize baL (Fc.take p) = FP at *
      generalize baL Fc = FB at *
      generalize baL Wd = WB at *
      clear hng hx hw1 hw2 hfc rl1 rl2 hl0 hq hfb
      go_enter Tryz.func14, Tryz.ntmps14
      go_wp2_with (first
          | (go_at_call 39; with_reducible refine (HN _).mono ?_; rintro e w1 ⟨rfl, h1⟩; subst h1)
          | (go_at_call 27; with_reducible refine (HAb _).mono ?_; rintro e w1 ⟨rfl, h1⟩; subst h1)
          | (go_at_call 36; with_reducible refine (HFF.out _ (Fr.refl _ _)).mono ?_; rintro e w2 ⟨rfl, hF2⟩)
          | (go_at_call 16; with_reducible refine (HC.out _ hF2).mono ?_; rintro e w3 ⟨rfl, hF3⟩))
      have hG := hF2.trans hF3
      go_quiet ((first | (go_at_call 43; exact Calls.quiet_of_same (HP _)) | (go_at_call 42; exact Calls.quiet_of_same (HS _))))
      go_wp2_with fail
      go_ret2
      exact ⟨rfl, hG.drewN _⟩
#print axioms pfixed_of
#print axioms fx_parts
#print axioms trim_any
end Go.Proofs.YtnklmcmdlobicaaGreatDoor
