/- Fixed: the document's, out of what FormatFloat says with all places. -/
import Derived.Test.YtnklmcmdlobicaaGreatDoorXFxP
namespace Go.Proofs.YtnklmcmdlobicaaGreatDoor
open Go.RowKit Ieee Go.Shelf

theorem any_step (L : List UInt8) (k : Nat) (h : k < L.length) : (L.take (k + 1)).any (fun z => z != 48) = ((L.take k).any (fun z => z != 48) || (L[k] != 48)) := by
  rw [List.take_succ_eq_append_getElem h, List.any_append]
  simp
set_option maxRecDepth 100000 in
set_option maxHeartbeats 8000000 in
theorem rfixed_of (x p : Nat) (Wd Fc Rz : List UInt8) (w : World) (hx : x < 18446744073709551616) (hf : finB x = true) (hp : p ≤ 30) (hw1 : 1 ≤ Wd.length) (hw2 : Wd.length ≤ 400) (hfc : Fc.length = 1074) (hrz : Rz.length = 26)
    (hd : ∀ z ∈ Wd ++ Fc, 48 ≤ z.toNat ∧ z.toNat ≤ 57)
    (HF : ∀ W, Fr noB w W → Calls Tryz.prog 36 #[.float .f64 (absN x), .int .u8 102, .int .i64 1100, .int .i64 64] W fun e w' => e = .returned (.string (baL (Wd ++ 46 :: (Fc ++ Rz)))) ∧ Fr noB W w') :
    Calls Tryz.prog 11 #[.float .f64 x, .int .i64 (p : Int)] w fun e w' => e = .returned (.tuple #[.string (baL (fxL (decide (9223372036854775808 < x)) (if 53 ≤ (Fc.getD p 0).toNat then rsL (Wd ++ Fc.take p) else Wd ++ Fc.take p) p)), .int .i64 0]) ∧ Fr noB w w' := by
  have HN := rfinite_any x
  rw [hf] at HN
  have hlt := lt_zero x hx (fin_of hf)
  have HFF : Hid _ := HF
  obtain ⟨wl, hwl⟩ : ∃ n, Wd.length = n := ⟨_, rfl⟩
  have hzS : (baL (Wd ++ 46 :: (Fc ++ Rz))).size = wl + 1101 := by rw [baL_size]; simp; omega
  have x1 : (baL (Wd ++ 46 :: (Fc ++ Rz))).extract 0 wl = baL Wd := by rw [baL_cut, ← hwl]; simp
  have x2 : (baL (Wd ++ 46 :: (Fc ++ Rz))).extract (wl + 1) (wl + 1 + p) = baL (Fc.take p) := by
    rw [baL_cut, ← hwl]
    congr 1
    rw [show Wd ++ 46 :: (Fc ++ Rz) = (Wd ++ [46]) ++ (Fc ++ Rz) by simp, show Wd.length + 1 + p = (Wd ++ [46]).length + p by simp, List.take_length_add_append, show Wd.length + 1 = (Wd ++ [46]).length by simp, List.drop_left, List.take_append_of_le_length (by omega)]
  have hat : ∀ h, ((baL (Wd ++ 46 :: (Fc ++ Rz)))[wl + 1 + p]'h).toNat = (Fc.getD p 0).toNat := by
    intro h
    have := bl_at (Wd ++ 46 :: (Fc ++ Rz)) (baL (Wd ++ 46 :: (Fc ++ Rz))) rfl (wl + 1 + p) h (by simp; omega)
    rw [this]
    have e : (Wd ++ 46 :: (Fc ++ Rz))[wl + 1 + p]? = Fc[p]? := by
      rw [List.getElem?_append_right (by omega), hwl, show wl + 1 + p - wl = p + 1 by omega, List.getElem?_cons_succ, List.getElem?_append_left (by omega)]
    rw [List.getElem?_eq_getElem (by simp; omega)] at e
    simp only [List.getD, ← e, Option.getD_some]
  have a1 : baL Wd ++ baL (Fc.take p) = baL (Wd ++ Fc.take p) := baL_append _ _
  have hl0 : (Wd ++ Fc.take p).length = wl + p := by simp; omega
  have z1 : (baL Wd).size = wl := by rw [baL_size]; exact hwl
  have z2 : (baL (Fc.take p)).size = p := by rw [baL_size]; simp; omega
  have HRs := rraised_any (Wd ++ Fc.take p) (fun z hz => hd z (by rcases List.mem_append.1 hz with h | h; exact List.mem_append_left _ h; exact List.mem_append_right _ (List.mem_of_mem_take h))) (by omega)
  obtain ⟨rl1, rl2⟩ := rs_len (Wd ++ Fc.take p)
  obtain ⟨d5, hd5⟩ : ∃ d, (Fc.getD p 0).toNat = d := ⟨_, rfl⟩
  rw [hd5] at hat ⊢
  have hd57 : d5 ≤ 57 := by
    rw [← hd5]
    have : Fc.getD p 0 ∈ Wd ++ Fc := List.mem_append_right _ (by simp [List.getD, show p < Fc.length by omega])
    exact (hd _ this).2
  have hwb : wl ≤ 400 := by omega
  have hw0 : 1 ≤ wl := by omega
  have HFI : Hid (finB x = true) := hf
  clear hd5 hd HF hf hw1 hw2 hfc hrz hwl
  by_cases hs : 9223372036854775808 < x
  · rw [decide_eq_true hs] at hlt ⊢
    have hng : ∀ W, (Op.unary .neg (.float .f64 x)).run Tryz.prog W = .ok (.float .f64 (absN x)) W := fun W => by rw [show absN x = Op.negFloat .f64 x from (neg_high x hx hs).symm]; rfl
    have hz : (FloatKind.f64.format.order (absN x) 0 == some .eq) = false := by
      have h : absN x % 9223372036854775808 = absN x := by unfold absN; omega
      rw [order_zero (absN x) (fin_of ((fin_iff (absN x)).2 (by rw [h]; exact (fin_iff x).1 HFI.out)))]
      apply decide_eq_false
      rw [h]
      unfold absN
      omega
    generalize absN x = y at *
    by_cases h5 : 53 ≤ d5
    · rw [if_pos h5]
      obtain ⟨DG, hDG⟩ : ∃ D, rsL (Wd ++ Fc.take p) = D := ⟨_, rfl⟩
      rw [hDG] at HRs rl1 rl2 ⊢
      obtain ⟨q, hq⟩ : ∃ q, DG.length = q + p := ⟨DG.length - p, by omega⟩
      have hql : q ≤ 500 := by omega
      clear hDG rl1 rl2 hl0
      by_cases hp0 : p = 0
      · have hp1 : ¬ 0 < p := by omega
        clear hp0
        have hzD : (baL DG).size = q + p := by rw [baL_size]; exact hq
        have x3 : (baL DG).extract 0 q = baL (DG.take q) := by rw [baL_cut]; simp
        have x4 : (baL DG).extract q (q + p) = baL (DG.drop q) := by rw [baL_cut, List.take_of_length_le (by omega)]
        have y1 : (baL (DG.take q)).size = q := by rw [baL_size]; simp; omega
        have y2 : (baL (DG.drop q)).size = p := by rw [baL_size]; simp; omega
        have hpt : (if (DG.drop (DG.length - p)).isEmpty = true then DG.take (DG.length - p) else DG.take (DG.length - p) ++ 46 :: DG.drop (DG.length - p)) = DG.take q := by
          rw [show DG.length - p = q by omega, if_pos (by rw [List.isEmpty_iff]; exact List.drop_of_length_le (by omega))]
        have b3 : (⟨#[45]⟩ : ByteArray) ++ baL (DG.take q) = baL (45 :: (DG.take q)) := baL_append [45] _
        have hfx : (DG.any (fun z => z != 48) = true → baL (fxL true DG p) = baL (45 :: (DG.take q))) ∧ (DG.any (fun z => z != 48) = false → baL (fxL true DG p) = baL (DG.take q)) := by
          constructor
          · intro h
            unfold fxL
            rw [hpt, show fxB true DG = true by unfold fxB; simp [h]]
            rfl
          · intro h
            unfold fxL
            rw [hpt, show fxB true DG = false by unfold fxB; simp [h]]
            rfl
        have HDG : Hid (DG.length = q + p ∧ ((DG.any (fun z => z != 48) = true → baL (fxL true DG p) = baL (45 :: (DG.take q))) ∧ (DG.any (fun z => z != 48) = false → baL (fxL true DG p) = baL (DG.take q))) ∧ ∀ (k : Nat) (h : k < (baL DG).size) (h2 : k < DG.length), ((baL DG)[k]'h).toNat = (DG[k]'h2).toNat) := ⟨hq, hfx, fun k h h2 => by have := bl_at DG (baL DG) rfl k h h2; rw [this]⟩
        clear hpt hfx hq
        generalize baL (45 :: (DG.take q)) = OM at *
        generalize baL (DG.take q) = D0 at *
        generalize baL (DG.drop q) = D1 at *
        obtain ⟨DB, hDB⟩ : ∃ B, baL DG = B := ⟨_, rfl⟩
        rw [hDB] at hzD x3 x4 HDG HRs
        clear hDB
        generalize baL (Wd ++ Fc.take p) = DA at *
        generalize baL (Wd ++ 46 :: (Fc ++ Rz)) = S at *
        generalize baL (Fc.take p) = FP at *
        generalize baL Wd = WB at *
        go_enter Tryz.func11, Tryz.ntmps11
        go_wp2_with (first
            | (go_at_call 35; with_reducible refine (HN _).mono ?_; rintro e w1 ⟨rfl, m1, h1⟩; subst h1)
            | (go_at_call 36; with_reducible refine (HFF.out _ ((Fr.refl noB w).drewN _)).mono ?_; rintro e w2 ⟨rfl, hF2⟩; replace hF2 := ((Fr.refl noB w).drewN m1).trans hF2))
        go_region
        go_wp2_with (go_at_call 37; with_reducible refine (HRs _).mono ?_; rintro e w4 ⟨rfl, hF4⟩)
        have hG := (hF2.drew).trans hF4
        go_loop [10, 11] (fun sv iv => ∃ k : Nat, sv = .bool ((DG.take k).any (fun z => z != 48)) ∧ iv = .int .i64 (k : Int) ∧ k ≤ q + p) (fun sv iv => q + p - (intOf iv).toNat)
        case atStart => exact ⟨0, rfl, rfl, Nat.zero_le _⟩
        case round =>
          obtain ⟨k, rfl, rfl, hk⟩ := hrel
          by_cases hkl : k < q + p
          · have bk : ∀ h, (DB[k]'h).toNat = (DG[k]'(by rw [HDG.out.1]; exact hkl)).toNat := fun h => HDG.out.2.2 k h (by rw [HDG.out.1]; exact hkl)
            have hst := any_step DG k (by rw [HDG.out.1]; exact hkl)
            obtain ⟨z, hz⟩ : ∃ z, DG[k]'(by rw [HDG.out.1]; exact hkl) = z := ⟨_, rfl⟩
            rw [hz] at bk hst
            have hb : ((z.toNat : Int) != 48) = (z != 48) := by
              rw [Bool.eq_iff_iff]
              simp only [bne_iff_ne, ne_eq]
              constructor
              · intro h e
                apply h
                rw [e]
                rfl
              · intro h e
                apply h
                apply UInt8.toNat_inj.1
                have : (48 : UInt8).toNat = 48 := rfl
                omega
            generalize z.toNat = zn at *
            generalize (z != 48) = zb at *
            have HST : Hid _ := hst
            clear hst hz
            generalize hsb : (DG.take k).any (fun z => z != 48) = sb at *
            have HSB : Hid _ := hsb
            clear hsb
            cases sb with
            | true =>
              go_wp2_with fail
              go_round
              case rel => exact ⟨k + 1, by rw [HST.out]; rfl, by go_num, by omega⟩
              case measure => simp [intOf]; omega
            | false =>
              go_wp2_with fail
              go_round
              case rel => exact ⟨k + 1, by rw [HST.out]; simp, by go_num, by omega⟩
              case measure => simp [intOf]; omega
          · obtain rfl : k = q + p := by omega
            have hta : DG.take (q + p) = DG := List.take_of_length_le (by rw [HDG.out.1]; exact Nat.le_refl _)
            rw [hta]
            have HFX := HDG.out.2.1
            clear hta hkl hk
            generalize DG.any (fun z => z != 48) = ab at *
            have HFX2 : Hid _ := HFX
            clear HFX
            cases ab with
            | true =>
              go_wp2_with fail
              go_ret2
              rw [HFX2.out.1 (by first | rfl | trivial)]
              exact ⟨rfl, hG⟩
            | false =>
              go_wp2_with fail
              go_ret2
              rw [HFX2.out.2 (by first | rfl | trivial)]
              exact ⟨rfl, hG⟩
      · have hp1 : 0 < p := by omega
        have hzD : (baL DG).size = q + p := by rw [baL_size]; exact hq
        have x3 : (baL DG).extract 0 q = baL (DG.take q) := by rw [baL_cut]; simp
        have x4 : (baL DG).extract q (q + p) = baL (DG.drop q) := by rw [baL_cut, List.take_of_length_le (by omega)]
        have y1 : (baL (DG.take q)).size = q := by rw [baL_size]; simp; omega
        have y2 : (baL (DG.drop q)).size = p := by rw [baL_size]; simp; omega
        have hpt : (if (DG.drop (DG.length - p)).isEmpty = true then DG.take (DG.length - p) else DG.take (DG.length - p) ++ 46 :: DG.drop (DG.length - p)) = DG.take q ++ 46 :: DG.drop q := by
          rw [show DG.length - p = q by omega, if_neg (by rw [List.isEmpty_iff]; intro h; have := congrArg List.length h; rw [List.length_drop] at this; simp at this; omega)]
        have b1 : (⟨#[46]⟩ : ByteArray) ++ baL (DG.drop q) = baL (46 :: DG.drop q) := baL_append [46] _
        have b2 : baL (DG.take q) ++ baL (46 :: DG.drop q) = baL (DG.take q ++ 46 :: DG.drop q) := baL_append _ _
        have y3 : (baL (46 :: DG.drop q)).size = p + 1 := by rw [baL_size]; simp; omega
        have y4 : (baL (DG.take q ++ 46 :: DG.drop q)).size = q + p + 1 := by rw [baL_size]; simp; omega
        have b3 : (⟨#[45]⟩ : ByteArray) ++ baL (DG.take q ++ 46 :: DG.drop q) = baL (45 :: (DG.take q ++ 46 :: DG.drop q)) := baL_append [45] _
        have hfx : (DG.any (fun z => z != 48) = true → baL (fxL true DG p) = baL (45 :: (DG.take q ++ 46 :: DG.drop q))) ∧ (DG.any (fun z => z != 48) = false → baL (fxL true DG p) = baL (DG.take q ++ 46 :: DG.drop q)) := by
          constructor
          · intro h
            unfold fxL
            rw [hpt, show fxB true DG = true by unfold fxB; simp [h]]
            rfl
          · intro h
            unfold fxL
            rw [hpt, show fxB true DG = false by unfold fxB; simp [h]]
            rfl
        have HDG : Hid (DG.length = q + p ∧ ((DG.any (fun z => z != 48) = true → baL (fxL true DG p) = baL (45 :: (DG.take q ++ 46 :: DG.drop q))) ∧ (DG.any (fun z => z != 48) = false → baL (fxL true DG p) = baL (DG.take q ++ 46 :: DG.drop q))) ∧ ∀ (k : Nat) (h : k < (baL DG).size) (h2 : k < DG.length), ((baL DG)[k]'h).toNat = (DG[k]'h2).toNat) := ⟨hq, hfx, fun k h h2 => by have := bl_at DG (baL DG) rfl k h h2; rw [this]⟩
        clear hpt hfx hq
        generalize baL (46 :: DG.drop q) = E1 at *
        generalize baL (45 :: (DG.take q ++ 46 :: DG.drop q)) = OM at *
        generalize baL (DG.take q ++ 46 :: DG.drop q) = OU at *
        generalize baL (DG.take q) = D0 at *
        generalize baL (DG.drop q) = D1 at *
        obtain ⟨DB, hDB⟩ : ∃ B, baL DG = B := ⟨_, rfl⟩
        rw [hDB] at hzD x3 x4 HDG HRs
        clear hDB
        generalize baL (Wd ++ Fc.take p) = DA at *
        generalize baL (Wd ++ 46 :: (Fc ++ Rz)) = S at *
        generalize baL (Fc.take p) = FP at *
        generalize baL Wd = WB at *
        go_enter Tryz.func11, Tryz.ntmps11
        go_wp2_with (first
            | (go_at_call 35; with_reducible refine (HN _).mono ?_; rintro e w1 ⟨rfl, m1, h1⟩; subst h1)
            | (go_at_call 36; with_reducible refine (HFF.out _ ((Fr.refl noB w).drewN _)).mono ?_; rintro e w2 ⟨rfl, hF2⟩; replace hF2 := ((Fr.refl noB w).drewN m1).trans hF2))
        go_region
        go_wp2_with (go_at_call 37; with_reducible refine (HRs _).mono ?_; rintro e w4 ⟨rfl, hF4⟩)
        have hG := (hF2.drew).trans hF4
        go_loop [10, 11] (fun sv iv => ∃ k : Nat, sv = .bool ((DG.take k).any (fun z => z != 48)) ∧ iv = .int .i64 (k : Int) ∧ k ≤ q + p) (fun sv iv => q + p - (intOf iv).toNat)
        case atStart => exact ⟨0, rfl, rfl, Nat.zero_le _⟩
        case round =>
          obtain ⟨k, rfl, rfl, hk⟩ := hrel
          by_cases hkl : k < q + p
          · have bk : ∀ h, (DB[k]'h).toNat = (DG[k]'(by rw [HDG.out.1]; exact hkl)).toNat := fun h => HDG.out.2.2 k h (by rw [HDG.out.1]; exact hkl)
            have hst := any_step DG k (by rw [HDG.out.1]; exact hkl)
            obtain ⟨z, hz⟩ : ∃ z, DG[k]'(by rw [HDG.out.1]; exact hkl) = z := ⟨_, rfl⟩
            rw [hz] at bk hst
            have hb : ((z.toNat : Int) != 48) = (z != 48) := by
              rw [Bool.eq_iff_iff]
              simp only [bne_iff_ne, ne_eq]
              constructor
              · intro h e
                apply h
                rw [e]
                rfl
              · intro h e
                apply h
                apply UInt8.toNat_inj.1
                have : (48 : UInt8).toNat = 48 := rfl
                omega
            generalize z.toNat = zn at *
            generalize (z != 48) = zb at *
            have HST : Hid _ := hst
            clear hst hz
            generalize hsb : (DG.take k).any (fun z => z != 48) = sb at *
            have HSB : Hid _ := hsb
            clear hsb
            cases sb with
            | true =>
              go_wp2_with fail
              go_round
              case rel => exact ⟨k + 1, by rw [HST.out]; rfl, by go_num, by omega⟩
              case measure => simp [intOf]; omega
            | false =>
              go_wp2_with fail
              go_round
              case rel => exact ⟨k + 1, by rw [HST.out]; simp, by go_num, by omega⟩
              case measure => simp [intOf]; omega
          · obtain rfl : k = q + p := by omega
            have hta : DG.take (q + p) = DG := List.take_of_length_le (by rw [HDG.out.1]; exact Nat.le_refl _)
            rw [hta]
            have HFX := HDG.out.2.1
            clear hta hkl hk
            generalize DG.any (fun z => z != 48) = ab at *
            have HFX2 : Hid _ := HFX
            clear HFX
            cases ab with
            | true =>
              go_wp2_with fail
              go_ret2
              rw [HFX2.out.1 (by first | rfl | trivial)]
              exact ⟨rfl, hG⟩
            | false =>
              go_wp2_with fail
              go_ret2
              rw [HFX2.out.2 (by first | rfl | trivial)]
              exact ⟨rfl, hG⟩
    · rw [if_neg h5]
      clear HRs
      obtain ⟨DG, hDG⟩ : ∃ D, Wd ++ Fc.take p = D := ⟨_, rfl⟩
      rw [hDG] at a1 hl0 ⊢
      obtain ⟨q, hq⟩ : ∃ q, DG.length = q + p := ⟨DG.length - p, by omega⟩
      have hql : q ≤ 500 := by omega
      clear hDG rl1 rl2 hl0
      by_cases hp0 : p = 0
      · have hp1 : ¬ 0 < p := by omega
        clear hp0
        have hzD : (baL DG).size = q + p := by rw [baL_size]; exact hq
        have x3 : (baL DG).extract 0 q = baL (DG.take q) := by rw [baL_cut]; simp
        have x4 : (baL DG).extract q (q + p) = baL (DG.drop q) := by rw [baL_cut, List.take_of_length_le (by omega)]
        have y1 : (baL (DG.take q)).size = q := by rw [baL_size]; simp; omega
        have y2 : (baL (DG.drop q)).size = p := by rw [baL_size]; simp; omega
        have hpt : (if (DG.drop (DG.length - p)).isEmpty = true then DG.take (DG.length - p) else DG.take (DG.length - p) ++ 46 :: DG.drop (DG.length - p)) = DG.take q := by
          rw [show DG.length - p = q by omega, if_pos (by rw [List.isEmpty_iff]; exact List.drop_of_length_le (by omega))]
        have b3 : (⟨#[45]⟩ : ByteArray) ++ baL (DG.take q) = baL (45 :: (DG.take q)) := baL_append [45] _
        have hfx : (DG.any (fun z => z != 48) = true → baL (fxL true DG p) = baL (45 :: (DG.take q))) ∧ (DG.any (fun z => z != 48) = false → baL (fxL true DG p) = baL (DG.take q)) := by
          constructor
          · intro h
            unfold fxL
            rw [hpt, show fxB true DG = true by unfold fxB; simp [h]]
            rfl
          · intro h
            unfold fxL
            rw [hpt, show fxB true DG = false by unfold fxB; simp [h]]
            rfl
        have HDG : Hid (DG.length = q + p ∧ ((DG.any (fun z => z != 48) = true → baL (fxL true DG p) = baL (45 :: (DG.take q))) ∧ (DG.any (fun z => z != 48) = false → baL (fxL true DG p) = baL (DG.take q))) ∧ ∀ (k : Nat) (h : k < (baL DG).size) (h2 : k < DG.length), ((baL DG)[k]'h).toNat = (DG[k]'h2).toNat) := ⟨hq, hfx, fun k h h2 => by have := bl_at DG (baL DG) rfl k h h2; rw [this]⟩
        clear hpt hfx hq
        generalize baL (45 :: (DG.take q)) = OM at *
        generalize baL (DG.take q) = D0 at *
        generalize baL (DG.drop q) = D1 at *
        obtain ⟨DB, hDB⟩ : ∃ B, baL DG = B := ⟨_, rfl⟩
        rw [hDB] at hzD x3 x4 HDG a1
        clear hDB
        generalize baL (Wd ++ 46 :: (Fc ++ Rz)) = S at *
        generalize baL (Fc.take p) = FP at *
        generalize baL Wd = WB at *
        go_enter Tryz.func11, Tryz.ntmps11
        go_wp2_with (first
            | (go_at_call 35; with_reducible refine (HN _).mono ?_; rintro e w1 ⟨rfl, m1, h1⟩; subst h1)
            | (go_at_call 36; with_reducible refine (HFF.out _ ((Fr.refl noB w).drewN _)).mono ?_; rintro e w2 ⟨rfl, hF2⟩; replace hF2 := ((Fr.refl noB w).drewN m1).trans hF2))
        go_region
        go_wp2_with fail
        have hG := hF2.drew
        go_loop [10, 11] (fun sv iv => ∃ k : Nat, sv = .bool ((DG.take k).any (fun z => z != 48)) ∧ iv = .int .i64 (k : Int) ∧ k ≤ q + p) (fun sv iv => q + p - (intOf iv).toNat)
        case atStart => exact ⟨0, rfl, rfl, Nat.zero_le _⟩
        case round =>
          obtain ⟨k, rfl, rfl, hk⟩ := hrel
          by_cases hkl : k < q + p
          · have bk : ∀ h, (DB[k]'h).toNat = (DG[k]'(by rw [HDG.out.1]; exact hkl)).toNat := fun h => HDG.out.2.2 k h (by rw [HDG.out.1]; exact hkl)
            have hst := any_step DG k (by rw [HDG.out.1]; exact hkl)
            obtain ⟨z, hz⟩ : ∃ z, DG[k]'(by rw [HDG.out.1]; exact hkl) = z := ⟨_, rfl⟩
            rw [hz] at bk hst
            have hb : ((z.toNat : Int) != 48) = (z != 48) := by
              rw [Bool.eq_iff_iff]
              simp only [bne_iff_ne, ne_eq]
              constructor
              · intro h e
                apply h
                rw [e]
                rfl
              · intro h e
                apply h
                apply UInt8.toNat_inj.1
                have : (48 : UInt8).toNat = 48 := rfl
                omega
            generalize z.toNat = zn at *
            generalize (z != 48) = zb at *
            have HST : Hid _ := hst
            clear hst hz
            generalize hsb : (DG.take k).any (fun z => z != 48) = sb at *
            have HSB : Hid _ := hsb
            clear hsb
            cases sb with
            | true =>
              go_wp2_with fail
              go_round
              case rel => exact ⟨k + 1, by rw [HST.out]; rfl, by go_num, by omega⟩
              case measure => simp [intOf]; omega
            | false =>
              go_wp2_with fail
              go_round
              case rel => exact ⟨k + 1, by rw [HST.out]; simp, by go_num, by omega⟩
              case measure => simp [intOf]; omega
          · obtain rfl : k = q + p := by omega
            have hta : DG.take (q + p) = DG := List.take_of_length_le (by rw [HDG.out.1]; exact Nat.le_refl _)
            rw [hta]
            have HFX := HDG.out.2.1
            clear hta hkl hk
            generalize DG.any (fun z => z != 48) = ab at *
            have HFX2 : Hid _ := HFX
            clear HFX
            cases ab with
            | true =>
              go_wp2_with fail
              go_ret2
              rw [HFX2.out.1 (by first | rfl | trivial)]
              exact ⟨rfl, hG⟩
            | false =>
              go_wp2_with fail
              go_ret2
              rw [HFX2.out.2 (by first | rfl | trivial)]
              exact ⟨rfl, hG⟩
      · have hp1 : 0 < p := by omega
        have hzD : (baL DG).size = q + p := by rw [baL_size]; exact hq
        have x3 : (baL DG).extract 0 q = baL (DG.take q) := by rw [baL_cut]; simp
        have x4 : (baL DG).extract q (q + p) = baL (DG.drop q) := by rw [baL_cut, List.take_of_length_le (by omega)]
        have y1 : (baL (DG.take q)).size = q := by rw [baL_size]; simp; omega
        have y2 : (baL (DG.drop q)).size = p := by rw [baL_size]; simp; omega
        have hpt : (if (DG.drop (DG.length - p)).isEmpty = true then DG.take (DG.length - p) else DG.take (DG.length - p) ++ 46 :: DG.drop (DG.length - p)) = DG.take q ++ 46 :: DG.drop q := by
          rw [show DG.length - p = q by omega, if_neg (by rw [List.isEmpty_iff]; intro h; have := congrArg List.length h; rw [List.length_drop] at this; simp at this; omega)]
        have b1 : (⟨#[46]⟩ : ByteArray) ++ baL (DG.drop q) = baL (46 :: DG.drop q) := baL_append [46] _
        have b2 : baL (DG.take q) ++ baL (46 :: DG.drop q) = baL (DG.take q ++ 46 :: DG.drop q) := baL_append _ _
        have y3 : (baL (46 :: DG.drop q)).size = p + 1 := by rw [baL_size]; simp; omega
        have y4 : (baL (DG.take q ++ 46 :: DG.drop q)).size = q + p + 1 := by rw [baL_size]; simp; omega
        have b3 : (⟨#[45]⟩ : ByteArray) ++ baL (DG.take q ++ 46 :: DG.drop q) = baL (45 :: (DG.take q ++ 46 :: DG.drop q)) := baL_append [45] _
        have hfx : (DG.any (fun z => z != 48) = true → baL (fxL true DG p) = baL (45 :: (DG.take q ++ 46 :: DG.drop q))) ∧ (DG.any (fun z => z != 48) = false → baL (fxL true DG p) = baL (DG.take q ++ 46 :: DG.drop q)) := by
          constructor
          · intro h
            unfold fxL
            rw [hpt, show fxB true DG = true by unfold fxB; simp [h]]
            rfl
          · intro h
            unfold fxL
            rw [hpt, show fxB true DG = false by unfold fxB; simp [h]]
            rfl
        have HDG : Hid (DG.length = q + p ∧ ((DG.any (fun z => z != 48) = true → baL (fxL true DG p) = baL (45 :: (DG.take q ++ 46 :: DG.drop q))) ∧ (DG.any (fun z => z != 48) = false → baL (fxL true DG p) = baL (DG.take q ++ 46 :: DG.drop q))) ∧ ∀ (k : Nat) (h : k < (baL DG).size) (h2 : k < DG.length), ((baL DG)[k]'h).toNat = (DG[k]'h2).toNat) := ⟨hq, hfx, fun k h h2 => by have := bl_at DG (baL DG) rfl k h h2; rw [this]⟩
        clear hpt hfx hq
        generalize baL (46 :: DG.drop q) = E1 at *
        generalize baL (45 :: (DG.take q ++ 46 :: DG.drop q)) = OM at *
        generalize baL (DG.take q ++ 46 :: DG.drop q) = OU at *
        generalize baL (DG.take q) = D0 at *
        generalize baL (DG.drop q) = D1 at *
        obtain ⟨DB, hDB⟩ : ∃ B, baL DG = B := ⟨_, rfl⟩
        rw [hDB] at hzD x3 x4 HDG a1
        clear hDB
        generalize baL (Wd ++ 46 :: (Fc ++ Rz)) = S at *
        generalize baL (Fc.take p) = FP at *
        generalize baL Wd = WB at *
        go_enter Tryz.func11, Tryz.ntmps11
        go_wp2_with (first
            | (go_at_call 35; with_reducible refine (HN _).mono ?_; rintro e w1 ⟨rfl, m1, h1⟩; subst h1)
            | (go_at_call 36; with_reducible refine (HFF.out _ ((Fr.refl noB w).drewN _)).mono ?_; rintro e w2 ⟨rfl, hF2⟩; replace hF2 := ((Fr.refl noB w).drewN m1).trans hF2))
        go_region
        go_wp2_with fail
        have hG := hF2.drew
        go_loop [10, 11] (fun sv iv => ∃ k : Nat, sv = .bool ((DG.take k).any (fun z => z != 48)) ∧ iv = .int .i64 (k : Int) ∧ k ≤ q + p) (fun sv iv => q + p - (intOf iv).toNat)
        case atStart => exact ⟨0, rfl, rfl, Nat.zero_le _⟩
        case round =>
          obtain ⟨k, rfl, rfl, hk⟩ := hrel
          by_cases hkl : k < q + p
          · have bk : ∀ h, (DB[k]'h).toNat = (DG[k]'(by rw [HDG.out.1]; exact hkl)).toNat := fun h => HDG.out.2.2 k h (by rw [HDG.out.1]; exact hkl)
            have hst := any_step DG k (by rw [HDG.out.1]; exact hkl)
            obtain ⟨z, hz⟩ : ∃ z, DG[k]'(by rw [HDG.out.1]; exact hkl) = z := ⟨_, rfl⟩
            rw [hz] at bk hst
            have hb : ((z.toNat : Int) != 48) = (z != 48) := by
              rw [Bool.eq_iff_iff]
              simp only [bne_iff_ne, ne_eq]
              constructor
              · intro h e
                apply h
                rw [e]
                rfl
              · intro h e
                apply h
                apply UInt8.toNat_inj.1
                have : (48 : UInt8).toNat = 48 := rfl
                omega
            generalize z.toNat = zn at *
            generalize (z != 48) = zb at *
            have HST : Hid _ := hst
            clear hst hz
            generalize hsb : (DG.take k).any (fun z => z != 48) = sb at *
            have HSB : Hid _ := hsb
            clear hsb
            cases sb with
            | true =>
              go_wp2_with fail
              go_round
              case rel => exact ⟨k + 1, by rw [HST.out]; rfl, by go_num, by omega⟩
              case measure => simp [intOf]; omega
            | false =>
              go_wp2_with fail
              go_round
              case rel => exact ⟨k + 1, by rw [HST.out]; simp, by go_num, by omega⟩
              case measure => simp [intOf]; omega
          · obtain rfl : k = q + p := by omega
            have hta : DG.take (q + p) = DG := List.take_of_length_le (by rw [HDG.out.1]; exact Nat.le_refl _)
            rw [hta]
            have HFX := HDG.out.2.1
            clear hta hkl hk
            generalize DG.any (fun z => z != 48) = ab at *
            have HFX2 : Hid _ := HFX
            clear HFX
            cases ab with
            | true =>
              go_wp2_with fail
              go_ret2
              rw [HFX2.out.1 (by first | rfl | trivial)]
              exact ⟨rfl, hG⟩
            | false =>
              go_wp2_with fail
              go_ret2
              rw [HFX2.out.2 (by first | rfl | trivial)]
              exact ⟨rfl, hG⟩
  by_cases h0 : absN x = 0
  · rw [decide_eq_false hs] at hlt ⊢
    have hz : (FloatKind.f64.format.order x 0 == some .eq) = true := by
      rw [order_zero x (fin_of HFI.out)]
      exact decide_eq_true h0
    rw [h0] at HFF
    by_cases h5 : 53 ≤ d5
    · rw [if_pos h5]
      obtain ⟨DG, hDG⟩ : ∃ D, rsL (Wd ++ Fc.take p) = D := ⟨_, rfl⟩
      rw [hDG] at HRs rl1 rl2 ⊢
      obtain ⟨q, hq⟩ : ∃ q, DG.length = q + p := ⟨DG.length - p, by omega⟩
      have hql : q ≤ 500 := by omega
      clear hDG rl1 rl2 hl0
      by_cases hp0 : p = 0
      · have hp1 : ¬ 0 < p := by omega
        clear hp0
        have hzD : (baL DG).size = q + p := by rw [baL_size]; exact hq
        have x3 : (baL DG).extract 0 q = baL (DG.take q) := by rw [baL_cut]; simp
        have x4 : (baL DG).extract q (q + p) = baL (DG.drop q) := by rw [baL_cut, List.take_of_length_le (by omega)]
        have y1 : (baL (DG.take q)).size = q := by rw [baL_size]; simp; omega
        have y2 : (baL (DG.drop q)).size = p := by rw [baL_size]; simp; omega
        have hpt : (if (DG.drop (DG.length - p)).isEmpty = true then DG.take (DG.length - p) else DG.take (DG.length - p) ++ 46 :: DG.drop (DG.length - p)) = DG.take q := by
          rw [show DG.length - p = q by omega, if_pos (by rw [List.isEmpty_iff]; exact List.drop_of_length_le (by omega))]
        have hfx : (DG.any (fun z => z != 48) = true → baL (fxL false DG p) = baL (DG.take q)) ∧ (DG.any (fun z => z != 48) = false → baL (fxL false DG p) = baL (DG.take q)) := by
          constructor
          all_goals
            intro h
            unfold fxL
            rw [hpt, show fxB false DG = false from rfl]
            rfl
        have HDG : Hid (DG.length = q + p ∧ ((DG.any (fun z => z != 48) = true → baL (fxL false DG p) = baL (DG.take q)) ∧ (DG.any (fun z => z != 48) = false → baL (fxL false DG p) = baL (DG.take q))) ∧ ∀ (k : Nat) (h : k < (baL DG).size) (h2 : k < DG.length), ((baL DG)[k]'h).toNat = (DG[k]'h2).toNat) := ⟨hq, hfx, fun k h h2 => by have := bl_at DG (baL DG) rfl k h h2; rw [this]⟩
        clear hpt hfx hq
        generalize baL (DG.take q) = D0 at *
        generalize baL (DG.drop q) = D1 at *
        obtain ⟨DB, hDB⟩ : ∃ B, baL DG = B := ⟨_, rfl⟩
        rw [hDB] at hzD x3 x4 HDG HRs
        clear hDB
        generalize baL (Wd ++ Fc.take p) = DA at *
        generalize baL (Wd ++ 46 :: (Fc ++ Rz)) = S at *
        generalize baL (Fc.take p) = FP at *
        generalize baL Wd = WB at *
        go_enter Tryz.func11, Tryz.ntmps11
        go_wp2_with (first
            | (go_at_call 35; with_reducible refine (HN _).mono ?_; rintro e w1 ⟨rfl, m1, h1⟩; subst h1)
            | (go_at_call 36; with_reducible refine (HFF.out _ ((Fr.refl noB w).drewN _)).mono ?_; rintro e w2 ⟨rfl, hF2⟩; replace hF2 := ((Fr.refl noB w).drewN m1).trans hF2))
        go_region
        go_wp2_with (go_at_call 37; with_reducible refine (HRs _).mono ?_; rintro e w4 ⟨rfl, hF4⟩)
        have hG := (hF2.drew).trans hF4
        go_loop [10, 11] (fun sv iv => ∃ k : Nat, sv = .bool ((DG.take k).any (fun z => z != 48)) ∧ iv = .int .i64 (k : Int) ∧ k ≤ q + p) (fun sv iv => q + p - (intOf iv).toNat)
        case atStart => exact ⟨0, rfl, rfl, Nat.zero_le _⟩
        case round =>
          obtain ⟨k, rfl, rfl, hk⟩ := hrel
          by_cases hkl : k < q + p
          · have bk : ∀ h, (DB[k]'h).toNat = (DG[k]'(by rw [HDG.out.1]; exact hkl)).toNat := fun h => HDG.out.2.2 k h (by rw [HDG.out.1]; exact hkl)
            have hst := any_step DG k (by rw [HDG.out.1]; exact hkl)
            obtain ⟨z, hz⟩ : ∃ z, DG[k]'(by rw [HDG.out.1]; exact hkl) = z := ⟨_, rfl⟩
            rw [hz] at bk hst
            have hb : ((z.toNat : Int) != 48) = (z != 48) := by
              rw [Bool.eq_iff_iff]
              simp only [bne_iff_ne, ne_eq]
              constructor
              · intro h e
                apply h
                rw [e]
                rfl
              · intro h e
                apply h
                apply UInt8.toNat_inj.1
                have : (48 : UInt8).toNat = 48 := rfl
                omega
            generalize z.toNat = zn at *
            generalize (z != 48) = zb at *
            have HST : Hid _ := hst
            clear hst hz
            generalize hsb : (DG.take k).any (fun z => z != 48) = sb at *
            have HSB : Hid _ := hsb
            clear hsb
            cases sb with
            | true =>
              go_wp2_with fail
              go_round
              case rel => exact ⟨k + 1, by rw [HST.out]; rfl, by go_num, by omega⟩
              case measure => simp [intOf]; omega
            | false =>
              go_wp2_with fail
              go_round
              case rel => exact ⟨k + 1, by rw [HST.out]; simp, by go_num, by omega⟩
              case measure => simp [intOf]; omega
          · obtain rfl : k = q + p := by omega
            have hta : DG.take (q + p) = DG := List.take_of_length_le (by rw [HDG.out.1]; exact Nat.le_refl _)
            rw [hta]
            have HFX := HDG.out.2.1
            clear hta hkl hk
            generalize DG.any (fun z => z != 48) = ab at *
            have HFX2 : Hid _ := HFX
            clear HFX
            cases ab with
            | true =>
              go_wp2_with fail
              go_ret2
              rw [HFX2.out.1 (by first | rfl | trivial)]
              exact ⟨rfl, hG⟩
            | false =>
              go_wp2_with fail
              go_ret2
              rw [HFX2.out.2 (by first | rfl | trivial)]
              exact ⟨rfl, hG⟩
      · have hp1 : 0 < p := by omega
        have hzD : (baL DG).size = q + p := by rw [baL_size]; exact hq
        have x3 : (baL DG).extract 0 q = baL (DG.take q) := by rw [baL_cut]; simp
        have x4 : (baL DG).extract q (q + p) = baL (DG.drop q) := by rw [baL_cut, List.take_of_length_le (by omega)]
        have y1 : (baL (DG.take q)).size = q := by rw [baL_size]; simp; omega
        have y2 : (baL (DG.drop q)).size = p := by rw [baL_size]; simp; omega
        have hpt : (if (DG.drop (DG.length - p)).isEmpty = true then DG.take (DG.length - p) else DG.take (DG.length - p) ++ 46 :: DG.drop (DG.length - p)) = DG.take q ++ 46 :: DG.drop q := by
          rw [show DG.length - p = q by omega, if_neg (by rw [List.isEmpty_iff]; intro h; have := congrArg List.length h; rw [List.length_drop] at this; simp at this; omega)]
        have b1 : (⟨#[46]⟩ : ByteArray) ++ baL (DG.drop q) = baL (46 :: DG.drop q) := baL_append [46] _
        have b2 : baL (DG.take q) ++ baL (46 :: DG.drop q) = baL (DG.take q ++ 46 :: DG.drop q) := baL_append _ _
        have y3 : (baL (46 :: DG.drop q)).size = p + 1 := by rw [baL_size]; simp; omega
        have y4 : (baL (DG.take q ++ 46 :: DG.drop q)).size = q + p + 1 := by rw [baL_size]; simp; omega
        have hfx : (DG.any (fun z => z != 48) = true → baL (fxL false DG p) = baL (DG.take q ++ 46 :: DG.drop q)) ∧ (DG.any (fun z => z != 48) = false → baL (fxL false DG p) = baL (DG.take q ++ 46 :: DG.drop q)) := by
          constructor
          all_goals
            intro h
            unfold fxL
            rw [hpt, show fxB false DG = false from rfl]
            rfl
        have HDG : Hid (DG.length = q + p ∧ ((DG.any (fun z => z != 48) = true → baL (fxL false DG p) = baL (DG.take q ++ 46 :: DG.drop q)) ∧ (DG.any (fun z => z != 48) = false → baL (fxL false DG p) = baL (DG.take q ++ 46 :: DG.drop q))) ∧ ∀ (k : Nat) (h : k < (baL DG).size) (h2 : k < DG.length), ((baL DG)[k]'h).toNat = (DG[k]'h2).toNat) := ⟨hq, hfx, fun k h h2 => by have := bl_at DG (baL DG) rfl k h h2; rw [this]⟩
        clear hpt hfx hq
        generalize baL (46 :: DG.drop q) = E1 at *
        generalize baL (DG.take q ++ 46 :: DG.drop q) = OU at *
        generalize baL (DG.take q) = D0 at *
        generalize baL (DG.drop q) = D1 at *
        obtain ⟨DB, hDB⟩ : ∃ B, baL DG = B := ⟨_, rfl⟩
        rw [hDB] at hzD x3 x4 HDG HRs
        clear hDB
        generalize baL (Wd ++ Fc.take p) = DA at *
        generalize baL (Wd ++ 46 :: (Fc ++ Rz)) = S at *
        generalize baL (Fc.take p) = FP at *
        generalize baL Wd = WB at *
        go_enter Tryz.func11, Tryz.ntmps11
        go_wp2_with (first
            | (go_at_call 35; with_reducible refine (HN _).mono ?_; rintro e w1 ⟨rfl, m1, h1⟩; subst h1)
            | (go_at_call 36; with_reducible refine (HFF.out _ ((Fr.refl noB w).drewN _)).mono ?_; rintro e w2 ⟨rfl, hF2⟩; replace hF2 := ((Fr.refl noB w).drewN m1).trans hF2))
        go_region
        go_wp2_with (go_at_call 37; with_reducible refine (HRs _).mono ?_; rintro e w4 ⟨rfl, hF4⟩)
        have hG := (hF2.drew).trans hF4
        go_loop [10, 11] (fun sv iv => ∃ k : Nat, sv = .bool ((DG.take k).any (fun z => z != 48)) ∧ iv = .int .i64 (k : Int) ∧ k ≤ q + p) (fun sv iv => q + p - (intOf iv).toNat)
        case atStart => exact ⟨0, rfl, rfl, Nat.zero_le _⟩
        case round =>
          obtain ⟨k, rfl, rfl, hk⟩ := hrel
          by_cases hkl : k < q + p
          · have bk : ∀ h, (DB[k]'h).toNat = (DG[k]'(by rw [HDG.out.1]; exact hkl)).toNat := fun h => HDG.out.2.2 k h (by rw [HDG.out.1]; exact hkl)
            have hst := any_step DG k (by rw [HDG.out.1]; exact hkl)
            obtain ⟨z, hz⟩ : ∃ z, DG[k]'(by rw [HDG.out.1]; exact hkl) = z := ⟨_, rfl⟩
            rw [hz] at bk hst
            have hb : ((z.toNat : Int) != 48) = (z != 48) := by
              rw [Bool.eq_iff_iff]
              simp only [bne_iff_ne, ne_eq]
              constructor
              · intro h e
                apply h
                rw [e]
                rfl
              · intro h e
                apply h
                apply UInt8.toNat_inj.1
                have : (48 : UInt8).toNat = 48 := rfl
                omega
            generalize z.toNat = zn at *
            generalize (z != 48) = zb at *
            have HST : Hid _ := hst
            clear hst hz
            generalize hsb : (DG.take k).any (fun z => z != 48) = sb at *
            have HSB : Hid _ := hsb
            clear hsb
            cases sb with
            | true =>
              go_wp2_with fail
              go_round
              case rel => exact ⟨k + 1, by rw [HST.out]; rfl, by go_num, by omega⟩
              case measure => simp [intOf]; omega
            | false =>
              go_wp2_with fail
              go_round
              case rel => exact ⟨k + 1, by rw [HST.out]; simp, by go_num, by omega⟩
              case measure => simp [intOf]; omega
          · obtain rfl : k = q + p := by omega
            have hta : DG.take (q + p) = DG := List.take_of_length_le (by rw [HDG.out.1]; exact Nat.le_refl _)
            rw [hta]
            have HFX := HDG.out.2.1
            clear hta hkl hk
            generalize DG.any (fun z => z != 48) = ab at *
            have HFX2 : Hid _ := HFX
            clear HFX
            cases ab with
            | true =>
              go_wp2_with fail
              go_ret2
              rw [HFX2.out.1 (by first | rfl | trivial)]
              exact ⟨rfl, hG⟩
            | false =>
              go_wp2_with fail
              go_ret2
              rw [HFX2.out.2 (by first | rfl | trivial)]
              exact ⟨rfl, hG⟩
    · rw [if_neg h5]
      clear HRs
      obtain ⟨DG, hDG⟩ : ∃ D, Wd ++ Fc.take p = D := ⟨_, rfl⟩
      rw [hDG] at a1 hl0 ⊢
      obtain ⟨q, hq⟩ : ∃ q, DG.length = q + p := ⟨DG.length - p, by omega⟩
      have hql : q ≤ 500 := by omega
      clear hDG rl1 rl2 hl0
      by_cases hp0 : p = 0
      · have hp1 : ¬ 0 < p := by omega
        clear hp0
        have hzD : (baL DG).size = q + p := by rw [baL_size]; exact hq
        have x3 : (baL DG).extract 0 q = baL (DG.take q) := by rw [baL_cut]; simp
        have x4 : (baL DG).extract q (q + p) = baL (DG.drop q) := by rw [baL_cut, List.take_of_length_le (by omega)]
        have y1 : (baL (DG.take q)).size = q := by rw [baL_size]; simp; omega
        have y2 : (baL (DG.drop q)).size = p := by rw [baL_size]; simp; omega
        have hpt : (if (DG.drop (DG.length - p)).isEmpty = true then DG.take (DG.length - p) else DG.take (DG.length - p) ++ 46 :: DG.drop (DG.length - p)) = DG.take q := by
          rw [show DG.length - p = q by omega, if_pos (by rw [List.isEmpty_iff]; exact List.drop_of_length_le (by omega))]
        have hfx : (DG.any (fun z => z != 48) = true → baL (fxL false DG p) = baL (DG.take q)) ∧ (DG.any (fun z => z != 48) = false → baL (fxL false DG p) = baL (DG.take q)) := by
          constructor
          all_goals
            intro h
            unfold fxL
            rw [hpt, show fxB false DG = false from rfl]
            rfl
        have HDG : Hid (DG.length = q + p ∧ ((DG.any (fun z => z != 48) = true → baL (fxL false DG p) = baL (DG.take q)) ∧ (DG.any (fun z => z != 48) = false → baL (fxL false DG p) = baL (DG.take q))) ∧ ∀ (k : Nat) (h : k < (baL DG).size) (h2 : k < DG.length), ((baL DG)[k]'h).toNat = (DG[k]'h2).toNat) := ⟨hq, hfx, fun k h h2 => by have := bl_at DG (baL DG) rfl k h h2; rw [this]⟩
        clear hpt hfx hq
        generalize baL (DG.take q) = D0 at *
        generalize baL (DG.drop q) = D1 at *
        obtain ⟨DB, hDB⟩ : ∃ B, baL DG = B := ⟨_, rfl⟩
        rw [hDB] at hzD x3 x4 HDG a1
        clear hDB
        generalize baL (Wd ++ 46 :: (Fc ++ Rz)) = S at *
        generalize baL (Fc.take p) = FP at *
        generalize baL Wd = WB at *
        go_enter Tryz.func11, Tryz.ntmps11
        go_wp2_with (first
            | (go_at_call 35; with_reducible refine (HN _).mono ?_; rintro e w1 ⟨rfl, m1, h1⟩; subst h1)
            | (go_at_call 36; with_reducible refine (HFF.out _ ((Fr.refl noB w).drewN _)).mono ?_; rintro e w2 ⟨rfl, hF2⟩; replace hF2 := ((Fr.refl noB w).drewN m1).trans hF2))
        go_region
        go_wp2_with fail
        have hG := hF2.drew
        go_loop [10, 11] (fun sv iv => ∃ k : Nat, sv = .bool ((DG.take k).any (fun z => z != 48)) ∧ iv = .int .i64 (k : Int) ∧ k ≤ q + p) (fun sv iv => q + p - (intOf iv).toNat)
        case atStart => exact ⟨0, rfl, rfl, Nat.zero_le _⟩
        case round =>
          obtain ⟨k, rfl, rfl, hk⟩ := hrel
          by_cases hkl : k < q + p
          · have bk : ∀ h, (DB[k]'h).toNat = (DG[k]'(by rw [HDG.out.1]; exact hkl)).toNat := fun h => HDG.out.2.2 k h (by rw [HDG.out.1]; exact hkl)
            have hst := any_step DG k (by rw [HDG.out.1]; exact hkl)
            obtain ⟨z, hz⟩ : ∃ z, DG[k]'(by rw [HDG.out.1]; exact hkl) = z := ⟨_, rfl⟩
            rw [hz] at bk hst
            have hb : ((z.toNat : Int) != 48) = (z != 48) := by
              rw [Bool.eq_iff_iff]
              simp only [bne_iff_ne, ne_eq]
              constructor
              · intro h e
                apply h
                rw [e]
                rfl
              · intro h e
                apply h
                apply UInt8.toNat_inj.1
                have : (48 : UInt8).toNat = 48 := rfl
                omega
            generalize z.toNat = zn at *
            generalize (z != 48) = zb at *
            have HST : Hid _ := hst
            clear hst hz
            generalize hsb : (DG.take k).any (fun z => z != 48) = sb at *
            have HSB : Hid _ := hsb
            clear hsb
            cases sb with
            | true =>
              go_wp2_with fail
              go_round
              case rel => exact ⟨k + 1, by rw [HST.out]; rfl, by go_num, by omega⟩
              case measure => simp [intOf]; omega
            | false =>
              go_wp2_with fail
              go_round
              case rel => exact ⟨k + 1, by rw [HST.out]; simp, by go_num, by omega⟩
              case measure => simp [intOf]; omega
          · obtain rfl : k = q + p := by omega
            have hta : DG.take (q + p) = DG := List.take_of_length_le (by rw [HDG.out.1]; exact Nat.le_refl _)
            rw [hta]
            have HFX := HDG.out.2.1
            clear hta hkl hk
            generalize DG.any (fun z => z != 48) = ab at *
            have HFX2 : Hid _ := HFX
            clear HFX
            cases ab with
            | true =>
              go_wp2_with fail
              go_ret2
              rw [HFX2.out.1 (by first | rfl | trivial)]
              exact ⟨rfl, hG⟩
            | false =>
              go_wp2_with fail
              go_ret2
              rw [HFX2.out.2 (by first | rfl | trivial)]
              exact ⟨rfl, hG⟩
      · have hp1 : 0 < p := by omega
        have hzD : (baL DG).size = q + p := by rw [baL_size]; exact hq
        have x3 : (baL DG).extract 0 q = baL (DG.take q) := by rw [baL_cut]; simp
        have x4 : (baL DG).extract q (q + p) = baL (DG.drop q) := by rw [baL_cut, List.take_of_length_le (by omega)]
        have y1 : (baL (DG.take q)).size = q := by rw [baL_size]; simp; omega
        have y2 : (baL (DG.drop q)).size = p := by rw [baL_size]; simp; omega
        have hpt : (if (DG.drop (DG.length - p)).isEmpty = true then DG.take (DG.length - p) else DG.take (DG.length - p) ++ 46 :: DG.drop (DG.length - p)) = DG.take q ++ 46 :: DG.drop q := by
          rw [show DG.length - p = q by omega, if_neg (by rw [List.isEmpty_iff]; intro h; have := congrArg List.length h; rw [List.length_drop] at this; simp at this; omega)]
        have b1 : (⟨#[46]⟩ : ByteArray) ++ baL (DG.drop q) = baL (46 :: DG.drop q) := baL_append [46] _
        have b2 : baL (DG.take q) ++ baL (46 :: DG.drop q) = baL (DG.take q ++ 46 :: DG.drop q) := baL_append _ _
        have y3 : (baL (46 :: DG.drop q)).size = p + 1 := by rw [baL_size]; simp; omega
        have y4 : (baL (DG.take q ++ 46 :: DG.drop q)).size = q + p + 1 := by rw [baL_size]; simp; omega
        have hfx : (DG.any (fun z => z != 48) = true → baL (fxL false DG p) = baL (DG.take q ++ 46 :: DG.drop q)) ∧ (DG.any (fun z => z != 48) = false → baL (fxL false DG p) = baL (DG.take q ++ 46 :: DG.drop q)) := by
          constructor
          all_goals
            intro h
            unfold fxL
            rw [hpt, show fxB false DG = false from rfl]
            rfl
        have HDG : Hid (DG.length = q + p ∧ ((DG.any (fun z => z != 48) = true → baL (fxL false DG p) = baL (DG.take q ++ 46 :: DG.drop q)) ∧ (DG.any (fun z => z != 48) = false → baL (fxL false DG p) = baL (DG.take q ++ 46 :: DG.drop q))) ∧ ∀ (k : Nat) (h : k < (baL DG).size) (h2 : k < DG.length), ((baL DG)[k]'h).toNat = (DG[k]'h2).toNat) := ⟨hq, hfx, fun k h h2 => by have := bl_at DG (baL DG) rfl k h h2; rw [this]⟩
        clear hpt hfx hq
        generalize baL (46 :: DG.drop q) = E1 at *
        generalize baL (DG.take q ++ 46 :: DG.drop q) = OU at *
        generalize baL (DG.take q) = D0 at *
        generalize baL (DG.drop q) = D1 at *
        obtain ⟨DB, hDB⟩ : ∃ B, baL DG = B := ⟨_, rfl⟩
        rw [hDB] at hzD x3 x4 HDG a1
        clear hDB
        generalize baL (Wd ++ 46 :: (Fc ++ Rz)) = S at *
        generalize baL (Fc.take p) = FP at *
        generalize baL Wd = WB at *
        go_enter Tryz.func11, Tryz.ntmps11
        go_wp2_with (first
            | (go_at_call 35; with_reducible refine (HN _).mono ?_; rintro e w1 ⟨rfl, m1, h1⟩; subst h1)
            | (go_at_call 36; with_reducible refine (HFF.out _ ((Fr.refl noB w).drewN _)).mono ?_; rintro e w2 ⟨rfl, hF2⟩; replace hF2 := ((Fr.refl noB w).drewN m1).trans hF2))
        go_region
        go_wp2_with fail
        have hG := hF2.drew
        go_loop [10, 11] (fun sv iv => ∃ k : Nat, sv = .bool ((DG.take k).any (fun z => z != 48)) ∧ iv = .int .i64 (k : Int) ∧ k ≤ q + p) (fun sv iv => q + p - (intOf iv).toNat)
        case atStart => exact ⟨0, rfl, rfl, Nat.zero_le _⟩
        case round =>
          obtain ⟨k, rfl, rfl, hk⟩ := hrel
          by_cases hkl : k < q + p
          · have bk : ∀ h, (DB[k]'h).toNat = (DG[k]'(by rw [HDG.out.1]; exact hkl)).toNat := fun h => HDG.out.2.2 k h (by rw [HDG.out.1]; exact hkl)
            have hst := any_step DG k (by rw [HDG.out.1]; exact hkl)
            obtain ⟨z, hz⟩ : ∃ z, DG[k]'(by rw [HDG.out.1]; exact hkl) = z := ⟨_, rfl⟩
            rw [hz] at bk hst
            have hb : ((z.toNat : Int) != 48) = (z != 48) := by
              rw [Bool.eq_iff_iff]
              simp only [bne_iff_ne, ne_eq]
              constructor
              · intro h e
                apply h
                rw [e]
                rfl
              · intro h e
                apply h
                apply UInt8.toNat_inj.1
                have : (48 : UInt8).toNat = 48 := rfl
                omega
            generalize z.toNat = zn at *
            generalize (z != 48) = zb at *
            have HST : Hid _ := hst
            clear hst hz
            generalize hsb : (DG.take k).any (fun z => z != 48) = sb at *
            have HSB : Hid _ := hsb
            clear hsb
            cases sb with
            | true =>
              go_wp2_with fail
              go_round
              case rel => exact ⟨k + 1, by rw [HST.out]; rfl, by go_num, by omega⟩
              case measure => simp [intOf]; omega
            | false =>
              go_wp2_with fail
              go_round
              case rel => exact ⟨k + 1, by rw [HST.out]; simp, by go_num, by omega⟩
              case measure => simp [intOf]; omega
          · obtain rfl : k = q + p := by omega
            have hta : DG.take (q + p) = DG := List.take_of_length_le (by rw [HDG.out.1]; exact Nat.le_refl _)
            rw [hta]
            have HFX := HDG.out.2.1
            clear hta hkl hk
            generalize DG.any (fun z => z != 48) = ab at *
            have HFX2 : Hid _ := HFX
            clear HFX
            cases ab with
            | true =>
              go_wp2_with fail
              go_ret2
              rw [HFX2.out.1 (by first | rfl | trivial)]
              exact ⟨rfl, hG⟩
            | false =>
              go_wp2_with fail
              go_ret2
              rw [HFX2.out.2 (by first | rfl | trivial)]
              exact ⟨rfl, hG⟩
  · rw [decide_eq_false hs] at hlt ⊢
    have hxy : absN x = x := by unfold absN at h0 ⊢; omega
    have hz : (FloatKind.f64.format.order x 0 == some .eq) = false := by
      rw [order_zero x (fin_of HFI.out)]
      exact decide_eq_false h0
    rw [hxy] at HFF
    by_cases h5 : 53 ≤ d5
    · rw [if_pos h5]
      obtain ⟨DG, hDG⟩ : ∃ D, rsL (Wd ++ Fc.take p) = D := ⟨_, rfl⟩
      rw [hDG] at HRs rl1 rl2 ⊢
      obtain ⟨q, hq⟩ : ∃ q, DG.length = q + p := ⟨DG.length - p, by omega⟩
      have hql : q ≤ 500 := by omega
      clear hDG rl1 rl2 hl0
      by_cases hp0 : p = 0
      · have hp1 : ¬ 0 < p := by omega
        clear hp0
        have hzD : (baL DG).size = q + p := by rw [baL_size]; exact hq
        have x3 : (baL DG).extract 0 q = baL (DG.take q) := by rw [baL_cut]; simp
        have x4 : (baL DG).extract q (q + p) = baL (DG.drop q) := by rw [baL_cut, List.take_of_length_le (by omega)]
        have y1 : (baL (DG.take q)).size = q := by rw [baL_size]; simp; omega
        have y2 : (baL (DG.drop q)).size = p := by rw [baL_size]; simp; omega
        have hpt : (if (DG.drop (DG.length - p)).isEmpty = true then DG.take (DG.length - p) else DG.take (DG.length - p) ++ 46 :: DG.drop (DG.length - p)) = DG.take q := by
          rw [show DG.length - p = q by omega, if_pos (by rw [List.isEmpty_iff]; exact List.drop_of_length_le (by omega))]
        have hfx : (DG.any (fun z => z != 48) = true → baL (fxL false DG p) = baL (DG.take q)) ∧ (DG.any (fun z => z != 48) = false → baL (fxL false DG p) = baL (DG.take q)) := by
          constructor
          all_goals
            intro h
            unfold fxL
            rw [hpt, show fxB false DG = false from rfl]
            rfl
        have HDG : Hid (DG.length = q + p ∧ ((DG.any (fun z => z != 48) = true → baL (fxL false DG p) = baL (DG.take q)) ∧ (DG.any (fun z => z != 48) = false → baL (fxL false DG p) = baL (DG.take q))) ∧ ∀ (k : Nat) (h : k < (baL DG).size) (h2 : k < DG.length), ((baL DG)[k]'h).toNat = (DG[k]'h2).toNat) := ⟨hq, hfx, fun k h h2 => by have := bl_at DG (baL DG) rfl k h h2; rw [this]⟩
        clear hpt hfx hq
        generalize baL (DG.take q) = D0 at *
        generalize baL (DG.drop q) = D1 at *
        obtain ⟨DB, hDB⟩ : ∃ B, baL DG = B := ⟨_, rfl⟩
        rw [hDB] at hzD x3 x4 HDG HRs
        clear hDB
        generalize baL (Wd ++ Fc.take p) = DA at *
        generalize baL (Wd ++ 46 :: (Fc ++ Rz)) = S at *
        generalize baL (Fc.take p) = FP at *
        generalize baL Wd = WB at *
        go_enter Tryz.func11, Tryz.ntmps11
        go_wp2_with (first
            | (go_at_call 35; with_reducible refine (HN _).mono ?_; rintro e w1 ⟨rfl, m1, h1⟩; subst h1)
            | (go_at_call 36; with_reducible refine (HFF.out _ ((Fr.refl noB w).drewN _)).mono ?_; rintro e w2 ⟨rfl, hF2⟩; replace hF2 := ((Fr.refl noB w).drewN m1).trans hF2))
        go_region
        go_wp2_with (go_at_call 37; with_reducible refine (HRs _).mono ?_; rintro e w4 ⟨rfl, hF4⟩)
        have hG := (hF2.drew).trans hF4
        go_loop [10, 11] (fun sv iv => ∃ k : Nat, sv = .bool ((DG.take k).any (fun z => z != 48)) ∧ iv = .int .i64 (k : Int) ∧ k ≤ q + p) (fun sv iv => q + p - (intOf iv).toNat)
        case atStart => exact ⟨0, rfl, rfl, Nat.zero_le _⟩
        case round =>
          obtain ⟨k, rfl, rfl, hk⟩ := hrel
          by_cases hkl : k < q + p
          · have bk : ∀ h, (DB[k]'h).toNat = (DG[k]'(by rw [HDG.out.1]; exact hkl)).toNat := fun h => HDG.out.2.2 k h (by rw [HDG.out.1]; exact hkl)
            have hst := any_step DG k (by rw [HDG.out.1]; exact hkl)
            obtain ⟨z, hz⟩ : ∃ z, DG[k]'(by rw [HDG.out.1]; exact hkl) = z := ⟨_, rfl⟩
            rw [hz] at bk hst
            have hb : ((z.toNat : Int) != 48) = (z != 48) := by
              rw [Bool.eq_iff_iff]
              simp only [bne_iff_ne, ne_eq]
              constructor
              · intro h e
                apply h
                rw [e]
                rfl
              · intro h e
                apply h
                apply UInt8.toNat_inj.1
                have : (48 : UInt8).toNat = 48 := rfl
                omega
            generalize z.toNat = zn at *
            generalize (z != 48) = zb at *
            have HST : Hid _ := hst
            clear hst hz
            generalize hsb : (DG.take k).any (fun z => z != 48) = sb at *
            have HSB : Hid _ := hsb
            clear hsb
            cases sb with
            | true =>
              go_wp2_with fail
              go_round
              case rel => exact ⟨k + 1, by rw [HST.out]; rfl, by go_num, by omega⟩
              case measure => simp [intOf]; omega
            | false =>
              go_wp2_with fail
              go_round
              case rel => exact ⟨k + 1, by rw [HST.out]; simp, by go_num, by omega⟩
              case measure => simp [intOf]; omega
          · obtain rfl : k = q + p := by omega
            have hta : DG.take (q + p) = DG := List.take_of_length_le (by rw [HDG.out.1]; exact Nat.le_refl _)
            rw [hta]
            have HFX := HDG.out.2.1
            clear hta hkl hk
            generalize DG.any (fun z => z != 48) = ab at *
            have HFX2 : Hid _ := HFX
            clear HFX
            cases ab with
            | true =>
              go_wp2_with fail
              go_ret2
              rw [HFX2.out.1 (by first | rfl | trivial)]
              exact ⟨rfl, hG⟩
            | false =>
              go_wp2_with fail
              go_ret2
              rw [HFX2.out.2 (by first | rfl | trivial)]
              exact ⟨rfl, hG⟩
      · have hp1 : 0 < p := by omega
        have hzD : (baL DG).size = q + p := by rw [baL_size]; exact hq
        have x3 : (baL DG).extract 0 q = baL (DG.take q) := by rw [baL_cut]; simp
        have x4 : (baL DG).extract q (q + p) = baL (DG.drop q) := by rw [baL_cut, List.take_of_length_le (by omega)]
        have y1 : (baL (DG.take q)).size = q := by rw [baL_size]; simp; omega
        have y2 : (baL (DG.drop q)).size = p := by rw [baL_size]; simp; omega
        have hpt : (if (DG.drop (DG.length - p)).isEmpty = true then DG.take (DG.length - p) else DG.take (DG.length - p) ++ 46 :: DG.drop (DG.length - p)) = DG.take q ++ 46 :: DG.drop q := by
          rw [show DG.length - p = q by omega, if_neg (by rw [List.isEmpty_iff]; intro h; have := congrArg List.length h; rw [List.length_drop] at this; simp at this; omega)]
        have b1 : (⟨#[46]⟩ : ByteArray) ++ baL (DG.drop q) = baL (46 :: DG.drop q) := baL_append [46] _
        have b2 : baL (DG.take q) ++ baL (46 :: DG.drop q) = baL (DG.take q ++ 46 :: DG.drop q) := baL_append _ _
        have y3 : (baL (46 :: DG.drop q)).size = p + 1 := by rw [baL_size]; simp; omega
        have y4 : (baL (DG.take q ++ 46 :: DG.drop q)).size = q + p + 1 := by rw [baL_size]; simp; omega
        have hfx : (DG.any (fun z => z != 48) = true → baL (fxL false DG p) = baL (DG.take q ++ 46 :: DG.drop q)) ∧ (DG.any (fun z => z != 48) = false → baL (fxL false DG p) = baL (DG.take q ++ 46 :: DG.drop q)) := by
          constructor
          all_goals
            intro h
            unfold fxL
            rw [hpt, show fxB false DG = false from rfl]
            rfl
        have HDG : Hid (DG.length = q + p ∧ ((DG.any (fun z => z != 48) = true → baL (fxL false DG p) = baL (DG.take q ++ 46 :: DG.drop q)) ∧ (DG.any (fun z => z != 48) = false → baL (fxL false DG p) = baL (DG.take q ++ 46 :: DG.drop q))) ∧ ∀ (k : Nat) (h : k < (baL DG).size) (h2 : k < DG.length), ((baL DG)[k]'h).toNat = (DG[k]'h2).toNat) := ⟨hq, hfx, fun k h h2 => by have := bl_at DG (baL DG) rfl k h h2; rw [this]⟩
        clear hpt hfx hq
        generalize baL (46 :: DG.drop q) = E1 at *
        generalize baL (DG.take q ++ 46 :: DG.drop q) = OU at *
        generalize baL (DG.take q) = D0 at *
        generalize baL (DG.drop q) = D1 at *
        obtain ⟨DB, hDB⟩ : ∃ B, baL DG = B := ⟨_, rfl⟩
        rw [hDB] at hzD x3 x4 HDG HRs
        clear hDB
        generalize baL (Wd ++ Fc.take p) = DA at *
        generalize baL (Wd ++ 46 :: (Fc ++ Rz)) = S at *
        generalize baL (Fc.take p) = FP at *
        generalize baL Wd = WB at *
        go_enter Tryz.func11, Tryz.ntmps11
        go_wp2_with (first
            | (go_at_call 35; with_reducible refine (HN _).mono ?_; rintro e w1 ⟨rfl, m1, h1⟩; subst h1)
            | (go_at_call 36; with_reducible refine (HFF.out _ ((Fr.refl noB w).drewN _)).mono ?_; rintro e w2 ⟨rfl, hF2⟩; replace hF2 := ((Fr.refl noB w).drewN m1).trans hF2))
        go_region
        go_wp2_with (go_at_call 37; with_reducible refine (HRs _).mono ?_; rintro e w4 ⟨rfl, hF4⟩)
        have hG := (hF2.drew).trans hF4
        go_loop [10, 11] (fun sv iv => ∃ k : Nat, sv = .bool ((DG.take k).any (fun z => z != 48)) ∧ iv = .int .i64 (k : Int) ∧ k ≤ q + p) (fun sv iv => q + p - (intOf iv).toNat)
        case atStart => exact ⟨0, rfl, rfl, Nat.zero_le _⟩
        case round =>
          obtain ⟨k, rfl, rfl, hk⟩ := hrel
          by_cases hkl : k < q + p
          · have bk : ∀ h, (DB[k]'h).toNat = (DG[k]'(by rw [HDG.out.1]; exact hkl)).toNat := fun h => HDG.out.2.2 k h (by rw [HDG.out.1]; exact hkl)
            have hst := any_step DG k (by rw [HDG.out.1]; exact hkl)
            obtain ⟨z, hz⟩ : ∃ z, DG[k]'(by rw [HDG.out.1]; exact hkl) = z := ⟨_, rfl⟩
            rw [hz] at bk hst
            have hb : ((z.toNat : Int) != 48) = (z != 48) := by
              rw [Bool.eq_iff_iff]
              simp only [bne_iff_ne, ne_eq]
              constructor
              · intro h e
                apply h
                rw [e]
                rfl
              · intro h e
                apply h
                apply UInt8.toNat_inj.1
                have : (48 : UInt8).toNat = 48 := rfl
                omega
            generalize z.toNat = zn at *
            generalize (z != 48) = zb at *
            have HST : Hid _ := hst
            clear hst hz
            generalize hsb : (DG.take k).any (fun z => z != 48) = sb at *
            have HSB : Hid _ := hsb
            clear hsb
            cases sb with
            | true =>
              go_wp2_with fail
              go_round
              case rel => exact ⟨k + 1, by rw [HST.out]; rfl, by go_num, by omega⟩
              case measure => simp [intOf]; omega
            | false =>
              go_wp2_with fail
              go_round
              case rel => exact ⟨k + 1, by rw [HST.out]; simp, by go_num, by omega⟩
              case measure => simp [intOf]; omega
          · obtain rfl : k = q + p := by omega
            have hta : DG.take (q + p) = DG := List.take_of_length_le (by rw [HDG.out.1]; exact Nat.le_refl _)
            rw [hta]
            have HFX := HDG.out.2.1
            clear hta hkl hk
            generalize DG.any (fun z => z != 48) = ab at *
            have HFX2 : Hid _ := HFX
            clear HFX
            cases ab with
            | true =>
              go_wp2_with fail
              go_ret2
              rw [HFX2.out.1 (by first | rfl | trivial)]
              exact ⟨rfl, hG⟩
            | false =>
              go_wp2_with fail
              go_ret2
              rw [HFX2.out.2 (by first | rfl | trivial)]
              exact ⟨rfl, hG⟩
    · rw [if_neg h5]
      clear HRs
      obtain ⟨DG, hDG⟩ : ∃ D, Wd ++ Fc.take p = D := ⟨_, rfl⟩
      rw [hDG] at a1 hl0 ⊢
      obtain ⟨q, hq⟩ : ∃ q, DG.length = q + p := ⟨DG.length - p, by omega⟩
      have hql : q ≤ 500 := by omega
      clear hDG rl1 rl2 hl0
      by_cases hp0 : p = 0
      · have hp1 : ¬ 0 < p := by omega
        clear hp0
        have hzD : (baL DG).size = q + p := by rw [baL_size]; exact hq
        have x3 : (baL DG).extract 0 q = baL (DG.take q) := by rw [baL_cut]; simp
        have x4 : (baL DG).extract q (q + p) = baL (DG.drop q) := by rw [baL_cut, List.take_of_length_le (by omega)]
        have y1 : (baL (DG.take q)).size = q := by rw [baL_size]; simp; omega
        have y2 : (baL (DG.drop q)).size = p := by rw [baL_size]; simp; omega
        have hpt : (if (DG.drop (DG.length - p)).isEmpty = true then DG.take (DG.length - p) else DG.take (DG.length - p) ++ 46 :: DG.drop (DG.length - p)) = DG.take q := by
          rw [show DG.length - p = q by omega, if_pos (by rw [List.isEmpty_iff]; exact List.drop_of_length_le (by omega))]
        have hfx : (DG.any (fun z => z != 48) = true → baL (fxL false DG p) = baL (DG.take q)) ∧ (DG.any (fun z => z != 48) = false → baL (fxL false DG p) = baL (DG.take q)) := by
          constructor
          all_goals
            intro h
            unfold fxL
            rw [hpt, show fxB false DG = false from rfl]
            rfl
        have HDG : Hid (DG.length = q + p ∧ ((DG.any (fun z => z != 48) = true → baL (fxL false DG p) = baL (DG.take q)) ∧ (DG.any (fun z => z != 48) = false → baL (fxL false DG p) = baL (DG.take q))) ∧ ∀ (k : Nat) (h : k < (baL DG).size) (h2 : k < DG.length), ((baL DG)[k]'h).toNat = (DG[k]'h2).toNat) := ⟨hq, hfx, fun k h h2 => by have := bl_at DG (baL DG) rfl k h h2; rw [this]⟩
        clear hpt hfx hq
        generalize baL (DG.take q) = D0 at *
        generalize baL (DG.drop q) = D1 at *
        obtain ⟨DB, hDB⟩ : ∃ B, baL DG = B := ⟨_, rfl⟩
        rw [hDB] at hzD x3 x4 HDG a1
        clear hDB
        generalize baL (Wd ++ 46 :: (Fc ++ Rz)) = S at *
        generalize baL (Fc.take p) = FP at *
        generalize baL Wd = WB at *
        go_enter Tryz.func11, Tryz.ntmps11
        go_wp2_with (first
            | (go_at_call 35; with_reducible refine (HN _).mono ?_; rintro e w1 ⟨rfl, m1, h1⟩; subst h1)
            | (go_at_call 36; with_reducible refine (HFF.out _ ((Fr.refl noB w).drewN _)).mono ?_; rintro e w2 ⟨rfl, hF2⟩; replace hF2 := ((Fr.refl noB w).drewN m1).trans hF2))
        go_region
        go_wp2_with fail
        have hG := hF2.drew
        go_loop [10, 11] (fun sv iv => ∃ k : Nat, sv = .bool ((DG.take k).any (fun z => z != 48)) ∧ iv = .int .i64 (k : Int) ∧ k ≤ q + p) (fun sv iv => q + p - (intOf iv).toNat)
        case atStart => exact ⟨0, rfl, rfl, Nat.zero_le _⟩
        case round =>
          obtain ⟨k, rfl, rfl, hk⟩ := hrel
          by_cases hkl : k < q + p
          · have bk : ∀ h, (DB[k]'h).toNat = (DG[k]'(by rw [HDG.out.1]; exact hkl)).toNat := fun h => HDG.out.2.2 k h (by rw [HDG.out.1]; exact hkl)
            have hst := any_step DG k (by rw [HDG.out.1]; exact hkl)
            obtain ⟨z, hz⟩ : ∃ z, DG[k]'(by rw [HDG.out.1]; exact hkl) = z := ⟨_, rfl⟩
            rw [hz] at bk hst
            have hb : ((z.toNat : Int) != 48) = (z != 48) := by
              rw [Bool.eq_iff_iff]
              simp only [bne_iff_ne, ne_eq]
              constructor
              · intro h e
                apply h
                rw [e]
                rfl
              · intro h e
                apply h
                apply UInt8.toNat_inj.1
                have : (48 : UInt8).toNat = 48 := rfl
                omega
            generalize z.toNat = zn at *
            generalize (z != 48) = zb at *
            have HST : Hid _ := hst
            clear hst hz
            generalize hsb : (DG.take k).any (fun z => z != 48) = sb at *
            have HSB : Hid _ := hsb
            clear hsb
            cases sb with
            | true =>
              go_wp2_with fail
              go_round
              case rel => exact ⟨k + 1, by rw [HST.out]; rfl, by go_num, by omega⟩
              case measure => simp [intOf]; omega
            | false =>
              go_wp2_with fail
              go_round
              case rel => exact ⟨k + 1, by rw [HST.out]; simp, by go_num, by omega⟩
              case measure => simp [intOf]; omega
          · obtain rfl : k = q + p := by omega
            have hta : DG.take (q + p) = DG := List.take_of_length_le (by rw [HDG.out.1]; exact Nat.le_refl _)
            rw [hta]
            have HFX := HDG.out.2.1
            clear hta hkl hk
            generalize DG.any (fun z => z != 48) = ab at *
            have HFX2 : Hid _ := HFX
            clear HFX
            cases ab with
            | true =>
              go_wp2_with fail
              go_ret2
              rw [HFX2.out.1 (by first | rfl | trivial)]
              exact ⟨rfl, hG⟩
            | false =>
              go_wp2_with fail
              go_ret2
              rw [HFX2.out.2 (by first | rfl | trivial)]
              exact ⟨rfl, hG⟩
      · have hp1 : 0 < p := by omega
        have hzD : (baL DG).size = q + p := by rw [baL_size]; exact hq
        have x3 : (baL DG).extract 0 q = baL (DG.take q) := by rw [baL_cut]; simp
        have x4 : (baL DG).extract q (q + p) = baL (DG.drop q) := by rw [baL_cut, List.take_of_length_le (by omega)]
        have y1 : (baL (DG.take q)).size = q := by rw [baL_size]; simp; omega
        have y2 : (baL (DG.drop q)).size = p := by rw [baL_size]; simp; omega
        have hpt : (if (DG.drop (DG.length - p)).isEmpty = true then DG.take (DG.length - p) else DG.take (DG.length - p) ++ 46 :: DG.drop (DG.length - p)) = DG.take q ++ 46 :: DG.drop q := by
          rw [show DG.length - p = q by omega, if_neg (by rw [List.isEmpty_iff]; intro h; have := congrArg List.length h; rw [List.length_drop] at this; simp at this; omega)]
        have b1 : (⟨#[46]⟩ : ByteArray) ++ baL (DG.drop q) = baL (46 :: DG.drop q) := baL_append [46] _
        have b2 : baL (DG.take q) ++ baL (46 :: DG.drop q) = baL (DG.take q ++ 46 :: DG.drop q) := baL_append _ _
        have y3 : (baL (46 :: DG.drop q)).size = p + 1 := by rw [baL_size]; simp; omega
        have y4 : (baL (DG.take q ++ 46 :: DG.drop q)).size = q + p + 1 := by rw [baL_size]; simp; omega
        have hfx : (DG.any (fun z => z != 48) = true → baL (fxL false DG p) = baL (DG.take q ++ 46 :: DG.drop q)) ∧ (DG.any (fun z => z != 48) = false → baL (fxL false DG p) = baL (DG.take q ++ 46 :: DG.drop q)) := by
          constructor
          all_goals
            intro h
            unfold fxL
            rw [hpt, show fxB false DG = false from rfl]
            rfl
        have HDG : Hid (DG.length = q + p ∧ ((DG.any (fun z => z != 48) = true → baL (fxL false DG p) = baL (DG.take q ++ 46 :: DG.drop q)) ∧ (DG.any (fun z => z != 48) = false → baL (fxL false DG p) = baL (DG.take q ++ 46 :: DG.drop q))) ∧ ∀ (k : Nat) (h : k < (baL DG).size) (h2 : k < DG.length), ((baL DG)[k]'h).toNat = (DG[k]'h2).toNat) := ⟨hq, hfx, fun k h h2 => by have := bl_at DG (baL DG) rfl k h h2; rw [this]⟩
        clear hpt hfx hq
        generalize baL (46 :: DG.drop q) = E1 at *
        generalize baL (DG.take q ++ 46 :: DG.drop q) = OU at *
        generalize baL (DG.take q) = D0 at *
        generalize baL (DG.drop q) = D1 at *
        obtain ⟨DB, hDB⟩ : ∃ B, baL DG = B := ⟨_, rfl⟩
        rw [hDB] at hzD x3 x4 HDG a1
        clear hDB
        generalize baL (Wd ++ 46 :: (Fc ++ Rz)) = S at *
        generalize baL (Fc.take p) = FP at *
        generalize baL Wd = WB at *
        go_enter Tryz.func11, Tryz.ntmps11
        go_wp2_with (first
            | (go_at_call 35; with_reducible refine (HN _).mono ?_; rintro e w1 ⟨rfl, m1, h1⟩; subst h1)
            | (go_at_call 36; with_reducible refine (HFF.out _ ((Fr.refl noB w).drewN _)).mono ?_; rintro e w2 ⟨rfl, hF2⟩; replace hF2 := ((Fr.refl noB w).drewN m1).trans hF2))
        go_region
        go_wp2_with fail
        have hG := hF2.drew
        go_loop [10, 11] (fun sv iv => ∃ k : Nat, sv = .bool ((DG.take k).any (fun z => z != 48)) ∧ iv = .int .i64 (k : Int) ∧ k ≤ q + p) (fun sv iv => q + p - (intOf iv).toNat)
        case atStart => exact ⟨0, rfl, rfl, Nat.zero_le _⟩
        case round =>
          obtain ⟨k, rfl, rfl, hk⟩ := hrel
          by_cases hkl : k < q + p
          · have bk : ∀ h, (DB[k]'h).toNat = (DG[k]'(by rw [HDG.out.1]; exact hkl)).toNat := fun h => HDG.out.2.2 k h (by rw [HDG.out.1]; exact hkl)
            have hst := any_step DG k (by rw [HDG.out.1]; exact hkl)
            obtain ⟨z, hz⟩ : ∃ z, DG[k]'(by rw [HDG.out.1]; exact hkl) = z := ⟨_, rfl⟩
            rw [hz] at bk hst
            have hb : ((z.toNat : Int) != 48) = (z != 48) := by
              rw [Bool.eq_iff_iff]
              simp only [bne_iff_ne, ne_eq]
              constructor
              · intro h e
                apply h
                rw [e]
                rfl
              · intro h e
                apply h
                apply UInt8.toNat_inj.1
                have : (48 : UInt8).toNat = 48 := rfl
                omega
            generalize z.toNat = zn at *
            generalize (z != 48) = zb at *
            have HST : Hid _ := hst
            clear hst hz
            generalize hsb : (DG.take k).any (fun z => z != 48) = sb at *
            have HSB : Hid _ := hsb
            clear hsb
            cases sb with
            | true =>
              go_wp2_with fail
              go_round
              case rel => exact ⟨k + 1, by rw [HST.out]; rfl, by go_num, by omega⟩
              case measure => simp [intOf]; omega
            | false =>
              go_wp2_with fail
              go_round
              case rel => exact ⟨k + 1, by rw [HST.out]; simp, by go_num, by omega⟩
              case measure => simp [intOf]; omega
          · obtain rfl : k = q + p := by omega
            have hta : DG.take (q + p) = DG := List.take_of_length_le (by rw [HDG.out.1]; exact Nat.le_refl _)
            rw [hta]
            have HFX := HDG.out.2.1
            clear hta hkl hk
            generalize DG.any (fun z => z != 48) = ab at *
            have HFX2 : Hid _ := HFX
            clear HFX
            cases ab with
            | true =>
              go_wp2_with fail
              go_ret2
              rw [HFX2.out.1 (by first | rfl | trivial)]
              exact ⟨rfl, hG⟩
            | false =>
              go_wp2_with fail
              go_ret2
              rw [HFX2.out.2 (by first | rfl | trivial)]
              exact ⟨rfl, hG⟩
#print axioms rfixed_of
end Go.Proofs.YtnklmcmdlobicaaGreatDoor
