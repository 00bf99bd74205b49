/- Digits of any float: the document's. -/
import Derived.Test.YtkohohjpnlhioaaGreatDoorXSgn
import Derived.LoopN
namespace Go.Proofs.YtkohohjpnlhioaaGreatDoor
open Go.RowKit Ieee Go.Shelf

theorem baOf_app (A B : List Nat) : baOf A ++ baOf B = baOf (A ++ B) := by
  apply ByteArray.ext
  apply Array.toList_inj.1
  simp [baOf]
theorem ba_at (T : List Nat) (s : ByteArray) (hs : s = ⟨(T.map UInt8.ofNat).toArray⟩) (i : Nat) (h : i < s.size) (h2 : i < T.length) (h3 : T[i] < 256) : (s[i]'h).toNat = T[i] := by
  subst hs
  show (((T.map UInt8.ofNat).toArray)[i]'_).toNat = _
  simp
  omega
theorem baOf_at (T : List Nat) (i : Nat) (h : i < (baOf T).size) (h2 : i < T.length) (h3 : T[i] < 256) : ((baOf T)[i]'h).toNat = T[i] := ba_at T _ rfl i h h2 h3
theorem baOf_cut (T : List Nat) (a b : Nat) : (baOf T).extract a b = baOf ((T.take b).drop a) := by
  apply ByteArray.ext
  apply Array.toList_inj.1
  simp [baOf, List.drop_take, List.map_drop, List.map_take]
/-- The digits of a text of digits and a point. -/
def dgs (L : List Nat) : List Nat := L.filter (fun z => z != 46)
theorem dgs_mText (Ds : List Nat) (hd : ∀ z ∈ Ds, z ≠ 46) (hl : 1 ≤ Ds.length) : dgs (mText Ds) = Ds := by
  have hf : ∀ L : List Nat, (∀ z ∈ L, z ≠ 46) → L.filter (fun z => z != 46) = L := fun L h => List.filter_eq_self.2 (fun z hz => by simpa using h z hz)
  unfold dgs mText
  by_cases h : 1 < Ds.length
  · rw [if_pos h, List.filter_append, hf _ (fun z hz => hd z (List.mem_of_mem_take hz)), List.filter_cons_of_neg (by simp), hf _ (fun z hz => hd z (List.mem_of_mem_drop hz)), List.take_append_drop]
  · rw [if_neg h, List.append_nil, hf _ (fun z hz => hd z (List.mem_of_mem_take hz)), List.take_of_length_le (by omega)]
theorem dgs_step (L : List Nat) (k : Nat) (h : k < L.length) : dgs (L.take (k + 1)) = dgs (L.take k) ++ (if L[k] = 46 then [] else [L[k]]) := by
  unfold dgs
  rw [List.take_succ_eq_append_getElem h, List.filter_append]
  congr 1
  by_cases c : L[k] = 46
  · rw [if_pos c, List.filter_cons_of_neg (by simp [c])]
    rfl
  · rw [if_neg c, List.filter_cons_of_pos (by simp [c])]
    rfl
theorem dgs_len (L : List Nat) : (dgs L).length ≤ L.length := List.length_filter_le _ _
set_option maxRecDepth 100000 in
set_option maxHeartbeats 2000000 in
theorem rdigits_pos (x : Nat) (w : World) (hx : x < 18446744073709551616) (h0 : 0 < x % 9223372036854775808) (hf : x % 9223372036854775808 < 9218868437227405312) (hT : NTab w) :
    Calls Tryz.prog 37 #[.float .f64 x] w fun e w' => e = .returned (.tuple #[.string (baOf (digF (x % 9223372036854775808))), .int .i64 (dpF (x % 9223372036854775808)), .int .i64 0]) ∧ Fr noB w w' := by
  obtain ⟨y, hy⟩ : ∃ y, x % 9223372036854775808 = y := ⟨_, rfl⟩
  have HN := rfinite_any x
  have hfin : finB x = true := (fin_iff x).2 hf
  have hlt := lt_zero x hx (fin_of hfin)
  rw [hfin] at HN
  have hyf : y < 9218868437227405312 := by omega
  have hy0 : 0 < y := by omega
  have hfy : finB y = true := (fin_iff y).2 (by omega)
  have hz : (FloatKind.f64.format.order y 0 == some .eq) = false := by rw [order_zero y (fin_of hfy)]; simp; omega
  rw [hy]
  have HF : Hid (∀ W, Fr noB w W → Calls Tryz.prog 66 #[.float .f64 y, .int .u8 101, .int .i64 (-1), .int .i64 64] W fun e w' => e = .returned (.string (baOf (eText (digF y) (dpF y)))) ∧ Fr noB W w') := fun W hW => format_any y W hy0 hyf (hT.p.fr hW) (hT.u.fr hW)
  obtain ⟨l1, l2, l3⟩ := digF_len y hy0 hyf
  have hd := digF_digits y
  have hdp := dpF_range y hy0 hyf
  obtain ⟨a1, a2⟩ := atoi_exp (dpF y - 1) (by omega) (by omega)
  have HNEG : Hid (9223372036854775808 < x → Op.negFloat .f64 x = y) := fun h => by rw [neg_high x hx h, hy]
  have HPOS : Hid (¬ 9223372036854775808 < x → x = y) := fun h => by omega
  generalize digF y = Ds at *
  generalize dpF y = dp at *
  have hmd : ∀ z ∈ mText Ds, z < 256 ∧ z ≠ 101 := fun z hz => by rcases mText_mem hz with h | h; omega; have := hd z h; omega
  have hml : (mText Ds).length ≤ 19 := by unfold mText; rw [List.length_append, List.length_take]; split <;> simp <;> omega
  have hdm : dgs (mText Ds) = Ds := dgs_mText Ds (fun z hz => by have := hd z hz; omega) l1
  have HAT : Hid (∀ W, Calls Tryz.prog 67 #[.string (baOf (expT (dp - 1)))] W fun e w' => e = .returned (.tuple #[.int .i64 (dp - 1), .nilIface]) ∧ Fr noB W w') := fun W => atoiS_any (baOf (expT (dp - 1))) (dp - 1) (by rw [baOf_size]; omega) (by rw [baOf_list]; exact a1) W
  rw [eText_cut] at HF
  obtain ⟨X, hX⟩ : ∃ X, expT (dp - 1) = X := ⟨_, rfl⟩
  rw [hX] at HF HAT a2
  obtain ⟨M, hM⟩ : ∃ M, mText Ds = M := ⟨_, rfl⟩
  rw [hM] at HF hmd hml hdm
  obtain ⟨S, hS⟩ : ∃ S, baOf (M ++ 101 :: X) = S := ⟨_, rfl⟩
  have hsz : S.size = M.length + 1 + X.length := by rw [← hS, baOf_size]; simp; omega
  have HAt : Hid (∀ k (h : k < M.length) (h' : k < S.size), (S[k]'h').toNat = M[k]) := by
    intro k h h'
    subst hS
    rw [baOf_at _ k h' (by simp; omega) (by rw [List.getElem_append_left h]; exact (hmd _ (List.getElem_mem h)).1), List.getElem_append_left h]
  have HEnd : Hid (∀ (h' : M.length < S.size), (S[M.length]'h').toNat = 101) := by
    intro h'
    subst hS
    rw [baOf_at _ M.length h' (by simp) (by simp)]
    simp
  have HExt : Hid (∀ k (h : k < M.length), S.extract k (k + 1) = baOf [M[k]]) := by
    intro k h
    subst hS
    rw [baOf_cut]
    congr 1
    rw [List.take_append_of_le_length (by omega), List.take_succ_eq_append_getElem h, List.drop_append_of_le_length (by rw [List.length_take]; omega), List.drop_of_length_le (by rw [List.length_take]; omega)]
    rfl
  have HTail : Hid (S.extract (M.length + 1) S.size = baOf X) := by
    show _ = _
    rw [hsz]
    subst hS
    rw [baOf_cut, List.take_of_length_le (by simp; omega)]
    congr 1
    rw [show M.length + 1 = (M ++ [101]).length by simp, show M ++ 101 :: X = (M ++ [101]) ++ X by simp, List.drop_left]
  rw [hS] at HF
  have HMD : Hid _ := And.intro hmd (And.intro hdm (And.intro hd l3))
  have hXl : X.length ≤ 4 := a2
  clear hS hX hM hmd hdm hd l3 a1 a2
  by_cases hs : 9223372036854775808 < x
  · rw [decide_eq_true hs] at hlt
    have hng : ∀ W, (Op.unary .neg (.float .f64 x)).run Tryz.prog W = .ok (.float .f64 y) W := fun W => by rw [← HNEG.out hs]; rfl
    clear HNEG HPOS hs hy hfin h0 hf
    go_enter Tryz.func37, Tryz.ntmps37
    go_wp2_with (first | (go_at_call 65; refine (HN _).mono ?_; rintro e w1 ⟨rfl, m1, h1⟩; subst h1) | (go_at_call 66; refine (HF.out _ ((Fr.refl noB w).drewN _)).mono ?_; rintro e w2 ⟨rfl, hF2⟩; replace hF2 := ((Fr.refl noB w).drewN m1).trans hF2))
    go_loop [6, 7] (fun d i => ∃ k : Nat, d = .string (baOf (dgs (M.take k))) ∧ i = .int .i64 (k : Int) ∧ k ≤ M.length) (fun d i => M.length - (intOf i).toNat)
    case atStart => exact ⟨0, rfl, rfl, Nat.zero_le _⟩
    case round =>
      obtain ⟨k, rfl, rfl, hk⟩ := hrel
      by_cases hkl : k < M.length
      · have bk := HAt.out k hkl
        have hext := HExt.out k hkl
        have hstep := dgs_step M k hkl
        have hc := (HMD.out.1 _ (List.getElem_mem hkl))
        have hlen := dgs_len (M.take k)
        rw [List.length_take] at hlen
        obtain ⟨c, hcc⟩ : ∃ c, M[k] = c := ⟨_, rfl⟩
        rw [hcc] at bk hext hstep hc
        have q1 : ((c : Int) != 101) = true := by simp; omega
        by_cases h46 : c = 46
        · have q2 : ((c : Int) != 46) = false := by simp [h46]
          have HS2 : Hid (dgs (M.take k) = dgs (M.take (k + 1))) := show _ = _ by rw [hstep, if_pos h46, List.append_nil]
          clear hstep hext hcc h46 hc
          go_wp2_with fail
          go_round
          case rel => exact ⟨k + 1, by rw [HS2.out], by go_num, by omega⟩
          case measure => simp [intOf]; omega
        · have q2 : ((c : Int) != 46) = true := by simp; omega
          have hcat : baOf (dgs (M.take k)) ++ baOf [c] = baOf (dgs (M.take (k + 1))) := by rw [baOf_app, hstep, if_neg h46]
          obtain ⟨A, hA⟩ : ∃ A, baOf (dgs (M.take (k + 1))) = A := ⟨_, rfl⟩
          rw [hA] at hcat
          have hzA : (baOf (dgs (M.take k))).size ≤ 19 := by rw [baOf_size]; omega
          have hzc : (baOf [c]).size = 1 := rfl
          have HA2 : Hid _ := hA
          generalize baOf (dgs (M.take k)) = A0 at *
          generalize baOf [c] = C at *
          clear hstep hcc h46 hc hA hlen
          go_wp2_with fail
          go_round
          case rel => exact ⟨k + 1, by rw [HA2.out], by go_num, by omega⟩
          case measure => simp [intOf]; omega
      · have hke : k = M.length := by omega
        subst hke
        have bk := HEnd.out
        have htl := HTail.out
        rw [hsz] at htl
        have hD : dgs (M.take M.length) = Ds := by rw [List.take_length]; exact HMD.out.2.1
        rw [hD]
        have hzD : (baOf Ds).size = Ds.length := baOf_size Ds
        have hlast : Hid (∀ j, j + 1 = Ds.length → ∀ h : j < (baOf Ds).size, ((baOf Ds)[j]'h).toNat ≠ 48) := by
          intro j hj h
          rw [baOf_at Ds _ h (by omega) (by have := HMD.out.2.2.1 _ (List.getElem_mem (show j < Ds.length by omega)); omega)]
          intro e
          apply HMD.out.2.2.2
          rw [List.getLast?_eq_getElem?, ← hj, Nat.add_sub_cancel, List.getElem?_eq_getElem (by omega), e]
        have e1 : dp - 1 + 1 = dp := by omega
        obtain ⟨nD, hnD⟩ : ∃ n, Ds.length = n + 1 := ⟨Ds.length - 1, by omega⟩
        rw [hnD] at hzD l1 l2 hlast
        clear hD hkl hk HAt HEnd HExt HTail HMD
        obtain ⟨BD, hBD⟩ : ∃ B, baOf Ds = B := ⟨_, rfl⟩
        rw [hBD] at hzD hlast ⊢
        have HBD : Hid (baOf Ds = BD) := hBD
        clear hBD
        generalize baOf X = BX at *
        generalize hML : M.length = L at *
        clear hML hnD
        go_wp2_with (go_at_call 67; with_reducible refine (HAT.out _).mono ?_; rintro e w3 ⟨rfl, hF3⟩)
        refine wp_loop_rounds 1 ?_
        rw [rounds_succ]
        by_cases hn0 : nD = 0
        · subst hn0
          go_wp2_with fail
          go_ret3
          rw [HBD.out]
          exact ⟨rfl, hF2.trans hF3⟩
        · have hl2 := hlast.out nD rfl
          have q48 : ∀ h, (((BD[nD]'h).toNat : Int) == 48) = false := fun h => by rw [beq_eq_false_iff_ne]; have := hl2 h; omega
          clear hl2
          go_wp2_with fail
          go_ret3
          rw [HBD.out]
          exact ⟨rfl, hF2.trans hF3⟩
  · have hxy := HPOS.out hs
    rw [decide_eq_false hs] at hlt
    subst hxy
    clear HNEG HPOS hs hy hfin h0 hf
    go_enter Tryz.func37, Tryz.ntmps37
    go_wp2_with (first | (go_at_call 65; refine (HN _).mono ?_; rintro e w1 ⟨rfl, m1, h1⟩; subst h1) | (go_at_call 66; refine (HF.out _ ((Fr.refl noB w).drewN _)).mono ?_; rintro e w2 ⟨rfl, hF2⟩; replace hF2 := ((Fr.refl noB w).drewN m1).trans hF2))
    go_loop [6, 7] (fun d i => ∃ k : Nat, d = .string (baOf (dgs (M.take k))) ∧ i = .int .i64 (k : Int) ∧ k ≤ M.length) (fun d i => M.length - (intOf i).toNat)
    case atStart => exact ⟨0, rfl, rfl, Nat.zero_le _⟩
    case round =>
      obtain ⟨k, rfl, rfl, hk⟩ := hrel
      by_cases hkl : k < M.length
      · have bk := HAt.out k hkl
        have hext := HExt.out k hkl
        have hstep := dgs_step M k hkl
        have hc := (HMD.out.1 _ (List.getElem_mem hkl))
        have hlen := dgs_len (M.take k)
        rw [List.length_take] at hlen
        obtain ⟨c, hcc⟩ : ∃ c, M[k] = c := ⟨_, rfl⟩
        rw [hcc] at bk hext hstep hc
        have q1 : ((c : Int) != 101) = true := by simp; omega
        by_cases h46 : c = 46
        · have q2 : ((c : Int) != 46) = false := by simp [h46]
          have HS2 : Hid (dgs (M.take k) = dgs (M.take (k + 1))) := show _ = _ by rw [hstep, if_pos h46, List.append_nil]
          clear hstep hext hcc h46 hc
          go_wp2_with fail
          go_round
          case rel => exact ⟨k + 1, by rw [HS2.out], by go_num, by omega⟩
          case measure => simp [intOf]; omega
        · have q2 : ((c : Int) != 46) = true := by simp; omega
          have hcat : baOf (dgs (M.take k)) ++ baOf [c] = baOf (dgs (M.take (k + 1))) := by rw [baOf_app, hstep, if_neg h46]
          obtain ⟨A, hA⟩ : ∃ A, baOf (dgs (M.take (k + 1))) = A := ⟨_, rfl⟩
          rw [hA] at hcat
          have hzA : (baOf (dgs (M.take k))).size ≤ 19 := by rw [baOf_size]; omega
          have hzc : (baOf [c]).size = 1 := rfl
          have HA2 : Hid _ := hA
          generalize baOf (dgs (M.take k)) = A0 at *
          generalize baOf [c] = C at *
          clear hstep hcc h46 hc hA hlen
          go_wp2_with fail
          go_round
          case rel => exact ⟨k + 1, by rw [HA2.out], by go_num, by omega⟩
          case measure => simp [intOf]; omega
      · have hke : k = M.length := by omega
        subst hke
        have bk := HEnd.out
        have htl := HTail.out
        rw [hsz] at htl
        have hD : dgs (M.take M.length) = Ds := by rw [List.take_length]; exact HMD.out.2.1
        rw [hD]
        have hzD : (baOf Ds).size = Ds.length := baOf_size Ds
        have hlast : Hid (∀ j, j + 1 = Ds.length → ∀ h : j < (baOf Ds).size, ((baOf Ds)[j]'h).toNat ≠ 48) := by
          intro j hj h
          rw [baOf_at Ds _ h (by omega) (by have := HMD.out.2.2.1 _ (List.getElem_mem (show j < Ds.length by omega)); omega)]
          intro e
          apply HMD.out.2.2.2
          rw [List.getLast?_eq_getElem?, ← hj, Nat.add_sub_cancel, List.getElem?_eq_getElem (by omega), e]
        have e1 : dp - 1 + 1 = dp := by omega
        obtain ⟨nD, hnD⟩ : ∃ n, Ds.length = n + 1 := ⟨Ds.length - 1, by omega⟩
        rw [hnD] at hzD l1 l2 hlast
        clear hD hkl hk HAt HEnd HExt HTail HMD
        obtain ⟨BD, hBD⟩ : ∃ B, baOf Ds = B := ⟨_, rfl⟩
        rw [hBD] at hzD hlast ⊢
        have HBD : Hid (baOf Ds = BD) := hBD
        clear hBD
        generalize baOf X = BX at *
        generalize hML : M.length = L at *
        clear hML hnD
        go_wp2_with (go_at_call 67; with_reducible refine (HAT.out _).mono ?_; rintro e w3 ⟨rfl, hF3⟩)
        refine wp_loop_rounds 1 ?_
        rw [rounds_succ]
        by_cases hn0 : nD = 0
        · subst hn0
          go_wp2_with fail
          go_ret3
          rw [HBD.out]
          exact ⟨rfl, hF2.trans hF3⟩
        · have hl2 := hlast.out nD rfl
          have q48 : ∀ h, (((BD[nD]'h).toNat : Int) == 48) = false := fun h => by rw [beq_eq_false_iff_ne]; have := hl2 h; omega
          clear hl2
          go_wp2_with fail
          go_ret3
          rw [HBD.out]
          exact ⟨rfl, hF2.trans hF3⟩
#print axioms rdigits_pos
end Go.Proofs.YtkohohjpnlhioaaGreatDoor
/- Texts as lists; Itoa, Repeat, noughts. -/
namespace Go.Proofs.YtkohohjpnlhioaaGreatDoor
open Go.RowKit Ieee Go.Shelf

theorem Fr.grow {S : Nat → Prop} {a w : World} (h : Fr S a w) (os : Array Obj) : Fr S a (Go.Sort.grow w os) :=
  ⟨h.os, h.tape, h.output, by rw [Go.Sort.size_grow]; have := h.size; omega, fun k hk hs => by
    have hw : k < w.heap.size := Nat.lt_of_lt_of_le hk h.size
    show (w.heap ++ os)[k]? = _
    rw [Array.getElem?_append_left hw]
    exact h.block k hk hs⟩
/-- A list of bytes as a text. -/
def baL (L : List UInt8) : ByteArray := ⟨L.toArray⟩
theorem baL_list (L : List UInt8) : (baL L).data.toList = L := by simp [baL]
theorem baL_size (L : List UInt8) : (baL L).size = L.length := by simp [baL, ByteArray.size]
theorem baL_append (L M : List UInt8) : baL L ++ baL M = baL (L ++ M) := by
  apply ByteArray.ext
  simp [baL, ByteArray.data_append]
theorem baL_self (s : ByteArray) : baL s.data.toList = s := by simp [baL]
theorem itoa_nat (n : Nat) : Lib.itoa (n : Int) = Lib.decDigits n := by
  unfold Lib.itoa
  rw [if_neg (by omega)]
  simp
theorem repeat_nought : ∀ k, Lib.repeatL [48] k = List.replicate k 48
  | 0 => rfl
  | k + 1 => by rw [Lib.repeatL, repeat_nought k, List.replicate_succ]; rfl
theorem bldR : Builder.Extra Tryz.prog Tryz.laysLaysn105_ren where
  sizeBuilder := by kernel_rfl
  liesBuilder := by kernel_rfl
  t5 := Tryz.underlying5
  a5 := Tryz.isAgg5
  z5 := Tryz.sizeOf5
  v5 := Tryz.zeroValue5
  infoByte := by kernel_rfl
  cellsByte := by kernel_rfl
  sizeByte := by kernel_rfl
  neB5 := by decide
theorem repeat_any (c : Nat) (hc : c ≤ 1000) (w : World) : Calls Tryz.prog 94 #[.string ⟨#[48]⟩, .int .i64 (c : Int)] w fun e w' => e = .returned (.string (baL (List.replicate c 48))) ∧ Fr noB w w' :=
  (Any.strings_Repeat Tryz.laysLaysn105 bldR ⟨#[48]⟩ c w (by omega) (by rw [show (⟨#[48]⟩ : ByteArray).size = 1 from rfl]; omega)).mono fun e w' ⟨he, hb⟩ => ⟨by rw [he, show (⟨#[48]⟩ : ByteArray).data.toList = [48] from rfl, repeat_nought]; rfl, Fr.ofBelow hb⟩
set_option maxRecDepth 100000 in
set_option maxHeartbeats 1000000 in
theorem noughts_any (n : Int) (h1 : -100 ≤ n) (h2 : n ≤ 100) (w : World) : Calls Tryz.prog 38 #[.int .i64 n] w fun e w' => e = .returned (.string (baL (List.replicate n.toNat 48))) ∧ w' = w := by
  go_enter Tryz.func38, Tryz.ntmps38
  go_wp2_with fail
  go_loop [3, 4] (fun sv iv => ∃ k : Nat, iv = .int .i64 (k : Int) ∧ sv = .string (baL (List.replicate k 48)) ∧ k ≤ n.toNat) (fun _ iv => n.toNat - (intOf iv).toNat)
  case atStart => exact ⟨0, rfl, rfl, Nat.zero_le _⟩
  case round =>
    obtain ⟨k, rfl, rfl, hk⟩ := hrel
    by_cases hlt : (k : Int) < n
    · have HA : Hid (baL (List.replicate k 48) ++ ⟨#[48]⟩ = baL (List.replicate (k + 1) 48)) := by
        show _ = _
        rw [show (⟨#[48]⟩ : ByteArray) = baL [48] from rfl, baL_append, ← List.replicate_succ']
      have hsz : (baL (List.replicate k 48)).size ≤ 100 := by rw [baL_size]; simp; omega
      generalize baL (List.replicate k 48) = B at *
      go_wp2_with fail
      go_round
      case rel => exact ⟨k + 1, by go_num, by rw [← HA.out], by omega⟩
      case measure => simp [intOf]; omega
    · have hke : k = n.toNat := by omega
      subst hke
      go_wp2_with fail
      go_ret
      exact ⟨rfl, rfl⟩
theorem itoaI_any (n : Int) (h0 : -1000 ≤ n) (h1 : n ≤ 1000) (w : World) (hU : UTab w) : Calls Tryz.prog 39 #[.int .i64 n] w fun e w' => e = .returned (.string (baL (Lib.itoa n))) ∧ Fr noB w w' :=
  (Any.strconv_Itoa Tryz.laysLaysMn171 n (by omega) (by omega) w hU.2).mono fun e w' ⟨he, k, os, hw⟩ => ⟨by rw [he]; rfl, by rw [hw]; exact ((Fr.refl noB w).drewN k).grow os⟩
theorem baL_cut (L : List UInt8) (a b : Nat) : (baL L).extract a b = baL ((L.take b).drop a) := by
  apply ByteArray.ext
  apply Array.toList_inj.1
  simp [baL, List.drop_take]
theorem baL_empty (L : List UInt8) : (baL L).toList.isEmpty = L.isEmpty := by rw [ByteArray.toList_eq, baL_list]
set_option maxRecDepth 100000 in
theorem pointed_any (A B : List UInt8) (hA : A.length ≤ 1000) (hB : B.length ≤ 1000) (w : World) : Calls Tryz.prog 93 #[.string (baL A), .string (baL B)] w fun e w' => e = .returned (.string (baL (if B.isEmpty = true then A else A ++ 46 :: B))) ∧ w' = w := by
  have hap := baL_append
  have c46 : (⟨#[46]⟩ : ByteArray) = baL [46] := rfl
  have he := baL_empty B
  cases hb : B.isEmpty with
  | true =>
    rw [hb] at he
    rw [if_pos rfl]
    generalize baL B = BB at *
    clear hap c46 hb
    generalize baL A = AA at *
    go_enter Tryz.func93, Tryz.ntmps93
    go_wp2_with fail
    go_ret
    exact ⟨rfl, rfl⟩
  | false =>
    rw [hb] at he
    rw [if_neg (by simp)]
    have h1 : baL A ++ ⟨#[46]⟩ = baL (A ++ [46]) := hap A [46]
    have h2 : baL (A ++ [46]) ++ baL B = baL (A ++ 46 :: B) := by rw [hap]; simp
    have z1 : (baL A).size ≤ 1000 := by rw [baL_size]; exact hA
    have z2 : (baL B).size ≤ 1000 := by rw [baL_size]; exact hB
    have z3 : (baL (A ++ [46])).size ≤ 1001 := by rw [baL_size]; simp; exact hA
    generalize baL B = BB at *
    generalize baL A = AA at *
    generalize baL (A ++ [46]) = A2 at *
    generalize baL (A ++ 46 :: B) = R at *
    clear hap c46 hb
    go_enter Tryz.func93, Tryz.ntmps93
    go_wp2_with fail
    go_ret
    exact ⟨rfl, rfl⟩
#print axioms pointed_any
end Go.Proofs.YtkohohjpnlhioaaGreatDoor
