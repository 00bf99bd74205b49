/- Digits of any float: the document's. -/
import Derived.Test.YtdmjbhbiehjelaaGreatDoorXSgn
import Derived.LoopN
namespace Go.Proofs.YtdmjbhbiehjelaaGreatDoor
open Go.RowKit Ieee Go.Shelf

theorem baOf_app (A B : List Nat) : baOf A ++ baOf B = baOf (A ++ B) := by
  apply ByteArray.ext
  apply Array.toList_inj.1
  simp [baOf]
theorem ba_at (T : List Nat) (s : ByteArray) (hs : s = ⟨(T.map UInt8.ofNat).toArray⟩) (i : Nat) (h : i < s.size) (h2 : i < T.length) (h3 : T[i] < 256) : (s[i]'h).toNat = T[i] := by
  subst hs
  show (((T.map UInt8.ofNat).toArray)[i]'_).toNat = _
  simp
  omega
theorem baOf_at (T : List Nat) (i : Nat) (h : i < (baOf T).size) (h2 : i < T.length) (h3 : T[i] < 256) : ((baOf T)[i]'h).toNat = T[i] := ba_at T _ rfl i h h2 h3
theorem baOf_cut (T : List Nat) (a b : Nat) : (baOf T).extract a b = baOf ((T.take b).drop a) := by
  apply ByteArray.ext
  apply Array.toList_inj.1
  simp [baOf, List.drop_take, List.map_drop, List.map_take]
/-- The digits of a text of digits and a point. -/
def dgs (L : List Nat) : List Nat := L.filter (fun z => z != 46)
theorem dgs_mText (Ds : List Nat) (hd : ∀ z ∈ Ds, z ≠ 46) (hl : 1 ≤ Ds.length) : dgs (mText Ds) = Ds := by
  have hf : ∀ L : List Nat, (∀ z ∈ L, z ≠ 46) → L.filter (fun z => z != 46) = L := fun L h => List.filter_eq_self.2 (fun z hz => by simpa using h z hz)
  unfold dgs mText
  by_cases h : 1 < Ds.length
  · rw [if_pos h, List.filter_append, hf _ (fun z hz => hd z (List.mem_of_mem_take hz)), List.filter_cons_of_neg (by simp), hf _ (fun z hz => hd z (List.mem_of_mem_drop hz)), List.take_append_drop]
  · rw [if_neg h, List.append_nil, hf _ (fun z hz => hd z (List.mem_of_mem_take hz)), List.take_of_length_le (by omega)]
theorem dgs_step (L : List Nat) (k : Nat) (h : k < L.length) : dgs (L.take (k + 1)) = dgs (L.take k) ++ (if L[k] = 46 then [] else [L[k]]) := by
  unfold dgs
  rw [List.take_succ_eq_append_getElem h, List.filter_append]
  congr 1
  by_cases c : L[k] = 46
  · rw [if_pos c, List.filter_cons_of_neg (by simp [c])]
    rfl
  · rw [if_neg c, List.filter_cons_of_pos (by simp [c])]
    rfl
theorem dgs_len (L : List Nat) : (dgs L).length ≤ L.length := List.length_filter_le _ _
set_option maxRecDepth 100000 in
set_option maxHeartbeats 2000000 in
theorem rdigits_pos (x : Nat) (w : World) (hx : x < 18446744073709551616) (h0 : 0 < x % 9223372036854775808) (hf : x % 9223372036854775808 < 9218868437227405312) (hT : NTab w) :
    Calls Tryz.prog 55 #[.float .f64 x] w fun e w' => e = .returned (.tuple #[.string (baOf (digF (x % 9223372036854775808))), .int .i64 (dpF (x % 9223372036854775808)), .int .i64 0]) ∧ Fr noB w w' := by
  obtain ⟨y, hy⟩ : ∃ y, x % 9223372036854775808 = y := ⟨_, rfl⟩
  have HN := rfinite_any x
  have hfin : finB x = true := (fin_iff x).2 hf
  have hlt := lt_zero x hx (fin_of hfin)
  rw [hfin] at HN
  have hyf : y < 9218868437227405312 := by omega
  have hy0 : 0 < y := by omega
  have hfy : finB y = true := (fin_iff y).2 (by omega)
  have hz : (FloatKind.f64.format.order y 0 == some .eq) = false := by rw [order_zero y (fin_of hfy)]; simp; omega
  rw [hy]
  have HF : Hid (∀ W, Fr noB w W → Calls Tryz.prog 86 #[.float .f64 y, .int .u8 101, .int .i64 (-1), .int .i64 64] W fun e w' => e = .returned (.string (baOf (eText (digF y) (dpF y)))) ∧ Fr noB W w') := fun W hW => format_any y W hy0 hyf (hT.p.fr hW) (hT.u.fr hW)
  obtain ⟨l1, l2, l3⟩ := digF_len y hy0 hyf
  have hd := digF_digits y
  have hdp := dpF_range y hy0 hyf
  obtain ⟨a1, a2⟩ := atoi_exp (dpF y - 1) (by omega) (by omega)
  have HNEG : Hid (9223372036854775808 < x → Op.negFloat .f64 x = y) := fun h => by rw [neg_high x hx h, hy]
  have HPOS : Hid (¬ 9223372036854775808 < x → x = y) := fun h => by omega
  generalize digF y = Ds at *
  generalize dpF y = dp at *
  have hmd : ∀ z ∈ mText Ds, z < 256 ∧ z ≠ 101 := fun z hz => by rcases mText_mem hz with h | h; omega; have := hd z h; omega
  have hml : (mText Ds).length ≤ 19 := by unfold mText; rw [List.length_append, List.length_take]; split <;> simp <;> omega
  have hdm : dgs (mText Ds) = Ds := dgs_mText Ds (fun z hz => by have := hd z hz; omega) l1
  have HAT : Hid (∀ W, Calls Tryz.prog 87 #[.string (baOf (expT (dp - 1)))] W fun e w' => e = .returned (.tuple #[.int .i64 (dp - 1), .nilIface]) ∧ Fr noB W w') := fun W => atoiS_any (baOf (expT (dp - 1))) (dp - 1) (by rw [baOf_size]; omega) (by rw [baOf_list]; exact a1) W
  rw [eText_cut] at HF
  obtain ⟨X, hX⟩ : ∃ X, expT (dp - 1) = X := ⟨_, rfl⟩
  rw [hX] at HF HAT a2
  obtain ⟨M, hM⟩ : ∃ M, mText Ds = M := ⟨_, rfl⟩
  rw [hM] at HF hmd hml hdm
  obtain ⟨S, hS⟩ : ∃ S, baOf (M ++ 101 :: X) = S := ⟨_, rfl⟩
  have hsz : S.size = M.length + 1 + X.length := by rw [← hS, baOf_size]; simp; omega
  have HAt : Hid (∀ k (h : k < M.length) (h' : k < S.size), (S[k]'h').toNat = M[k]) := by
    intro k h h'
    subst hS
    rw [baOf_at _ k h' (by simp; omega) (by rw [List.getElem_append_left h]; exact (hmd _ (List.getElem_mem h)).1), List.getElem_append_left h]
  have HEnd : Hid (∀ (h' : M.length < S.size), (S[M.length]'h').toNat = 101) := by
    intro h'
    subst hS
    rw [baOf_at _ M.length h' (by simp) (by simp)]
    simp
  have HExt : Hid (∀ k (h : k < M.length), S.extract k (k + 1) = baOf [M[k]]) := by
    intro k h
    subst hS
    rw [baOf_cut]
    congr 1
    rw [List.take_append_of_le_length (by omega), List.take_succ_eq_append_getElem h, List.drop_append_of_le_length (by rw [List.length_take]; omega), List.drop_of_length_le (by rw [List.length_take]; omega)]
    rfl
  have HTail : Hid (S.extract (M.length + 1) S.size = baOf X) := by
    show _ = _
    rw [hsz]
    subst hS
    rw [baOf_cut, List.take_of_length_le (by simp; omega)]
    congr 1
    rw [show M.length + 1 = (M ++ [101]).length by simp, show M ++ 101 :: X = (M ++ [101]) ++ X by simp, List.drop_left]
  rw [hS] at HF
  have HMD : Hid _ := And.intro hmd (And.intro hdm (And.intro hd l3))
  have hXl : X.length ≤ 4 := a2
  clear hS hX hM hmd hdm hd l3 a1 a2
  by_cases hs : 9223372036854775808 < x
  · rw [decide_eq_true hs] at hlt
    have hng : ∀ W, (Op.unary .neg (.float .f64 x)).run Tryz.prog W = .ok (.float .f64 y) W := fun W => by rw [← HNEG.out hs]; rfl
    clear HNEG HPOS hs hy hfin h0 hf
    go_enter Tryz.func55, Tryz.ntmps55
    go_wp2_with (first | (go_at_call 85; refine (HN _).mono ?_; rintro e w1 ⟨rfl, m1, h1⟩; subst h1) | (go_at_call 86; refine (HF.out _ ((Fr.refl noB w).drewN _)).mono ?_; rintro e w2 ⟨rfl, hF2⟩; replace hF2 := ((Fr.refl noB w).drewN m1).trans hF2))
    go_loop [6, 7] (fun d i => ∃ k : Nat, d = .string (baOf (dgs (M.take k))) ∧ i = .int .i64 (k : Int) ∧ k ≤ M.length) (fun d i => M.length - (intOf i).toNat)
    case atStart => exact ⟨0, rfl, rfl, Nat.zero_le _⟩
    case round =>
      obtain ⟨k, rfl, rfl, hk⟩ := hrel
      by_cases hkl : k < M.length
      · have bk := HAt.out k hkl
        have hext := HExt.out k hkl
        have hstep := dgs_step M k hkl
        have hc := (HMD.out.1 _ (List.getElem_mem hkl))
        have hlen := dgs_len (M.take k)
        rw [List.length_take] at hlen
        obtain ⟨c, hcc⟩ : ∃ c, M[k] = c := ⟨_, rfl⟩
        rw [hcc] at bk hext hstep hc
        have q1 : ((c : Int) != 101) = true := by simp; omega
        by_cases h46 : c = 46
        · have q2 : ((c : Int) != 46) = false := by simp [h46]
          have HS2 : Hid (dgs (M.take k) = dgs (M.take (k + 1))) := show _ = _ by rw [hstep, if_pos h46, List.append_nil]
          clear hstep hext hcc h46 hc
          go_wp2_with fail
          go_round
          case rel => exact ⟨k + 1, by rw [HS2.out], by go_num, by omega⟩
          case measure => simp [intOf]; omega
        · have q2 : ((c : Int) != 46) = true := by simp; omega
          have hcat : baOf (dgs (M.take k)) ++ baOf [c] = baOf (dgs (M.take (k + 1))) := by rw [baOf_app, hstep, if_neg h46]
          obtain ⟨A, hA⟩ : ∃ A, baOf (dgs (M.take (k + 1))) = A := ⟨_, rfl⟩
          rw [hA] at hcat
          have hzA : (baOf (dgs (M.take k))).size ≤ 19 := by rw [baOf_size]; omega
          have hzc : (baOf [c]).size = 1 := rfl
          have HA2 : Hid _ := hA
          generalize baOf (dgs (M.take k)) = A0 at *
          generalize baOf [c] = C at *
          clear hstep hcc h46 hc hA hlen
          go_wp2_with fail
          go_round
          case rel => exact ⟨k + 1, by rw [HA2.out], by go_num, by omega⟩
          case measure => simp [intOf]; omega
      · have hke : k = M.length := by omega
        subst hke
        have bk := HEnd.out
        have htl := HTail.out
        rw [hsz] at htl
        have hD : dgs (M.take M.length) = Ds := by rw [List.take_length]; exact HMD.out.2.1
        rw [hD]
        have hzD : (baOf Ds).size = Ds.length := baOf_size Ds
        have hlast : Hid (∀ j, j + 1 = Ds.length → ∀ h : j < (baOf Ds).size, ((baOf Ds)[j]'h).toNat ≠ 48) := by
          intro j hj h
          rw [baOf_at Ds _ h (by omega) (by have := HMD.out.2.2.1 _ (List.getElem_mem (show j < Ds.length by omega)); omega)]
          intro e
          apply HMD.out.2.2.2
          rw [List.getLast?_eq_getElem?, ← hj, Nat.add_sub_cancel, List.getElem?_eq_getElem (by omega), e]
        have e1 : dp - 1 + 1 = dp := by omega
        obtain ⟨nD, hnD⟩ : ∃ n, Ds.length = n + 1 := ⟨Ds.length - 1, by omega⟩
        rw [hnD] at hzD l1 l2 hlast
        clear hD hkl hk HAt HEnd HExt HTail HMD
        obtain ⟨BD, hBD⟩ : ∃ B, baOf Ds = B := ⟨_, rfl⟩
        rw [hBD] at hzD hlast ⊢
        have HBD : Hid (baOf Ds = BD) := hBD
        clear hBD
        generalize baOf X = BX at *
        generalize hML : M.length = L at *
        clear hML hnD
        go_wp2_with (go_at_call 87; with_reducible refine (HAT.out _).mono ?_; rintro e w3 ⟨rfl, hF3⟩)
        refine wp_loop_rounds 1 ?_
        rw [rounds_succ]
        by_cases hn0 : nD = 0
        · subst hn0
          go_wp2_with fail
          go_ret3
          rw [HBD.out]
          exact ⟨rfl, hF2.trans hF3⟩
        · have hl2 := hlast.out nD rfl
          have q48 : ∀ h, (((BD[nD]'h).toNat : Int) == 48) = false := fun h => by rw [beq_eq_false_iff_ne]; have := hl2 h; omega
          clear hl2
          go_wp2_with fail
          go_ret3
          rw [HBD.out]
          exact ⟨rfl, hF2.trans hF3⟩
  · have hxy := HPOS.out hs
    rw [decide_eq_false hs] at hlt
    subst hxy
    clear HNEG HPOS hs hy hfin h0 hf
    go_enter Tryz.func55, Tryz.ntmps55
    go_wp2_with (first | (go_at_call 85; refine (HN _).mono ?_; rintro e w1 ⟨rfl, m1, h1⟩; subst h1) | (go_at_call 86; refine (HF.out _ ((Fr.refl noB w).drewN _)).mono ?_; rintro e w2 ⟨rfl, hF2⟩; replace hF2 := ((Fr.refl noB w).drewN m1).trans hF2))
    go_loop [6, 7] (fun d i => ∃ k : Nat, d = .string (baOf (dgs (M.take k))) ∧ i = .int .i64 (k : Int) ∧ k ≤ M.length) (fun d i => M.length - (intOf i).toNat)
    case atStart => exact ⟨0, rfl, rfl, Nat.zero_le _⟩
    case round =>
      obtain ⟨k, rfl, rfl, hk⟩ := hrel
      by_cases hkl : k < M.length
      · have bk := HAt.out k hkl
        have hext := HExt.out k hkl
        have hstep := dgs_step M k hkl
        have hc := (HMD.out.1 _ (List.getElem_mem hkl))
        have hlen := dgs_len (M.take k)
        rw [List.length_take] at hlen
        obtain ⟨c, hcc⟩ : ∃ c, M[k] = c := ⟨_, rfl⟩
        rw [hcc] at bk hext hstep hc
        have q1 : ((c : Int) != 101) = true := by simp; omega
        by_cases h46 : c = 46
        · have q2 : ((c : Int) != 46) = false := by simp [h46]
          have HS2 : Hid (dgs (M.take k) = dgs (M.take (k + 1))) := show _ = _ by rw [hstep, if_pos h46, List.append_nil]
          clear hstep hext hcc h46 hc
          go_wp2_with fail
          go_round
          case rel => exact ⟨k + 1, by rw [HS2.out], by go_num, by omega⟩
          case measure => simp [intOf]; omega
        · have q2 : ((c : Int) != 46) = true := by simp; omega
          have hcat : baOf (dgs (M.take k)) ++ baOf [c] = baOf (dgs (M.take (k + 1))) := by rw [baOf_app, hstep, if_neg h46]
          obtain ⟨A, hA⟩ : ∃ A, baOf (dgs (M.take (k + 1))) = A := ⟨_, rfl⟩
          rw [hA] at hcat
          have hzA : (baOf (dgs (M.take k))).size ≤ 19 := by rw [baOf_size]; omega
          have hzc : (baOf [c]).size = 1 := rfl
          have HA2 : Hid _ := hA
          generalize baOf (dgs (M.take k)) = A0 at *
          generalize baOf [c] = C at *
          clear hstep hcc h46 hc hA hlen
          go_wp2_with fail
          go_round
          case rel => exact ⟨k + 1, by rw [HA2.out], by go_num, by omega⟩
          case measure => simp [intOf]; omega
      · have hke : k = M.length := by omega
        subst hke
        have bk := HEnd.out
        have htl := HTail.out
        rw [hsz] at htl
        have hD : dgs (M.take M.length) = Ds := by rw [List.take_length]; exact HMD.out.2.1
        rw [hD]
        have hzD : (baOf Ds).size = Ds.length := baOf_size Ds
        have hlast : Hid (∀ j, j + 1 = Ds.length → ∀ h : j < (baOf Ds).size, ((baOf Ds)[j]'h).toNat ≠ 48) := by
          intro j hj h
          rw [baOf_at Ds _ h (by omega) (by have := HMD.out.2.2.1 _ (List.getElem_mem (show j < Ds.length by omega)); omega)]
          intro e
          apply HMD.out.2.2.2
          rw [List.getLast?_eq_getElem?, ← hj, Nat.add_sub_cancel, List.getElem?_eq_getElem (by omega), e]
        have e1 : dp - 1 + 1 = dp := by omega
        obtain ⟨nD, hnD⟩ : ∃ n, Ds.length = n + 1 := ⟨Ds.length - 1, by omega⟩
        rw [hnD] at hzD l1 l2 hlast
        clear hD hkl hk HAt HEnd HExt HTail HMD
        obtain ⟨BD, hBD⟩ : ∃ B, baOf Ds = B := ⟨_, rfl⟩
        rw [hBD] at hzD hlast ⊢
        have HBD : Hid (baOf Ds = BD) := hBD
        clear hBD
        generalize baOf X = BX at *
        generalize hML : M.length = L at *
        clear hML hnD
        go_wp2_with (go_at_call 87; with_reducible refine (HAT.out _).mono ?_; rintro e w3 ⟨rfl, hF3⟩)
        refine wp_loop_rounds 1 ?_
        rw [rounds_succ]
        by_cases hn0 : nD = 0
        · subst hn0
          go_wp2_with fail
          go_ret3
          rw [HBD.out]
          exact ⟨rfl, hF2.trans hF3⟩
        · have hl2 := hlast.out nD rfl
          have q48 : ∀ h, (((BD[nD]'h).toNat : Int) == 48) = false := fun h => by rw [beq_eq_false_iff_ne]; have := hl2 h; omega
          clear hl2
          go_wp2_with fail
          go_ret3
          rw [HBD.out]
          exact ⟨rfl, hF2.trans hF3⟩
#print axioms rdigits_pos
end Go.Proofs.YtdmjbhbiehjelaaGreatDoor
/- Texts as lists; Itoa, Repeat, noughts. -/
namespace Go.Proofs.YtdmjbhbiehjelaaGreatDoor
open Go.RowKit Ieee Go.Shelf

theorem Fr.grow {S : Nat → Prop} {a w : World} (h : Fr S a w) (os : Array Obj) : Fr S a (Go.Sort.grow w os) :=
  ⟨h.os, h.tape, h.output, by rw [Go.Sort.size_grow]; have := h.size; omega, fun k hk hs => by
    have hw : k < w.heap.size := Nat.lt_of_lt_of_le hk h.size
    show (w.heap ++ os)[k]? = _
    rw [Array.getElem?_append_left hw]
    exact h.block k hk hs⟩
/-- A list of bytes as a text. -/
def baL (L : List UInt8) : ByteArray := ⟨L.toArray⟩
theorem baL_list (L : List UInt8) : (baL L).data.toList = L := by simp [baL]
theorem baL_size (L : List UInt8) : (baL L).size = L.length := by simp [baL, ByteArray.size]
theorem baL_append (L M : List UInt8) : baL L ++ baL M = baL (L ++ M) := by
  apply ByteArray.ext
  simp [baL, ByteArray.data_append]
theorem baL_self (s : ByteArray) : baL s.data.toList = s := by simp [baL]
theorem itoa_nat (n : Nat) : Lib.itoa (n : Int) = Lib.decDigits n := by
  unfold Lib.itoa
  rw [if_neg (by omega)]
  simp
theorem repeat_nought : ∀ k, Lib.repeatL [48] k = List.replicate k 48
  | 0 => rfl
  | k + 1 => by rw [Lib.repeatL, repeat_nought k, List.replicate_succ]; rfl
theorem bldR : Builder.Extra Tryz.prog Tryz.laysLaysn105_ren where
  sizeBuilder := by kernel_rfl
  liesBuilder := by kernel_rfl
  t5 := Tryz.underlying5
  a5 := Tryz.isAgg5
  z5 := Tryz.sizeOf5
  v5 := Tryz.zeroValue5
  infoByte := by kernel_rfl
  cellsByte := by kernel_rfl
  sizeByte := by kernel_rfl
  neB5 := by decide
theorem repeat_any (c : Nat) (hc : c ≤ 1000) (w : World) : Calls Tryz.prog 109 #[.string ⟨#[48]⟩, .int .i64 (c : Int)] w fun e w' => e = .returned (.string (baL (List.replicate c 48))) ∧ Fr noB w w' :=
  (Any.strings_Repeat Tryz.laysLaysn105 bldR ⟨#[48]⟩ c w (by omega) (by rw [show (⟨#[48]⟩ : ByteArray).size = 1 from rfl]; omega)).mono fun e w' ⟨he, hb⟩ => ⟨by rw [he, show (⟨#[48]⟩ : ByteArray).data.toList = [48] from rfl, repeat_nought]; rfl, Fr.ofBelow hb⟩
set_option maxRecDepth 100000 in
set_option maxHeartbeats 1000000 in
theorem noughts_any (n : Int) (h1 : -100 ≤ n) (h2 : n ≤ 100) (w : World) : Calls Tryz.prog 56 #[.int .i64 n] w fun e w' => e = .returned (.string (baL (List.replicate n.toNat 48))) ∧ w' = w := by
  go_enter Tryz.func56, Tryz.ntmps56
  go_wp2_with fail
  go_loop [3, 4] (fun sv iv => ∃ k : Nat, iv = .int .i64 (k : Int) ∧ sv = .string (baL (List.replicate k 48)) ∧ k ≤ n.toNat) (fun _ iv => n.toNat - (intOf iv).toNat)
  case atStart => exact ⟨0, rfl, rfl, Nat.zero_le _⟩
  case round =>
    obtain ⟨k, rfl, rfl, hk⟩ := hrel
    by_cases hlt : (k : Int) < n
    · have HA : Hid (baL (List.replicate k 48) ++ ⟨#[48]⟩ = baL (List.replicate (k + 1) 48)) := by
        show _ = _
        rw [show (⟨#[48]⟩ : ByteArray) = baL [48] from rfl, baL_append, ← List.replicate_succ']
      have hsz : (baL (List.replicate k 48)).size ≤ 100 := by rw [baL_size]; simp; omega
      generalize baL (List.replicate k 48) = B at *
      go_wp2_with fail
      go_round
      case rel => exact ⟨k + 1, by go_num, by rw [← HA.out], by omega⟩
      case measure => simp [intOf]; omega
    · have hke : k = n.toNat := by omega
      subst hke
      go_wp2_with fail
      go_ret
      exact ⟨rfl, rfl⟩
theorem itoaI_any (n : Int) (h0 : -1000 ≤ n) (h1 : n ≤ 1000) (w : World) (hU : UTab w) : Calls Tryz.prog 57 #[.int .i64 n] w fun e w' => e = .returned (.string (baL (Lib.itoa n))) ∧ Fr noB w w' :=
  (Any.strconv_Itoa Tryz.laysLaysMn171 n (by omega) (by omega) w hU.2).mono fun e w' ⟨he, k, os, hw⟩ => ⟨by rw [he]; rfl, by rw [hw]; exact ((Fr.refl noB w).drewN k).grow os⟩
theorem baL_cut (L : List UInt8) (a b : Nat) : (baL L).extract a b = baL ((L.take b).drop a) := by
  apply ByteArray.ext
  apply Array.toList_inj.1
  simp [baL, List.drop_take]
theorem baL_empty (L : List UInt8) : (baL L).toList.isEmpty = L.isEmpty := by rw [ByteArray.toList_eq, baL_list]
set_option maxRecDepth 100000 in
theorem pointed_any (A B : List UInt8) (hA : A.length ≤ 1000) (hB : B.length ≤ 1000) (w : World) : Calls Tryz.prog 108 #[.string (baL A), .string (baL B)] w fun e w' => e = .returned (.string (baL (if B.isEmpty = true then A else A ++ 46 :: B))) ∧ w' = w := by
  have hap := baL_append
  have c46 : (⟨#[46]⟩ : ByteArray) = baL [46] := rfl
  have he := baL_empty B
  cases hb : B.isEmpty with
  | true =>
    rw [hb] at he
    rw [if_pos rfl]
    generalize baL B = BB at *
    clear hap c46 hb
    generalize baL A = AA at *
    go_enter Tryz.func108, Tryz.ntmps108
    go_wp2_with fail
    go_ret
    exact ⟨rfl, rfl⟩
  | false =>
    rw [hb] at he
    rw [if_neg (by simp)]
    have h1 : baL A ++ ⟨#[46]⟩ = baL (A ++ [46]) := hap A [46]
    have h2 : baL (A ++ [46]) ++ baL B = baL (A ++ 46 :: B) := by rw [hap]; simp
    have z1 : (baL A).size ≤ 1000 := by rw [baL_size]; exact hA
    have z2 : (baL B).size ≤ 1000 := by rw [baL_size]; exact hB
    have z3 : (baL (A ++ [46])).size ≤ 1001 := by rw [baL_size]; simp; exact hA
    generalize baL B = BB at *
    generalize baL A = AA at *
    generalize baL (A ++ [46]) = A2 at *
    generalize baL (A ++ 46 :: B) = R at *
    clear hap c46 hb
    go_enter Tryz.func108, Tryz.ntmps108
    go_wp2_with fail
    go_ret
    exact ⟨rfl, rfl⟩
#print axioms pointed_any
end Go.Proofs.YtdmjbhbiehjelaaGreatDoor
/- Text of any float: the program's. -/
namespace Go.Proofs.YtdmjbhbiehjelaaGreatDoor
open Go.RowKit Ieee Go.Shelf

/-- The text of 0.L times ten to the e. -/
def wrL (L : List UInt8) (e : Int) : List UInt8 :=
  if e < -5 ∨ 21 < e then (if (L.drop 1).isEmpty = true then L.take 1 else L.take 1 ++ 46 :: L.drop 1) ++ 69 :: Lib.itoa (e - 1)
  else if e ≤ 0 then 48 :: 46 :: (List.replicate (-e).toNat 48 ++ L)
  else if (L.length : Int) ≤ e then L ++ List.replicate (e - L.length).toNat 48
  else L.take e.toNat ++ 46 :: L.drop e.toNat
theorem itoa_len (n : Int) (h0 : -1000 ≤ n) (h1 : n ≤ 1000) : (Lib.itoa n).length ≤ 100 := by
  have key : ∀ k : _root_.Fin 2001, (Lib.itoa ((k.val : Int) - 1000)).length ≤ 100 := by decide +kernel
  have := key ⟨(n + 1000).toNat, by omega⟩
  have e : (((n + 1000).toNat : Nat) : Int) - 1000 = n := by omega
  simp only [e] at this
  exact this
set_option maxRecDepth 100000 in
set_option maxHeartbeats 2000000 in
theorem written_any (L : List UInt8) (e : Int) (hl1 : 1 ≤ L.length) (hl2 : L.length ≤ 18) (he1 : -401 ≤ e) (he2 : e ≤ 421) (w : World) (hU : UTab w) :
    Calls Tryz.prog 71 #[.string (baL L), .int .i64 e] w fun en w' => en = .returned (.string (baL (wrL L e))) ∧ Fr noB w w' := by
  have hzL : (baL L).size = L.length := baL_size L
  unfold wrL
  by_cases c1 : e < -5 ∨ 21 < e
  · rw [if_pos c1]
    have HI : Hid (∀ W, Fr noB w W → Calls Tryz.prog 57 #[.int .i64 (e - 1)] W fun en w' => en = .returned (.string (baL (Lib.itoa (e - 1)))) ∧ Fr noB W w') := fun W hW => itoaI_any (e - 1) (by omega) (by omega) W (hU.fr hW)
    have HP := pointed_any (L.take 1) (L.drop 1) (by rw [List.length_take]; omega) (by rw [List.length_drop]; omega)
    have x1 : (baL L).extract 0 1 = baL (L.take 1) := by rw [baL_cut]; simp
    have x2 : (baL L).extract 1 L.length = baL (L.drop 1) := by rw [baL_cut]; simp
    have hlenP : ((if (L.drop 1).isEmpty = true then L.take 1 else L.take 1 ++ 46 :: L.drop 1) : List UInt8).length ≤ 100 := by split <;> simp <;> omega
    have hlenI := itoa_len (e - 1) (by omega) (by omega)
    generalize (if (L.drop 1).isEmpty = true then L.take 1 else L.take 1 ++ 46 :: L.drop 1) = PP at *
    generalize Lib.itoa (e - 1) = II at *
    have a1 : baL PP ++ ⟨#[69]⟩ = baL (PP ++ [69]) := baL_append PP [69]
    have a2 : baL (PP ++ [69]) ++ baL II = baL (PP ++ 69 :: II) := by rw [baL_append]; simp
    have z1 : (baL PP).size ≤ 100 := by rw [baL_size]; exact hlenP
    have z2 : (baL II).size ≤ 100 := by rw [baL_size]; exact hlenI
    have z3 : (baL (PP ++ [69])).size ≤ 101 := by rw [baL_size]; simp; exact hlenP
    generalize baL PP = P1 at *
    generalize baL (PP ++ [69]) = P2 at *
    generalize baL (PP ++ 69 :: II) = P3 at *
    generalize baL II = I1 at *
    generalize baL (L.take 1) = D0 at *
    generalize baL (L.drop 1) = D1 at *
    generalize baL L = D at *
    have hc1 : (decide (e < -5) || decide (21 < e)) = true := by simpa using c1
    clear hU
    go_enter Tryz.func71, Tryz.ntmps71
    go_wp2_with fail
    all_goals
      go_region_with (first
        | (go_at_call 108; with_reducible refine (HP _).mono ?_; rintro en wa ⟨rfl, hwa⟩; subst hwa)
        | (go_at_call 57; with_reducible refine (HI.out _ (by first | exact (Fr.refl noB w).drew | exact Fr.refl noB w)).mono ?_; rintro en wb ⟨rfl, hFb⟩))
    all_goals
      go_wp2_with fail
      go_ret
      refine ⟨rfl, ?_⟩
      repeat first | assumption | exact (Fr.refl _ _).drew | refine Fr.trans ?_ (by assumption)
  rw [if_neg c1]
  have d1 : (decide (e < -5) || decide (21 < e)) = false := by simpa using c1
  have d2 : -5 ≤ e := by omega
  have d3 : e ≤ 21 := by omega
  by_cases c2 : e ≤ 0
  · rw [if_pos c2]
    obtain ⟨k, rfl⟩ : ∃ k : Nat, e = -(k : Int) := ⟨(-e).toNat, by omega⟩
    have HR := repeat_any k (by omega)
    have HP := pointed_any [48] (List.replicate k 48 ++ L) (by simp) (by simp; omega)
    rw [if_neg (by cases L <;> simp_all)] at HP
    rw [show (-(-(k : Int))).toNat = k by omega]
    have a1 : baL (List.replicate k 48) ++ baL L = baL (List.replicate k 48 ++ L) := baL_append _ _
    have z1 : (baL (List.replicate k 48)).size = k := by rw [baL_size]; simp
    have c48 : baL [48] = ⟨#[48]⟩ := rfl
    rw [c48] at HP
    have hfin : [48] ++ 46 :: (List.replicate k 48 ++ L) = 48 :: 46 :: (List.replicate k 48 ++ L) := rfl
    rw [hfin] at HP
    generalize baL (48 :: 46 :: (List.replicate k 48 ++ L)) = RR at *
    generalize baL (List.replicate k 48 ++ L) = R1 at *
    generalize baL (List.replicate k 48) = R0 at *
    generalize baL L = D at *
    have d4 : ¬ (-(k : Int) < -5) := by omega
    clear hU c1 hfin c48 d1
    go_enter Tryz.func71, Tryz.ntmps71
    go_wp2_with (first
      | (go_at_call 109; with_reducible refine (HR _).mono ?_; rintro en wa ⟨rfl, hFa⟩)
      | (go_at_call 108; with_reducible refine (HP _).mono ?_; rintro en wb ⟨rfl, hwb⟩; subst hwb))
    go_ret
    exact ⟨rfl, hFa⟩
  rw [if_neg c2]
  obtain ⟨k, rfl⟩ : ∃ k : Nat, e = (k : Int) := ⟨e.toNat, by omega⟩
  by_cases c3 : (L.length : Int) ≤ (k : Int)
  · rw [if_pos c3]
    obtain ⟨j, hj⟩ : ∃ j : Nat, k = L.length + j := ⟨k - L.length, by omega⟩
    have HR := repeat_any j (by omega)
    rw [show ((k : Int) - (L.length : Int)).toNat = j by omega]
    have hsub : (k : Int) - (L.length : Int) = (j : Int) := by omega
    have a1 : baL L ++ baL (List.replicate j 48) = baL (L ++ List.replicate j 48) := baL_append _ _
    have z1 : (baL (List.replicate j 48)).size = j := by rw [baL_size]; simp
    have hj2 : j ≤ 21 := by omega
    generalize baL (L ++ List.replicate j 48) = RR at *
    generalize baL (List.replicate j 48) = R0 at *
    generalize baL L = D at *
    clear hU c1 d1 hj
    generalize L.length = nl at *
    go_enter Tryz.func71, Tryz.ntmps71
    go_wp2_with (first
      | (go_at_call 109; with_reducible refine (HR _).mono ?_; rintro en wa ⟨rfl, hFa⟩))
    go_ret
    exact ⟨rfl, hFa⟩
  · rw [if_neg c3]
    have ck : k < L.length := by omega
    have HP := pointed_any (L.take k) (L.drop k) (by rw [List.length_take]; omega) (by rw [List.length_drop]; omega)
    rw [if_neg (by rw [List.isEmpty_iff]; intro h; have := congrArg List.length h; rw [List.length_drop] at this; simp at this; omega)] at HP
    rw [show ((k : Int)).toNat = k by omega]
    have x1 : (baL L).extract 0 k = baL (L.take k) := by rw [baL_cut]; simp
    have x2 : (baL L).extract k L.length = baL (L.drop k) := by rw [baL_cut]; simp
    generalize baL (L.take k ++ 46 :: L.drop k) = RR at *
    generalize baL (L.take k) = D0 at *
    generalize baL (L.drop k) = D1 at *
    generalize baL L = D at *
    have k1 : 1 ≤ k := by omega
    clear hU c1 d1
    generalize L.length = nl at *
    go_enter Tryz.func71, Tryz.ntmps71
    go_wp2_with fail
    go_region_with (first
        | (go_at_call 108; with_reducible refine (HP _).mono ?_; rintro en wa ⟨rfl, hwa⟩; subst hwa))
    all_goals
      go_wp2_with fail
      go_ret
      refine ⟨rfl, ?_⟩
      repeat first | assumption | exact (Fr.refl _ _).drew | refine Fr.trans ?_ (by assumption)
set_option maxRecDepth 100000 in
theorem signed_any (b : Bool) (s : ByteArray) (hs : s.size ≤ 1000) (w : World) : Calls Tryz.prog 70 #[.bool b, .string s] w fun e w' => e = .returned (.string (if b = true then ⟨#[45]⟩ ++ s else s)) ∧ w' = w := by
  cases b
  all_goals
    go_enter Tryz.func70, Tryz.ntmps70
    go_wp2_with fail
    go_ret
    exact ⟨rfl, rfl⟩
#print axioms signed_any
#print axioms written_any
end Go.Proofs.YtdmjbhbiehjelaaGreatDoor
/- Digits and Text of any float: the program's; Digits of the document. -/
namespace Go.Proofs.YtdmjbhbiehjelaaGreatDoor
open Go.RowKit Ieee Go.Shelf

def absN (x : Nat) : Nat := x % 9223372036854775808
def dgL (x : Nat) : List UInt8 := if finB x = false then [] else if absN x = 0 then [48] else (digF (absN x)).map UInt8.ofNat
def dgE (x : Nat) : Int := if finB x = false then 0 else if absN x = 0 then 1 else dpF (absN x)
def dgN (x : Nat) : Int := if finB x = false then 80 else 0
theorem dg_facts (x : Nat) (hf : finB x = true) : 1 ≤ (dgL x).length ∧ (dgL x).length ≤ 18 ∧ -401 ≤ dgE x ∧ dgE x ≤ 421 ∧ dgN x = 0 := by
  have hfn : ¬ finB x = false := by simp [hf]
  have hn : dgN x = 0 := by unfold dgN; rw [if_neg hfn]
  by_cases h0 : absN x = 0
  · have e1 : dgL x = [48] := by unfold dgL; rw [if_neg hfn, if_pos h0]
    have e2 : dgE x = 1 := by unfold dgE; rw [if_neg hfn, if_pos h0]
    rw [e1, e2, hn]
    decide
  · have e1 : dgL x = (digF (absN x)).map UInt8.ofNat := by unfold dgL; rw [if_neg hfn, if_neg h0]
    have e2 : dgE x = dpF (absN x) := by unfold dgE; rw [if_neg hfn, if_neg h0]
    rw [e1, e2, hn, List.length_map]
    have h1 : 0 < absN x := by omega
    have h2 : absN x < 9218868437227405312 := (fin_iff x).1 hf
    have l := digF_len (absN x) h1 h2
    have r := dpF_range (absN x) h1 h2
    exact ⟨l.1, l.2.1, by omega, by omega, rfl⟩
set_option maxRecDepth 100000 in
set_option maxHeartbeats 1000000 in
theorem pdigits_any (x : Nat) (w : World) (hx : x < 18446744073709551616) (hT : NTab w) :
    Calls Tryz.prog 69 #[.float .f64 x] w fun e w' => e = .returned (.tuple #[.string (baL (dgL x)), .int .i64 (dgE x), .int .i64 (dgN x)]) ∧ Fr noB w w' := by
  have HN := finite_any x hx
  cases hf : finB x with
  | false =>
    rw [hf] at HN
    rw [show dgL x = [] by unfold dgL; rw [if_pos hf], show dgE x = 0 by unfold dgE; rw [if_pos hf], show dgN x = 80 by unfold dgN; rw [if_pos hf]]
    clear hT hf
    go_enter Tryz.func69, Tryz.ntmps69
    go_wp2_with (go_at_call 103; refine (HN _).mono ?_; rintro e w1 ⟨rfl, rfl⟩)
    go_ret3
    exact ⟨rfl, Fr.refl _ _⟩
  | true =>
    have hfn : ¬ finB x = false := by simp [hf]
    by_cases h0 : absN x = 0
    · rw [show dgL x = [48] by unfold dgL; rw [if_neg hfn, if_pos h0], show dgE x = 1 by unfold dgE; rw [if_neg hfn, if_pos h0], show dgN x = 0 by unfold dgN; rw [if_neg hfn]]
      rw [hf] at HN
      have hz : (FloatKind.f64.format.order x 0 == some .eq) = true := by rw [order_zero x (fin_of hf)]; exact decide_eq_true h0
      clear hT hf hfn h0
      go_enter Tryz.func69, Tryz.ntmps69
      go_wp2_with (go_at_call 103; refine (HN _).mono ?_; rintro e w1 ⟨rfl, rfl⟩)
      go_ret3
      exact ⟨rfl, Fr.refl _ _⟩
    · rw [show dgL x = (digF (absN x)).map UInt8.ofNat by unfold dgL; rw [if_neg hfn, if_neg h0], show dgE x = dpF (absN x) by unfold dgE; rw [if_neg hfn, if_neg h0], show dgN x = 0 by unfold dgN; rw [if_neg hfn]]
      exact digits_pos x w hx (Nat.pos_of_ne_zero h0) ((fin_iff x).1 hf) hT
set_option maxRecDepth 100000 in
set_option maxHeartbeats 1000000 in
theorem rdigits_any (x : Nat) (w : World) (hx : x < 18446744073709551616) (hT : NTab w) :
    Calls Tryz.prog 55 #[.float .f64 x] w fun e w' => e = .returned (.tuple #[.string (baL (dgL x)), .int .i64 (dgE x), .int .i64 (dgN x)]) ∧ Fr noB w w' := by
  have HN := rfinite_any x
  cases hf : finB x with
  | false =>
    rw [hf] at HN
    rw [show dgL x = [] by unfold dgL; rw [if_pos hf], show dgE x = 0 by unfold dgE; rw [if_pos hf], show dgN x = 80 by unfold dgN; rw [if_pos hf]]
    clear hT hf
    go_enter Tryz.func55, Tryz.ntmps55
    go_wp2_with (go_at_call 85; refine (HN _).mono ?_; rintro e w1 ⟨rfl, m1, h1⟩; subst h1)
    go_ret3
    exact ⟨rfl, (Fr.refl _ _).drewN _⟩
  | true =>
    have hfn : ¬ finB x = false := by simp [hf]
    by_cases h0 : absN x = 0
    · rw [show dgL x = [48] by unfold dgL; rw [if_neg hfn, if_pos h0], show dgE x = 1 by unfold dgE; rw [if_neg hfn, if_pos h0], show dgN x = 0 by unfold dgN; rw [if_neg hfn]]
      rw [hf] at HN
      have hz : (FloatKind.f64.format.order x 0 == some .eq) = true := by rw [order_zero x (fin_of hf)]; exact decide_eq_true h0
      have hl := lt_zero x hx (fin_of hf)
      rw [decide_eq_false (show ¬ 9223372036854775808 < x by unfold absN at h0; omega)] at hl
      clear hT hf hfn h0
      go_enter Tryz.func55, Tryz.ntmps55
      go_wp2_with (go_at_call 85; refine (HN _).mono ?_; rintro e w1 ⟨rfl, m1, h1⟩; subst h1)
      go_ret3
      exact ⟨rfl, (Fr.refl _ _).drewN _⟩
    · rw [show dgL x = (digF (absN x)).map UInt8.ofNat by unfold dgL; rw [if_neg hfn, if_neg h0], show dgE x = dpF (absN x) by unfold dgE; rw [if_neg hfn, if_neg h0], show dgN x = 0 by unfold dgN; rw [if_neg hfn]]
      exact rdigits_pos x w hx (Nat.pos_of_ne_zero h0) ((fin_iff x).1 hf) hT
/-- A float's text. -/
def sgL (x : Nat) : List UInt8 := if 9223372036854775808 < x then [45] else []
def ttL (x : Nat) : List UInt8 := if finB x = false then [] else sgL x ++ wrL (dgL x) (dgE x)
theorem wrL_len (L : List UInt8) (e : Int) (hl2 : L.length ≤ 18) (he1 : -401 ≤ e) (he2 : e ≤ 421) : (wrL L e).length ≤ 200 := by
  unfold wrL
  have hi := itoa_len (e - 1) (by omega) (by omega)
  split
  · split <;> simp <;> omega
  · split
    · simp
      omega
    · split
      · simp
        omega
      · simp
        omega
set_option maxRecDepth 100000 in
set_option maxHeartbeats 1000000 in
theorem ptext_any (x : Nat) (w : World) (hx : x < 18446744073709551616) (hT : NTab w) :
    Calls Tryz.prog 41 #[.float .f64 x] w fun e w' => e = .returned (.tuple #[.string (baL (ttL x)), .int .i64 (dgN x)]) ∧ Fr noB w w' := by
  have HD := pdigits_any x w hx hT
  cases hf : finB x with
  | false =>
    have hn : dgN x = 80 := by unfold dgN; rw [if_pos hf]
    rw [show ttL x = [] by unfold ttL; rw [if_pos hf], hn]
    rw [hn] at HD
    generalize dgL x = DL at *
    generalize dgE x = DE at *
    clear hT hf hn
    go_enter Tryz.func41, Tryz.ntmps41
    go_wp2_with (go_at_call 69; refine HD.mono ?_; rintro e w1 ⟨rfl, hF1⟩)
    go_ret2
    exact ⟨rfl, hF1⟩
  | true =>
    obtain ⟨f1, f2, f3, f4, f5⟩ := dg_facts x hf
    have HW : Hid (∀ W, Fr noB w W → Calls Tryz.prog 71 #[.string (baL (dgL x)), .int .i64 (dgE x)] W fun en w' => en = .returned (.string (baL (wrL (dgL x) (dgE x)))) ∧ Fr noB W w') := fun W hW => written_any (dgL x) (dgE x) f1 f2 f3 f4 W (hT.u.fr hW)
    have hl := lt_zero x hx (fin_of hf)
    have hlen := wrL_len (dgL x) (dgE x) f2 f3 f4
    rw [f5] at HD ⊢
    rw [show ttL x = sgL x ++ wrL (dgL x) (dgE x) by unfold ttL; rw [if_neg (by simp [hf])]]
    generalize dgL x = DL at *
    generalize dgE x = DE at *
    generalize wrL DL DE = WR at *
    have HS := signed_any (decide (9223372036854775808 < x)) (baL WR) (by rw [baL_size]; omega)
    have hres : (if decide (9223372036854775808 < x) = true then ⟨#[45]⟩ ++ baL WR else baL WR) = baL (sgL x ++ WR) := by
      unfold sgL
      by_cases h : 9223372036854775808 < x
      · rw [if_pos (by simpa using h), if_pos h]
        exact baL_append [45] WR
      · rw [if_neg (by simpa using h), if_neg h]
        rfl
    rw [hres] at HS
    generalize baL (sgL x ++ WR) = RR at *
    generalize baL WR = WB at *
    generalize baL DL = DB at *
    generalize decide (9223372036854775808 < x) = neg at *
    clear hT hf f1 f2 f5 hres hlen
    go_enter Tryz.func41, Tryz.ntmps41
    go_wp2_with (first
      | (go_at_call 69; with_reducible refine HD.mono ?_; rintro e w1 ⟨rfl, hF1⟩)
      | (go_at_call 71; with_reducible refine (HW.out _ hF1).mono ?_; rintro e w2 ⟨rfl, hF2⟩)
      | (go_at_call 70; with_reducible refine (HS _).mono ?_; rintro e w3 ⟨rfl, h3⟩; subst h3))
    go_ret2
    exact ⟨rfl, hF1.trans hF2⟩
#print axioms ptext_any
#print axioms rdigits_any
end Go.Proofs.YtdmjbhbiehjelaaGreatDoor
/- Text of any float: the document's. -/
namespace Go.Proofs.YtdmjbhbiehjelaaGreatDoor
open Go.RowKit Ieee Go.Shelf

theorem baL_sz (L : List UInt8) {n : Nat} (h : L.length ≤ n) : (baL L).size ≤ n := by rw [baL_size]; exact h
set_option maxRecDepth 100000 in
set_option maxHeartbeats 4000000 in
theorem rtext_any (x : Nat) (w : World) (hx : x < 18446744073709551616) (hT : NTab w) :
    Calls Tryz.prog 30 #[.float .f64 x] w fun e w' => e = .returned (.tuple #[.string (baL (ttL x)), .int .i64 (dgN x)]) ∧ Fr noB w w' := by
  have HD := rdigits_any x w hx hT
  cases hf : finB x with
  | false =>
    have hn : dgN x = 80 := by unfold dgN; rw [if_pos hf]
    rw [show ttL x = [] by unfold ttL; rw [if_pos hf], hn]
    rw [hn] at HD
    generalize dgL x = DL at *
    generalize dgE x = DE at *
    clear hT hf hn
    go_enter Tryz.func30, Tryz.ntmps30
    go_wp2_with (go_at_call 55; refine HD.mono ?_; rintro e w1 ⟨rfl, hF1⟩)
    go_ret2
    exact ⟨rfl, hF1⟩
  | true =>
    obtain ⟨f1, f2, f3, f4, f5⟩ := dg_facts x hf
    have hl := lt_zero x hx (fin_of hf)
    rw [f5] at HD ⊢
    rw [show ttL x = sgL x ++ wrL (dgL x) (dgE x) by unfold ttL; rw [if_neg (by simp [hf])]]
    have HI : Hid (∀ W, Fr noB w W → Calls Tryz.prog 57 #[.int .i64 (dgE x - 1)] W fun en w' => en = .returned (.string (baL (Lib.itoa (dgE x - 1)))) ∧ Fr noB W w') := fun W hW => itoaI_any (dgE x - 1) (by omega) (by omega) W (hT.u.fr hW)
    have hlI := itoa_len (dgE x - 1) (by omega) (by omega)
    have HNO := noughts_any
    generalize dgL x = L at *
    generalize dgE x = e at *
    have hzL : (baL L).size = L.length := baL_size L
    clear hT hf f5
    by_cases hs : 9223372036854775808 < x
    · rw [show sgL x = [45] by unfold sgL; rw [if_pos hs]]
      rw [decide_eq_true hs] at hl
      clear hs
      unfold wrL
      by_cases c1 : e < -5 ∨ 21 < e
      · rw [if_pos c1]
        have q1 : (decide (1 ≤ e) && decide (e ≤ 21)) = false := by simp; omega
        have q3 : (decide (-5 ≤ e) && decide (e ≤ 0)) = false := by simp; omega
        have c1' : e < -5 ∨ 21 < e := c1
        have x1 : (baL L).extract 0 1 = baL (L.take 1) := by rw [baL_cut]; simp
        have x2 : (baL L).extract 1 L.length = baL (L.drop 1) := by rw [baL_cut]; simp
        have a1 : (⟨#[45]⟩ : ByteArray) ++ baL (L.take 1) = baL ([45] ++ L.take 1) := baL_append [45] _
        have z0 := baL_sz (L.take 1) (n := 18) (by rw [List.length_take]; omega)
        have z1 := baL_sz ([45] ++ L.take 1) (n := 20) (by simp; omega)
        have z2 := baL_sz (Lib.itoa (e - 1)) hlI
        by_cases cn : L.length = 1
        · have hemp : (L.drop 1).isEmpty = true := by rw [List.isEmpty_iff]; exact List.drop_of_length_le (by omega)
          rw [if_pos hemp]
          have a2 : baL ([45] ++ L.take 1) ++ ⟨#[69]⟩ = baL ([45] ++ L.take 1 ++ [69]) := baL_append _ [69]
          have a3 : baL ([45] ++ L.take 1 ++ [69]) ++ baL (Lib.itoa (e - 1)) = baL ([45] ++ (L.take 1 ++ 69 :: Lib.itoa (e - 1))) := by rw [baL_append]; simp
          have z3 := baL_sz ([45] ++ L.take 1 ++ [69]) (n := 30) (by simp; omega)
          generalize baL ([45] ++ (L.take 1 ++ 69 :: Lib.itoa (e - 1))) = R3 at *
          generalize baL ([45] ++ L.take 1 ++ [69]) = R2 at *
          generalize baL ([45] ++ L.take 1) = R1 at *
          generalize baL (Lib.itoa (e - 1)) = IB at *
          generalize baL (L.take 1) = D0 at *
          generalize baL (L.drop 1) = D1 at *
          generalize baL (L) = D at *
          rw [cn] at hzL x2
          clear c1 hemp cn f1 f2 hlI HNO
          rcases c1' with c | c
          · go_enter Tryz.func30, Tryz.ntmps30
            go_wp2_with (first | (go_at_call 55; with_reducible refine HD.mono ?_; rintro en w1 ⟨rfl, hF1⟩) | (go_at_call 57; with_reducible refine (HI.out _ hF1).mono ?_; rintro en w3 ⟨rfl, hF3⟩))
            go_ret2
            exact ⟨rfl, hF1.trans hF3⟩
          · go_enter Tryz.func30, Tryz.ntmps30
            go_wp2_with (first | (go_at_call 55; with_reducible refine HD.mono ?_; rintro en w1 ⟨rfl, hF1⟩) | (go_at_call 57; with_reducible refine (HI.out _ hF1).mono ?_; rintro en w3 ⟨rfl, hF3⟩))
            go_ret2
            exact ⟨rfl, hF1.trans hF3⟩
        · have hemp : ¬ (L.drop 1).isEmpty = true := by rw [List.isEmpty_iff]; intro h; have := congrArg List.length h; rw [List.length_drop] at this; simp at this; omega
          rw [if_neg hemp]
          have b1 : (⟨#[46]⟩ : ByteArray) ++ baL (L.drop 1) = baL (46 :: L.drop 1) := baL_append [46] _
          have b2 : baL ([45] ++ L.take 1) ++ baL (46 :: L.drop 1) = baL ([45] ++ (L.take 1 ++ 46 :: L.drop 1)) := by rw [baL_append]; simp
          have a2 : baL ([45] ++ (L.take 1 ++ 46 :: L.drop 1)) ++ ⟨#[69]⟩ = baL ([45] ++ (L.take 1 ++ 46 :: L.drop 1) ++ [69]) := baL_append _ [69]
          have a3 : baL ([45] ++ (L.take 1 ++ 46 :: L.drop 1) ++ [69]) ++ baL (Lib.itoa (e - 1)) = baL ([45] ++ ((L.take 1 ++ 46 :: L.drop 1) ++ 69 :: Lib.itoa (e - 1))) := by rw [baL_append]; simp
          have z3 := baL_sz (L.drop 1) (n := 18) (by rw [List.length_drop]; omega)
          have z4 := baL_sz (46 :: L.drop 1) (n := 20) (by simp; omega)
          have z5 := baL_sz ([45] ++ (L.take 1 ++ 46 :: L.drop 1)) (n := 60) (by simp; omega)
          have z6 := baL_sz ([45] ++ (L.take 1 ++ 46 :: L.drop 1) ++ [69]) (n := 70) (by simp; omega)
          generalize baL ([45] ++ ((L.take 1 ++ 46 :: L.drop 1) ++ 69 :: Lib.itoa (e - 1))) = R5 at *
          generalize baL ([45] ++ (L.take 1 ++ 46 :: L.drop 1) ++ [69]) = R4 at *
          generalize baL ([45] ++ (L.take 1 ++ 46 :: L.drop 1)) = R3 at *
          generalize baL (46 :: L.drop 1) = R2 at *
          generalize baL ([45] ++ L.take 1) = R1 at *
          generalize baL (Lib.itoa (e - 1)) = IB at *
          generalize baL (L.take 1) = D0 at *
          generalize baL (L.drop 1) = D1 at *
          generalize baL (L) = D at *
          have cn2 : 1 < L.length := by omega
          clear c1 hemp cn hlI HNO
          generalize L.length = nl at *
          rcases c1' with c | c
          · go_enter Tryz.func30, Tryz.ntmps30
            go_wp2_with (first | (go_at_call 55; with_reducible refine HD.mono ?_; rintro en w1 ⟨rfl, hF1⟩) | (go_at_call 57; with_reducible refine (HI.out _ hF1).mono ?_; rintro en w3 ⟨rfl, hF3⟩))
            go_ret2
            exact ⟨rfl, hF1.trans hF3⟩
          · go_enter Tryz.func30, Tryz.ntmps30
            go_wp2_with (first | (go_at_call 55; with_reducible refine HD.mono ?_; rintro en w1 ⟨rfl, hF1⟩) | (go_at_call 57; with_reducible refine (HI.out _ hF1).mono ?_; rintro en w3 ⟨rfl, hF3⟩))
            go_ret2
            exact ⟨rfl, hF1.trans hF3⟩
      rw [if_neg c1]
      have d1 : -5 ≤ e := by omega
      have d2 : e ≤ 21 := by omega
      clear c1 HI hlI
      by_cases c2 : e ≤ 0
      · rw [if_pos c2]
        have q1 : (decide (1 ≤ e) && decide (e ≤ 21)) = false := by simp; omega
        have q3 : (decide (-5 ≤ e) && decide (e ≤ 0)) = true := by simp; omega
        obtain ⟨k, rfl⟩ : ∃ k : Nat, e = -(k : Int) := ⟨(-e).toNat, by omega⟩
        have HN2 := HNO (k : Int) (by omega) (by omega)
        rw [show ((k : Int)).toNat = k by omega] at HN2
        rw [show (-(-(k : Int))).toNat = k by omega]
        have hng : -(-(k : Int)) = (k : Int) := by omega
        have a1 : (⟨#[45]⟩ : ByteArray) ++ ⟨#[48, 46]⟩ = baL ([45] ++ [48, 46]) := baL_append [45] [48, 46]
        have a2 : baL ([45] ++ [48, 46]) ++ baL (List.replicate k 48) = baL ([45] ++ [48, 46] ++ List.replicate k 48) := baL_append _ _
        have a3 : baL ([45] ++ [48, 46] ++ List.replicate k 48) ++ baL L = baL ([45] ++ 48 :: 46 :: (List.replicate k 48 ++ L)) := by rw [baL_append]; simp
        have z1 := baL_sz ([45] ++ [48, 46]) (n := 10) (by simp)
        have z2 := baL_sz (List.replicate k (48 : UInt8)) (n := 10) (by simp; omega)
        have z3 := baL_sz ([45] ++ [48, 46] ++ List.replicate k 48) (n := 30) (by simp; omega)
        generalize baL ([45] ++ 48 :: 46 :: (List.replicate k 48 ++ L)) = R3 at *
        generalize baL ([45] ++ [48, 46] ++ List.replicate k 48) = R2 at *
        generalize baL ([45] ++ [48, 46]) = R1 at *
        generalize baL (List.replicate k 48) = NB at *
        generalize baL (L) = D at *
        clear HNO
        generalize L.length = nl at *
        go_enter Tryz.func30, Tryz.ntmps30
        go_wp2_with (first | (go_at_call 55; with_reducible refine HD.mono ?_; rintro en w1 ⟨rfl, hF1⟩) | (go_at_call 56; with_reducible refine (HN2 _).mono ?_; rintro en w2 ⟨rfl, h2⟩; subst h2))
        go_ret2
        exact ⟨rfl, hF1⟩
      rw [if_neg c2]
      obtain ⟨k, rfl⟩ : ∃ k : Nat, e = (k : Int) := ⟨e.toNat, by omega⟩
      have q1 : (decide (1 ≤ (k : Int)) && decide ((k : Int) ≤ 21)) = true := by simp; omega
      have k1 : 1 ≤ k := by omega
      have k2 : k ≤ 21 := by omega
      clear c2 d1 d2
      by_cases c3 : (L.length : Int) ≤ (k : Int)
      · rw [if_pos c3]
        obtain ⟨j, hj⟩ : ∃ j : Nat, k = L.length + j := ⟨k - L.length, by omega⟩
        have HN2 := HNO (j : Int) (by omega) (by omega)
        rw [show ((j : Int)).toNat = j by omega] at HN2
        rw [show ((k : Int) - (L.length : Int)).toNat = j by omega]
        have hsub : (k : Int) - (L.length : Int) = (j : Int) := by omega
        have a1 : (⟨#[45]⟩ : ByteArray) ++ baL L = baL ([45] ++ L) := baL_append [45] L
        have a2 : baL ([45] ++ L) ++ baL (List.replicate j 48) = baL ([45] ++ (L ++ List.replicate j 48)) := by rw [baL_append]; simp
        have z1 := baL_sz ([45] ++ L) (n := 20) (by simp; omega)
        have z2 := baL_sz (List.replicate j (48 : UInt8)) (n := 30) (by simp; omega)
        generalize baL ([45] ++ (L ++ List.replicate j 48)) = R2 at *
        generalize baL ([45] ++ L) = R1 at *
        generalize baL (List.replicate j 48) = NB at *
        generalize baL (L) = D at *
        clear HNO hj
        generalize L.length = nl at *
        go_enter Tryz.func30, Tryz.ntmps30
        go_wp2_with (first | (go_at_call 55; with_reducible refine HD.mono ?_; rintro en w1 ⟨rfl, hF1⟩) | (go_at_call 56; with_reducible refine (HN2 _).mono ?_; rintro en w2 ⟨rfl, h2⟩; subst h2))
        go_ret2
        exact ⟨rfl, hF1⟩
      · rw [if_neg c3, show ((k : Int)).toNat = k by omega]
        have ck : k < L.length := by omega
        have q2 : decide ((L.length : Int) ≤ (k : Int)) = false := by simp; omega
        have x1 : (baL L).extract 0 k = baL (L.take k) := by rw [baL_cut]; simp
        have x2 : (baL L).extract k L.length = baL (L.drop k) := by rw [baL_cut]; simp
        have a1 : (⟨#[45]⟩ : ByteArray) ++ baL (L.take k) = baL ([45] ++ L.take k) := baL_append [45] _
        have a2 : baL ([45] ++ L.take k) ++ ⟨#[46]⟩ = baL ([45] ++ L.take k ++ [46]) := baL_append _ [46]
        have a3 : baL ([45] ++ L.take k ++ [46]) ++ baL (L.drop k) = baL ([45] ++ (L.take k ++ 46 :: L.drop k)) := by rw [baL_append]; simp
        have z0 := baL_sz (L.take k) (n := 18) (by rw [List.length_take]; omega)
        have z1 := baL_sz ([45] ++ L.take k) (n := 20) (by simp; omega)
        have z2 := baL_sz ([45] ++ L.take k ++ [46]) (n := 30) (by simp; omega)
        have z3 := baL_sz (L.drop k) (n := 18) (by rw [List.length_drop]; omega)
        generalize baL ([45] ++ (L.take k ++ 46 :: L.drop k)) = R3 at *
        generalize baL ([45] ++ L.take k ++ [46]) = R2 at *
        generalize baL ([45] ++ L.take k) = R1 at *
        generalize baL (L.take k) = D0 at *
        generalize baL (L.drop k) = D1 at *
        generalize baL (L) = D at *
        clear HNO c3
        generalize L.length = nl at *
        go_enter Tryz.func30, Tryz.ntmps30
        go_wp2_with (first | (go_at_call 55; with_reducible refine HD.mono ?_; rintro en w1 ⟨rfl, hF1⟩))
        go_region
        all_goals
          go_wp2_with fail
          go_ret2
          exact ⟨rfl, by first | exact hF1 | exact hF1.drew⟩
    · rw [show sgL x = [] by unfold sgL; rw [if_neg hs]]
      rw [decide_eq_false hs] at hl
      clear hs
      unfold wrL
      by_cases c1 : e < -5 ∨ 21 < e
      · rw [if_pos c1]
        have q1 : (decide (1 ≤ e) && decide (e ≤ 21)) = false := by simp; omega
        have q3 : (decide (-5 ≤ e) && decide (e ≤ 0)) = false := by simp; omega
        have c1' : e < -5 ∨ 21 < e := c1
        have x1 : (baL L).extract 0 1 = baL (L.take 1) := by rw [baL_cut]; simp
        have x2 : (baL L).extract 1 L.length = baL (L.drop 1) := by rw [baL_cut]; simp
        have a1 : (⟨#[]⟩ : ByteArray) ++ baL (L.take 1) = baL ([] ++ L.take 1) := baL_append [] _
        have z0 := baL_sz (L.take 1) (n := 18) (by rw [List.length_take]; omega)
        have z1 := baL_sz ([] ++ L.take 1) (n := 20) (by simp; omega)
        have z2 := baL_sz (Lib.itoa (e - 1)) hlI
        by_cases cn : L.length = 1
        · have hemp : (L.drop 1).isEmpty = true := by rw [List.isEmpty_iff]; exact List.drop_of_length_le (by omega)
          rw [if_pos hemp]
          have a2 : baL ([] ++ L.take 1) ++ ⟨#[69]⟩ = baL ([] ++ L.take 1 ++ [69]) := baL_append _ [69]
          have a3 : baL ([] ++ L.take 1 ++ [69]) ++ baL (Lib.itoa (e - 1)) = baL ([] ++ (L.take 1 ++ 69 :: Lib.itoa (e - 1))) := by rw [baL_append]; simp
          have z3 := baL_sz ([] ++ L.take 1 ++ [69]) (n := 30) (by simp; omega)
          generalize baL ([] ++ (L.take 1 ++ 69 :: Lib.itoa (e - 1))) = R3 at *
          generalize baL ([] ++ L.take 1 ++ [69]) = R2 at *
          generalize baL ([] ++ L.take 1) = R1 at *
          generalize baL (Lib.itoa (e - 1)) = IB at *
          generalize baL (L.take 1) = D0 at *
          generalize baL (L.drop 1) = D1 at *
          generalize baL (L) = D at *
          rw [cn] at hzL x2
          clear c1 hemp cn f1 f2 hlI HNO
          rcases c1' with c | c
          · go_enter Tryz.func30, Tryz.ntmps30
            go_wp2_with (first | (go_at_call 55; with_reducible refine HD.mono ?_; rintro en w1 ⟨rfl, hF1⟩) | (go_at_call 57; with_reducible refine (HI.out _ hF1).mono ?_; rintro en w3 ⟨rfl, hF3⟩))
            go_ret2
            exact ⟨rfl, hF1.trans hF3⟩
          · go_enter Tryz.func30, Tryz.ntmps30
            go_wp2_with (first | (go_at_call 55; with_reducible refine HD.mono ?_; rintro en w1 ⟨rfl, hF1⟩) | (go_at_call 57; with_reducible refine (HI.out _ hF1).mono ?_; rintro en w3 ⟨rfl, hF3⟩))
            go_ret2
            exact ⟨rfl, hF1.trans hF3⟩
        · have hemp : ¬ (L.drop 1).isEmpty = true := by rw [List.isEmpty_iff]; intro h; have := congrArg List.length h; rw [List.length_drop] at this; simp at this; omega
          rw [if_neg hemp]
          have b1 : (⟨#[46]⟩ : ByteArray) ++ baL (L.drop 1) = baL (46 :: L.drop 1) := baL_append [46] _
          have b2 : baL ([] ++ L.take 1) ++ baL (46 :: L.drop 1) = baL ([] ++ (L.take 1 ++ 46 :: L.drop 1)) := by rw [baL_append]; simp
          have a2 : baL ([] ++ (L.take 1 ++ 46 :: L.drop 1)) ++ ⟨#[69]⟩ = baL ([] ++ (L.take 1 ++ 46 :: L.drop 1) ++ [69]) := baL_append _ [69]
          have a3 : baL ([] ++ (L.take 1 ++ 46 :: L.drop 1) ++ [69]) ++ baL (Lib.itoa (e - 1)) = baL ([] ++ ((L.take 1 ++ 46 :: L.drop 1) ++ 69 :: Lib.itoa (e - 1))) := by rw [baL_append]; simp
          have z3 := baL_sz (L.drop 1) (n := 18) (by rw [List.length_drop]; omega)
          have z4 := baL_sz (46 :: L.drop 1) (n := 20) (by simp; omega)
          have z5 := baL_sz ([] ++ (L.take 1 ++ 46 :: L.drop 1)) (n := 60) (by simp; omega)
          have z6 := baL_sz ([] ++ (L.take 1 ++ 46 :: L.drop 1) ++ [69]) (n := 70) (by simp; omega)
          generalize baL ([] ++ ((L.take 1 ++ 46 :: L.drop 1) ++ 69 :: Lib.itoa (e - 1))) = R5 at *
          generalize baL ([] ++ (L.take 1 ++ 46 :: L.drop 1) ++ [69]) = R4 at *
          generalize baL ([] ++ (L.take 1 ++ 46 :: L.drop 1)) = R3 at *
          generalize baL (46 :: L.drop 1) = R2 at *
          generalize baL ([] ++ L.take 1) = R1 at *
          generalize baL (Lib.itoa (e - 1)) = IB at *
          generalize baL (L.take 1) = D0 at *
          generalize baL (L.drop 1) = D1 at *
          generalize baL (L) = D at *
          have cn2 : 1 < L.length := by omega
          clear c1 hemp cn hlI HNO
          generalize L.length = nl at *
          rcases c1' with c | c
          · go_enter Tryz.func30, Tryz.ntmps30
            go_wp2_with (first | (go_at_call 55; with_reducible refine HD.mono ?_; rintro en w1 ⟨rfl, hF1⟩) | (go_at_call 57; with_reducible refine (HI.out _ hF1).mono ?_; rintro en w3 ⟨rfl, hF3⟩))
            go_ret2
            exact ⟨rfl, hF1.trans hF3⟩
          · go_enter Tryz.func30, Tryz.ntmps30
            go_wp2_with (first | (go_at_call 55; with_reducible refine HD.mono ?_; rintro en w1 ⟨rfl, hF1⟩) | (go_at_call 57; with_reducible refine (HI.out _ hF1).mono ?_; rintro en w3 ⟨rfl, hF3⟩))
            go_ret2
            exact ⟨rfl, hF1.trans hF3⟩
      rw [if_neg c1]
      have d1 : -5 ≤ e := by omega
      have d2 : e ≤ 21 := by omega
      clear c1 HI hlI
      by_cases c2 : e ≤ 0
      · rw [if_pos c2]
        have q1 : (decide (1 ≤ e) && decide (e ≤ 21)) = false := by simp; omega
        have q3 : (decide (-5 ≤ e) && decide (e ≤ 0)) = true := by simp; omega
        obtain ⟨k, rfl⟩ : ∃ k : Nat, e = -(k : Int) := ⟨(-e).toNat, by omega⟩
        have HN2 := HNO (k : Int) (by omega) (by omega)
        rw [show ((k : Int)).toNat = k by omega] at HN2
        rw [show (-(-(k : Int))).toNat = k by omega]
        have hng : -(-(k : Int)) = (k : Int) := by omega
        have a1 : (⟨#[]⟩ : ByteArray) ++ ⟨#[48, 46]⟩ = baL ([] ++ [48, 46]) := baL_append [] [48, 46]
        have a2 : baL ([] ++ [48, 46]) ++ baL (List.replicate k 48) = baL ([] ++ [48, 46] ++ List.replicate k 48) := baL_append _ _
        have a3 : baL ([] ++ [48, 46] ++ List.replicate k 48) ++ baL L = baL ([] ++ 48 :: 46 :: (List.replicate k 48 ++ L)) := by rw [baL_append]; simp
        have z1 := baL_sz ([] ++ [48, 46]) (n := 10) (by simp)
        have z2 := baL_sz (List.replicate k (48 : UInt8)) (n := 10) (by simp; omega)
        have z3 := baL_sz ([] ++ [48, 46] ++ List.replicate k 48) (n := 30) (by simp; omega)
        generalize baL ([] ++ 48 :: 46 :: (List.replicate k 48 ++ L)) = R3 at *
        generalize baL ([] ++ [48, 46] ++ List.replicate k 48) = R2 at *
        generalize baL ([] ++ [48, 46]) = R1 at *
        generalize baL (List.replicate k 48) = NB at *
        generalize baL (L) = D at *
        clear HNO
        generalize L.length = nl at *
        go_enter Tryz.func30, Tryz.ntmps30
        go_wp2_with (first | (go_at_call 55; with_reducible refine HD.mono ?_; rintro en w1 ⟨rfl, hF1⟩) | (go_at_call 56; with_reducible refine (HN2 _).mono ?_; rintro en w2 ⟨rfl, h2⟩; subst h2))
        go_ret2
        exact ⟨rfl, hF1⟩
      rw [if_neg c2]
      obtain ⟨k, rfl⟩ : ∃ k : Nat, e = (k : Int) := ⟨e.toNat, by omega⟩
      have q1 : (decide (1 ≤ (k : Int)) && decide ((k : Int) ≤ 21)) = true := by simp; omega
      have k1 : 1 ≤ k := by omega
      have k2 : k ≤ 21 := by omega
      clear c2 d1 d2
      by_cases c3 : (L.length : Int) ≤ (k : Int)
      · rw [if_pos c3]
        obtain ⟨j, hj⟩ : ∃ j : Nat, k = L.length + j := ⟨k - L.length, by omega⟩
        have HN2 := HNO (j : Int) (by omega) (by omega)
        rw [show ((j : Int)).toNat = j by omega] at HN2
        rw [show ((k : Int) - (L.length : Int)).toNat = j by omega]
        have hsub : (k : Int) - (L.length : Int) = (j : Int) := by omega
        have a1 : (⟨#[]⟩ : ByteArray) ++ baL L = baL ([] ++ L) := baL_append [] L
        have a2 : baL ([] ++ L) ++ baL (List.replicate j 48) = baL ([] ++ (L ++ List.replicate j 48)) := by rw [baL_append]; simp
        have z1 := baL_sz ([] ++ L) (n := 20) (by simp; omega)
        have z2 := baL_sz (List.replicate j (48 : UInt8)) (n := 30) (by simp; omega)
        generalize baL ([] ++ (L ++ List.replicate j 48)) = R2 at *
        generalize baL ([] ++ L) = R1 at *
        generalize baL (List.replicate j 48) = NB at *
        generalize baL (L) = D at *
        clear HNO hj
        generalize L.length = nl at *
        go_enter Tryz.func30, Tryz.ntmps30
        go_wp2_with (first | (go_at_call 55; with_reducible refine HD.mono ?_; rintro en w1 ⟨rfl, hF1⟩) | (go_at_call 56; with_reducible refine (HN2 _).mono ?_; rintro en w2 ⟨rfl, h2⟩; subst h2))
        go_ret2
        exact ⟨rfl, hF1⟩
      · rw [if_neg c3, show ((k : Int)).toNat = k by omega]
        have ck : k < L.length := by omega
        have q2 : decide ((L.length : Int) ≤ (k : Int)) = false := by simp; omega
        have x1 : (baL L).extract 0 k = baL (L.take k) := by rw [baL_cut]; simp
        have x2 : (baL L).extract k L.length = baL (L.drop k) := by rw [baL_cut]; simp
        have a1 : (⟨#[]⟩ : ByteArray) ++ baL (L.take k) = baL ([] ++ L.take k) := baL_append [] _
        have a2 : baL ([] ++ L.take k) ++ ⟨#[46]⟩ = baL ([] ++ L.take k ++ [46]) := baL_append _ [46]
        have a3 : baL ([] ++ L.take k ++ [46]) ++ baL (L.drop k) = baL ([] ++ (L.take k ++ 46 :: L.drop k)) := by rw [baL_append]; simp
        have z0 := baL_sz (L.take k) (n := 18) (by rw [List.length_take]; omega)
        have z1 := baL_sz ([] ++ L.take k) (n := 20) (by simp; omega)
        have z2 := baL_sz ([] ++ L.take k ++ [46]) (n := 30) (by simp; omega)
        have z3 := baL_sz (L.drop k) (n := 18) (by rw [List.length_drop]; omega)
        generalize baL ([] ++ (L.take k ++ 46 :: L.drop k)) = R3 at *
        generalize baL ([] ++ L.take k ++ [46]) = R2 at *
        generalize baL ([] ++ L.take k) = R1 at *
        generalize baL (L.take k) = D0 at *
        generalize baL (L.drop k) = D1 at *
        generalize baL (L) = D at *
        clear HNO c3
        generalize L.length = nl at *
        go_enter Tryz.func30, Tryz.ntmps30
        go_wp2_with (first | (go_at_call 55; with_reducible refine HD.mono ?_; rintro en w1 ⟨rfl, hF1⟩))
        go_region
        all_goals
          go_wp2_with fail
          go_ret2
          exact ⟨rfl, by first | exact hF1 | exact hF1.drew⟩
#print axioms rtext_any
end Go.Proofs.YtdmjbhbiehjelaaGreatDoor
