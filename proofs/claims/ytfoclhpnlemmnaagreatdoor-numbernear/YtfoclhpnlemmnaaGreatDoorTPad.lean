/- padded, twoDigits, noughts of both: contracts. -/
import Derived.Test.YtfoclhpnlemmnaaGreatDoorNLiv
import Derived.Test.YtfoclhpnlemmnaaGreatDoorTMth
namespace Go.Proofs.YtfoclhpnlemmnaaGreatDoor
open Go.RowKit Ieee Go.Shelf

theorem Fr.grow {S : Nat → Prop} {a w : World} (h : Fr S a w) (os : Array Obj) : Fr S a (Go.Sort.grow w os) :=
  ⟨h.os, h.tape, h.output, by rw [Go.Sort.size_grow]; have := h.size; omega, fun k hk hs => by
    have hw : k < w.heap.size := Nat.lt_of_lt_of_le hk h.size
    show (w.heap ++ os)[k]? = _
    rw [Array.getElem?_append_left hw]
    exact h.block k hk hs⟩
/-- A list of bytes as a text. -/
def baL (L : List UInt8) : ByteArray := ⟨L.toArray⟩
theorem baL_list (L : List UInt8) : (baL L).data.toList = L := by simp [baL]
theorem baL_size (L : List UInt8) : (baL L).size = L.length := by simp [baL, ByteArray.size]
theorem baL_append (L M : List UInt8) : baL L ++ baL M = baL (L ++ M) := by
  apply ByteArray.ext
  simp [baL, ByteArray.data_append]
theorem baL_self (s : ByteArray) : baL s.data.toList = s := by simp [baL]
theorem itoa_nat (n : Nat) : Lib.itoa (n : Int) = Lib.decDigits n := by
  unfold Lib.itoa
  rw [if_neg (by omega)]
  simp
theorem formatInt_any (n : Nat) (hn : n ≤ 9223372036854775807) (w : World) (hU : UTab w) : Calls Tryz.prog 45 #[.int .i64 (n : Int), .int .i64 10] w fun e w' => e = .returned (.string (baL (Lib.decDigits n))) ∧ Fr noB w w' :=
  (Any.strconv_FormatInt_10 Tryz.laysLaysMn173 (n : Int) (by omega) (by omega) w hU.2).mono fun e w' ⟨he, k, os, hw⟩ => ⟨by rw [he, itoa_nat]; rfl, by rw [hw]; exact ((Fr.refl noB w).drewN k).grow os⟩
theorem itoa_any (n : Nat) (hn : n ≤ 9223372036854775807) (w : World) (hU : UTab w) : Calls Tryz.prog 49 #[.int .i64 (n : Int)] w fun e w' => e = .returned (.string (baL (Lib.decDigits n))) ∧ Fr noB w w' :=
  (Any.strconv_Itoa Tryz.laysLaysMn171 (n : Int) (by omega) (by omega) w hU.2).mono fun e w' ⟨he, k, os, hw⟩ => ⟨by rw [he, itoa_nat]; rfl, by rw [hw]; exact ((Fr.refl noB w).drewN k).grow os⟩
theorem bldR : Builder.Extra Tryz.prog Tryz.laysLaysn105_ren where
  sizeBuilder := by kernel_rfl
  liesBuilder := by kernel_rfl
  t5 := Tryz.underlying5
  a5 := Tryz.isAgg5
  z5 := Tryz.sizeOf5
  v5 := Tryz.zeroValue5
  infoByte := by kernel_rfl
  cellsByte := by kernel_rfl
  sizeByte := by kernel_rfl
  neB5 := by decide
theorem repeat_any (c : Nat) (hc : c ≤ 1000) (w : World) : Calls Tryz.prog 46 #[.string ⟨#[48]⟩, .int .i64 (c : Int)] w fun e w' => e = .returned (.string (baL (List.replicate c 48))) ∧ Fr noB w w' :=
  (Any.strings_Repeat Tryz.laysLaysn105 bldR ⟨#[48]⟩ c w (by omega) (by rw [show (⟨#[48]⟩ : ByteArray).size = 1 from rfl]; omega)).mono fun e w' ⟨he, hb⟩ => ⟨by rw [he, show (⟨#[48]⟩ : ByteArray).data.toList = [48] from rfl, repeat_nought]; rfl, Fr.ofBelow hb⟩
theorem dec_len19 (n : Nat) (hn : n ≤ 9223372036854775807) : (Lib.decDigits n).length ≤ 19 := dec_length_le 19 n (by omega) (by omega)
set_option maxRecDepth 100000 in
set_option maxHeartbeats 1000000 in
theorem padded_any (n least : Nat) (hn : n ≤ 9223372036854775807) (hl : least ≤ 4) (w : World) (hU : UTab w) : Calls Tryz.prog 18 #[.int .i64 (n : Int), .int .i64 (least : Int)] w fun e w' => e = .returned (.string (baL (padL n least))) ∧ Fr noB w w' := by
  have HI := formatInt_any n hn w hU
  have h19 := dec_len19 n hn
  obtain ⟨L, hL⟩ : ∃ L, Lib.decDigits n = L := ⟨_, rfl⟩
  have HP : Hid (padL n least = List.replicate (least - L.length) 48 ++ L) := by show _ = _; unfold padL; rw [hL]
  rw [hL] at HI h19
  have hsz := baL_size L
  obtain ⟨B, hB⟩ : ∃ B, baL L = B := ⟨_, rfl⟩
  have HB : Hid (baL L = B) := hB
  rw [hB] at HI hsz
  have hsz' : B.size ≤ 19 := by omega
  have HR := repeat_any (least - L.length) (by omega)
  obtain ⟨R, hR⟩ : ∃ R, baL (List.replicate (least - L.length) 48) = R := ⟨_, rfl⟩
  have hR4 : R.size ≤ 4 := by rw [← hR, baL_size]; simp; omega
  have HRR : Hid (baL (List.replicate (least - L.length) 48) = R) := hR
  rw [hR] at HR
  clear hR
  have hmx : max (0 : Int) ((least : Int) - (B.size : Int)) = ((least - L.length : Nat) : Int) := by omega
  have HM : Hid _ := hmx
  clear hmx hL hB
  have HS : Hid _ := hsz
  clear hsz
  go_enter Tryz.func18, Tryz.ntmps18
  go_wp2_with fail
  refine HI.mono ?_
  rintro e w1 ⟨rfl, hF1⟩
  go_wp2_with fail
  rw [HM.out]
  refine (HR _).mono ?_
  rintro e w2 ⟨rfl, hF2⟩
  go_wp2_with fail
  go_ret
  refine ⟨?_, hF1.trans hF2⟩
  rw [HP.out, ← baL_append, HB.out, HRR.out]
  rfl
set_option maxRecDepth 100000 in
theorem two_any (n : Nat) (hn : n ≤ 9223372036854775807) (w : World) (hU : UTab w) : Calls Tryz.prog 19 #[.int .i64 (n : Int)] w fun e w' => e = .returned (.string (baL (padL n 2))) ∧ Fr noB w w' := by
  have HP := padded_any n 2 hn (by omega) w hU
  go_enter Tryz.func19, Tryz.ntmps19
  go_wp2_with (go_at_call 18; refine HP.mono ?_; rintro e w1 ⟨rfl, hF1⟩)
  go_ret
  exact ⟨rfl, hF1⟩
set_option maxRecDepth 100000 in
set_option maxHeartbeats 1000000 in
theorem noughts_any (n : Int) (h1 : -100 ≤ n) (h2 : n ≤ 100) (w : World) : Calls Tryz.prog 50 #[.int .i64 n] w fun e w' => e = .returned (.string (baL (List.replicate n.toNat 48))) ∧ w' = w := by
  go_enter Tryz.func50, Tryz.ntmps50
  go_wp2_with fail
  go_loop [3, 4] (fun sv iv => ∃ k : Nat, iv = .int .i64 (k : Int) ∧ sv = .string (baL (List.replicate k 48)) ∧ k ≤ n.toNat) (fun _ iv => n.toNat - (intOf iv).toNat)
  case atStart => exact ⟨0, rfl, rfl, Nat.zero_le _⟩
  case round =>
    obtain ⟨k, rfl, rfl, hk⟩ := hrel
    by_cases hlt : (k : Int) < n
    · have HA : Hid (baL (List.replicate k 48) ++ ⟨#[48]⟩ = baL (List.replicate (k + 1) 48)) := by
        show _ = _
        rw [show (⟨#[48]⟩ : ByteArray) = baL [48] from rfl, baL_append, ← List.replicate_succ']
      have hsz : (baL (List.replicate k 48)).size ≤ 100 := by rw [baL_size]; simp; omega
      generalize baL (List.replicate k 48) = B at *
      go_wp2_with fail
      go_round
      case rel => exact ⟨k + 1, by go_num, by rw [← HA.out], by omega⟩
      case measure => simp [intOf]; omega
    · have hke : k = n.toNat := by omega
      subst hke
      go_wp2_with fail
      go_ret
      exact ⟨rfl, rfl⟩
set_option maxRecDepth 100000 in
set_option maxHeartbeats 1000000 in
theorem rpadded_any (n least : Nat) (hn : n ≤ 9223372036854775807) (hl : least ≤ 4) (w : World) (hU : UTab w) : Calls Tryz.prog 22 #[.int .i64 (n : Int), .int .i64 (least : Int)] w fun e w' => e = .returned (.string (baL (padL n least))) ∧ Fr noB w w' := by
  have HI := itoa_any n hn w hU
  have h19 := dec_len19 n hn
  obtain ⟨L, hL⟩ : ∃ L, Lib.decDigits n = L := ⟨_, rfl⟩
  have HP : Hid (padL n least = List.replicate (least - L.length) 48 ++ L) := by show _ = _; unfold padL; rw [hL]
  rw [hL] at HI h19
  have hsz := baL_size L
  obtain ⟨B, hB⟩ : ∃ B, baL L = B := ⟨_, rfl⟩
  have HB : Hid (baL L = B) := hB
  rw [hB] at HI hsz
  have hsz' : B.size ≤ 19 := by omega
  have HR := noughts_any ((least : Int) - (B.size : Int)) (by omega) (by omega)
  rw [show ((least : Int) - (B.size : Int)).toNat = least - L.length by omega] at HR
  obtain ⟨R, hR⟩ : ∃ R, baL (List.replicate (least - L.length) 48) = R := ⟨_, rfl⟩
  have hR4 : R.size ≤ 4 := by rw [← hR, baL_size]; simp; omega
  have HRR : Hid (baL (List.replicate (least - L.length) 48) = R) := hR
  rw [hR] at HR
  clear hR
  clear hL hB
  have HS : Hid _ := hsz
  clear hsz
  go_enter Tryz.func22, Tryz.ntmps22
  go_wp2_with fail
  refine HI.mono ?_
  rintro e w1 ⟨rfl, hF1⟩
  go_wp2_with fail
  refine (HR _).mono ?_
  rintro e w2 ⟨rfl, rfl⟩
  go_wp2_with fail
  go_ret
  refine ⟨?_, hF1⟩
  rw [HP.out, ← baL_append, HB.out, HRR.out]
  rfl
#print axioms two_any
#print axioms rpadded_any
end Go.Proofs.YtfoclhpnlemmnaaGreatDoor
