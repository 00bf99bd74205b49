/- Texts as lists; Itoa, Repeat, noughts. -/
import Derived.Test.YtnklmcmdlobicaaGreatDoorXDgR
namespace Go.Proofs.YtnklmcmdlobicaaGreatDoor
open Go.RowKit Ieee Go.Shelf

theorem Fr.grow {S : Nat → Prop} {a w : World} (h : Fr S a w) (os : Array Obj) : Fr S a (Go.Sort.grow w os) :=
  ⟨h.os, h.tape, h.output, by rw [Go.Sort.size_grow]; have := h.size; omega, fun k hk hs => by
    have hw : k < w.heap.size := Nat.lt_of_lt_of_le hk h.size
    show (w.heap ++ os)[k]? = _
    rw [Array.getElem?_append_left hw]
    exact h.block k hk hs⟩
/-- A list of bytes as a text. -/
def baL (L : List UInt8) : ByteArray := ⟨L.toArray⟩
theorem baL_list (L : List UInt8) : (baL L).data.toList = L := by simp [baL]
theorem baL_size (L : List UInt8) : (baL L).size = L.length := by simp [baL, ByteArray.size]
theorem baL_append (L M : List UInt8) : baL L ++ baL M = baL (L ++ M) := by
  apply ByteArray.ext
  simp [baL, ByteArray.data_append]
theorem baL_self (s : ByteArray) : baL s.data.toList = s := by simp [baL]
theorem itoa_nat (n : Nat) : Lib.itoa (n : Int) = Lib.decDigits n := by
  unfold Lib.itoa
  rw [if_neg (by omega)]
  simp
theorem repeat_nought : ∀ k, Lib.repeatL [48] k = List.replicate k 48
  | 0 => rfl
  | k + 1 => by rw [Lib.repeatL, repeat_nought k, List.replicate_succ]; rfl
theorem bldR : Builder.Extra Tryz.prog Tryz.laysLaysn105_ren where
  sizeBuilder := by kernel_rfl
  liesBuilder := by kernel_rfl
  t5 := Tryz.underlying5
  a5 := Tryz.isAgg5
  z5 := Tryz.sizeOf5
  v5 := Tryz.zeroValue5
  infoByte := by kernel_rfl
  cellsByte := by kernel_rfl
  sizeByte := by kernel_rfl
  neB5 := by decide
theorem repeat_any (c : Nat) (hc : c ≤ 1000) (w : World) : Calls Tryz.prog 46 #[.string ⟨#[48]⟩, .int .i64 (c : Int)] w fun e w' => e = .returned (.string (baL (List.replicate c 48))) ∧ Fr noB w w' :=
  (Any.strings_Repeat Tryz.laysLaysn105 bldR ⟨#[48]⟩ c w (by omega) (by rw [show (⟨#[48]⟩ : ByteArray).size = 1 from rfl]; omega)).mono fun e w' ⟨he, hb⟩ => ⟨by rw [he, show (⟨#[48]⟩ : ByteArray).data.toList = [48] from rfl, repeat_nought]; rfl, Fr.ofBelow hb⟩
theorem itoaI_any (n : Int) (h0 : -1000 ≤ n) (h1 : n ≤ 1000) (w : World) (hU : UTab w) : Calls Tryz.prog 91 #[.int .i64 n] w fun e w' => e = .returned (.string (baL (Lib.itoa n))) ∧ Fr noB w w' :=
  (Any.strconv_Itoa Tryz.laysLaysMn171 n (by omega) (by omega) w hU.2).mono fun e w' ⟨he, k, os, hw⟩ => ⟨by rw [he]; rfl, by rw [hw]; exact ((Fr.refl noB w).drewN k).grow os⟩
theorem baL_cut (L : List UInt8) (a b : Nat) : (baL L).extract a b = baL ((L.take b).drop a) := by
  apply ByteArray.ext
  apply Array.toList_inj.1
  simp [baL, List.drop_take]
theorem baL_empty (L : List UInt8) : (baL L).toList.isEmpty = L.isEmpty := by rw [ByteArray.toList_eq, baL_list]
set_option maxRecDepth 100000 in
theorem pointed_any (A B : List UInt8) (hA : A.length ≤ 1000) (hB : B.length ≤ 1000) (w : World) : Calls Tryz.prog 43 #[.string (baL A), .string (baL B)] w fun e w' => e = .returned (.string (baL (if B.isEmpty = true then A else A ++ 46 :: B))) ∧ w' = w := by
  have hap := baL_append
  have c46 : (⟨#[46]⟩ : ByteArray) = baL [46] := rfl
  have he := baL_empty B
  cases hb : B.isEmpty with
  | true =>
    rw [hb] at he
    rw [if_pos rfl]
    generalize baL B = BB at *
    clear hap c46 hb
    generalize baL A = AA at *
    go_enter Tryz.func43, Tryz.ntmps43
    go_wp2_with fail
    go_ret
    exact ⟨rfl, rfl⟩
  | false =>
    rw [hb] at he
    rw [if_neg (by simp)]
    have h1 : baL A ++ ⟨#[46]⟩ = baL (A ++ [46]) := hap A [46]
    have h2 : baL (A ++ [46]) ++ baL B = baL (A ++ 46 :: B) := by rw [hap]; simp
    have z1 : (baL A).size ≤ 1000 := by rw [baL_size]; exact hA
    have z2 : (baL B).size ≤ 1000 := by rw [baL_size]; exact hB
    have z3 : (baL (A ++ [46])).size ≤ 1001 := by rw [baL_size]; simp; exact hA
    generalize baL B = BB at *
    generalize baL A = AA at *
    generalize baL (A ++ [46]) = A2 at *
    generalize baL (A ++ 46 :: B) = R at *
    clear hap c46 hb
    go_enter Tryz.func43, Tryz.ntmps43
    go_wp2_with fail
    go_ret
    exact ⟨rfl, rfl⟩
#print axioms pointed_any
end Go.Proofs.YtnklmcmdlobicaaGreatDoor
