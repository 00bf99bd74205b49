/- Text: the program's contract. -/
import Derived.Test.YtklinhfcecfnfaaDoorRChW
namespace Go.Proofs.YtklinhfcecfnfaaDoor
open Go.RowKit Go.Shelf

theorem itoa_nat (n : Nat) : Lib.itoa (n : Int) = Lib.decDigits n := by
  unfold Lib.itoa
  rw [if_neg (by omega)]
  simp
theorem Fr.grow {S : Nat → Prop} {a w : World} (h : Fr S a w) (os : Array Obj) : Fr S a (Go.Sort.grow w os) :=
  ⟨h.os, h.tape, h.output, by rw [Go.Sort.size_grow]; have := h.size; omega, fun k hk hs => by
    have hw : k < w.heap.size := Nat.lt_of_lt_of_le hk h.size
    show (w.heap ++ os)[k]? = _
    rw [Array.getElem?_append_left hw]
    exact h.block k hk hs⟩
theorem itoa_any (n : Nat) (hn : n ≤ 9223372036854775807) (w : World) (hU : UTab w) : Calls Tryd.prog 65 #[.int .i64 (n : Int)] w fun e w' => e = .returned (.string (baL (Lib.decDigits n))) ∧ Fr noB w w' :=
  (show Calls Tryd.prog 65 _ w _ from Any.strconv_Itoa Tryd.laysLaysMn171 (n : Int) (by omega) (by omega) w hU.t).mono fun e w' ⟨he, k, os, hw⟩ => ⟨by rw [he, itoa_nat]; rfl, by rw [hw]; exact ((Fr.refl noB w).drewN k).grow os⟩
def dolB (b : Bool) : ByteArray := if b = true then ⟨#[36]⟩ else ⟨#[]⟩
def dolL (b : Bool) : List UInt8 := if b = true then [36] else []
theorem dolB_is (b : Bool) : dolB b = baL (dolL b) := by cases b <;> rfl
theorem dolB_size (b : Bool) : (dolB b).size ≤ 1 := by cases b <;> decide
set_option maxRecDepth 100000 in
theorem dollar_any (b : Bool) (w : World) : Calls Tryd.prog 41 #[.bool b] w fun e w' => e = .returned (.string (dolB b)) ∧ w' = w := by
  cases b
  all_goals
    go_enter Tryd.func41, Tryd.ntmps41
    go_wp2_with fail
    go_ret
    exact ⟨rfl, rfl⟩
/-- A corner's text. -/
def corL (r c : Nat) (x y : Bool) : List UInt8 := dolL y ++ (ltrL c ++ (dolL x ++ Lib.decDigits (r + 1)))
/-- A sheet's name, if there is one, a point, and a corner. -/
def celL (t : ByteArray) (r c : Nat) (x y : Bool) : List UInt8 := (quoF t).data.toList ++ (46 :: corL r c x y)
theorem dec_len : ∀ (n : Nat), (Lib.decDigits n).length ≤ n + 1 := by
  intro n
  induction n using Nat.strongRecOn with
  | _ n ih =>
    by_cases h : n < 10
    · rw [Lib.decDigits, dif_pos h]; simp
    · rw [Lib.decDigits, dif_neg h]
      have := ih (n / 10) (by omega)
      simp
      omega
theorem quo_small (t : ByteArray) : (quoF t).size ≤ 66 := by
  rw [quo_size]
  split
  · rename_i h
    have := shtF_size h
    split <;> omega
  · omega
section
variable {P : Program} {ops : Array Oper} {S : World → Prop} {op : Oper} {a : Act}
theorem y_cat (A B : ByteArray) (x y : Operand) (hw : Region.wanted op (yielded ops a.tmps) = true) (ho : op.op = .binOp .add 9 x y 9) (hx : a.eval x = .string A) (hy : a.eval y = .string B) (hs : A.size + B.size ≤ 9223372036854775807) : YieldsIf Tryd.prog ops S op (.string (A ++ B)) a :=
  .inl ⟨hw, fun w _ => by
    unfold execOp
    simp only [ho, hx, hy]
    simp [go_sem, hs]⟩
theorem y_add1 (n m : Int) (x y : Operand) (hw : Region.wanted op (yielded ops a.tmps) = true) (ho : op.op = .binOp .add 3 x y 3) (hx : a.eval x = .int .i64 n) (hy : a.eval y = .int .i64 1) (h0 : 0 ≤ n) (h1 : n ≤ 1048576) (hm : n + 1 = m) : YieldsIf Tryd.prog ops S op (.int .i64 m) a :=
  .inl ⟨hw, fun w _ => by
    unfold execOp
    simp only [ho, hx, hy]
    subst hm
    have hwr : IntKind.i64.wrap (n + 1) = n + 1 := by unfold IntKind.wrap; simp [IntKind.bits, IntKind.signed]; omega
    simp [go_sem, hwr]⟩
end
theorem frame_to {Q : Exit → Act → World → Prop} {a : Act} {w : World} (b : Act) (h : a = b) (hq : Q .normal b w) : Q .normal a w := by
  rw [h]
  exact hq
set_option maxRecDepth 100000 in
set_option maxHeartbeats 400000 in
theorem cellText_any (t : ByteArray) (r c : Nat) (x y : Bool) (w : World) (hr : r < 1048576) (hc : c < 1024) (hU : UTab w) :
    Calls Tryd.prog 42 #[.string t, (.agg #[.int .i64 (r : Int), .int .i64 (c : Int), .bool x, .bool y])] w fun e w' => e = .returned (.string (baL (celL t r c x y))) ∧ Fr noB w w' := by
  have HQ := quote_two t
  have HL := letters_any c hc
  have HI : Hid (∀ W, Fr noB w W → _) := fun W hW => itoa_any (r + 1) (by omega) W (hU.fr hW)
  have HE : Hid (baL (celL t r c x y) = ((((quoF t ++ ⟨#[46]⟩) ++ dolB y) ++ baL (ltrL c)) ++ dolB x) ++ baL (Lib.decDigits (r + 1))) := by
    show baL (celL t r c x y) = _
    rw [dolB_is, dolB_is]
    apply ByteArray.ext
    simp [baL, celL, corL, ByteArray.data_append]
  have z1 := quo_small t
  have z2 := dolB_size y
  have z3 := dolB_size x
  have z4 : (baL (ltrL c)).size ≤ 1024 := by rw [baL_size]; have := ltrGo_len 1025 (c + 1); unfold ltrL; omega
  have z5 : (baL (Lib.decDigits (r + 1))).size ≤ 1048580 := by rw [baL_size]; have := dec_len (r + 1); omega
  have hDy := dollar_any y
  have hDx := dollar_any x
  have hr1 : ((r + 1 : Nat) : Int) = (r : Int) + 1 := by omega
  rw [hr1] at HI
  obtain ⟨W0, hW0⟩ : ∃ W0, w.alloc (.cells #[.int .i64 (r : Int), .int .i64 (c : Int), .bool x, .bool y] 32 (0, 0)) = W0 := ⟨_, rfl⟩
  have hK0 : KAt W0 w.heap.size r c x y := ⟨by rw [← hW0]; exact heap_alloc_new w _⟩
  have hF0 : Fr noB w W0 := by rw [← hW0]; exact (Fr.refl noB w).alloc _
  have HF : Hid (Fr noB w W0) := hF0
  have HK : Hid (KAt W0 w.heap.size r c x y) := hK0
  generalize quoF t = Q at *
  generalize quoE t = E at *
  generalize dolB y = DY at *
  generalize dolB x = DX at *
  generalize baL (ltrL c) = L at *
  generalize baL (Lib.decDigits (r + 1)) = D at *
  have hz46 : (⟨#[46]⟩ : ByteArray).size = 1 := rfl
  clear hK0 hF0 hU hr1
  go_enter Tryd.func42, Tryd.ntmps42
  go_wp2_with (go_at_call 14; refine (HQ _).mono ?_; rintro e w1 ⟨rfl, hF1⟩)
  have hK1 := HK.out.fr hF1 id
  have HG : Hid (∀ W, Fr noB w1 W → W.cell? ⟨w.heap.size, 0, none⟩ = some (.int .i64 (r : Int)) ∧ W.cell? ⟨w.heap.size, 1, none⟩ = some (.int .i64 (c : Int)) ∧ W.cell? ⟨w.heap.size, 2, none⟩ = some (.bool x) ∧ W.cell? ⟨w.heap.size, 3, none⟩ = some (.bool y)) := fun W hW => ⟨(hK1.fr hW id).c0, (hK1.fr hW id).c1, (hK1.fr hW id).c2, (hK1.fr hW id).c3⟩
  have HF1 : Hid (Fr noB w w1) := HF.out.trans hF1
  clear hK1 hF1
  have z6 : (r : Int) + 1 ≤ 1048576 := by omega
  refine wp_region_held_drew (S := fun W => W.cell? ⟨w.heap.size, 0, none⟩ = some (.int .i64 (r : Int)) ∧ W.cell? ⟨w.heap.size, 1, none⟩ = some (.int .i64 (c : Int)) ∧ W.cell? ⟨w.heap.size, 2, none⟩ = some (.bool x) ∧ W.cell? ⟨w.heap.size, 3, none⟩ = some (.bool y)) (by kernel_rfl) (HG.out _ (Fr.refl _ _).drew) (fun hHeld => ?_)
  refine wpAnyH_take (i := 0) (v := .string Q) rfl (by kernel_rfl) (by kernel_rfl) (by kernel_rfl) (fun _ _ _ h => h) (Or.inl ⟨by kernel_rfl, fun w hSw => by kernel_rfl⟩) hHeld ?_
  refine wpAnyH_take (i := 1) (v := .string (Q ++ (⟨#[46]⟩ : ByteArray))) rfl (by kernel_rfl) (by kernel_rfl) (by kernel_rfl) (fun _ _ _ h => h) (y_cat Q (⟨#[46]⟩ : ByteArray) (.tmp 12) (.const (.string ⟨#[46]⟩)) (by kernel_rfl) rfl (by kernel_rfl) (by kernel_rfl) (by rw [hz46]; omega)) hHeld ?_
  refine wpAnyH_take (i := 2) (v := .pointer (some ⟨w.heap.size, 3, none⟩)) rfl (by kernel_rfl) (by kernel_rfl) (by kernel_rfl) (fun _ _ _ h => h) (Or.inl ⟨by kernel_rfl, fun w hSw => by kernel_rfl⟩) hHeld ?_
  refine wpAnyH_take (i := 3) (v := .bool y) rfl (by kernel_rfl) (by kernel_rfl) (by kernel_rfl) (fun _ _ _ h => h) (y_loadOf 4 load_boo (.tmp 14) w.heap.size 3 _ (by kernel_rfl) rfl (by kernel_rfl) (fun w h => h.2.2.2)) hHeld ?_
  refine wpAnyH_take (i := 6) (v := .pointer (some ⟨w.heap.size, 1, none⟩)) rfl (by kernel_rfl) (by kernel_rfl) (by kernel_rfl) (fun _ _ _ h => h) (Or.inl ⟨by kernel_rfl, fun w hSw => by kernel_rfl⟩) hHeld ?_
  refine wpAnyH_take (i := 7) (v := .int .i64 (c : Int)) rfl (by kernel_rfl) (by kernel_rfl) (by kernel_rfl) (fun _ _ _ h => h) (y_loadOf 3 load_int (.tmp 18) w.heap.size 1 _ (by kernel_rfl) rfl (by kernel_rfl) (fun w h => h.2.1)) hHeld ?_
  refine wpAnyH_take (i := 10) (v := .pointer (some ⟨w.heap.size, 2, none⟩)) rfl (by kernel_rfl) (by kernel_rfl) (by kernel_rfl) (fun _ _ _ h => h) (Or.inl ⟨by kernel_rfl, fun w hSw => by kernel_rfl⟩) hHeld ?_
  refine wpAnyH_take (i := 11) (v := .bool x) rfl (by kernel_rfl) (by kernel_rfl) (by kernel_rfl) (fun _ _ _ h => h) (y_loadOf 4 load_boo (.tmp 22) w.heap.size 2 _ (by kernel_rfl) rfl (by kernel_rfl) (fun w h => h.2.2.1)) hHeld ?_
  refine wpAnyH_take (i := 14) (v := .pointer (some ⟨w.heap.size, 0, none⟩)) rfl (by kernel_rfl) (by kernel_rfl) (by kernel_rfl) (fun _ _ _ h => h) (Or.inl ⟨by kernel_rfl, fun w hSw => by kernel_rfl⟩) hHeld ?_
  refine wpAnyH_take (i := 15) (v := .int .i64 (r : Int)) rfl (by kernel_rfl) (by kernel_rfl) (by kernel_rfl) (fun _ _ _ h => h) (y_loadOf 3 load_int (.tmp 26) w.heap.size 0 _ (by kernel_rfl) rfl (by kernel_rfl) (fun w h => h.1)) hHeld ?_
  refine wpAnyH_take (i := 16) (v := .int .i64 ((r : Int) + 1)) rfl (by kernel_rfl) (by kernel_rfl) (by kernel_rfl) (fun _ _ _ h => h) (y_add1 (r : Int) _ (.tmp 27) (.const (.int .i64 1)) (by kernel_rfl) rfl (by kernel_rfl) (by kernel_rfl) (by omega) (by omega) rfl) hHeld ?_
  refine wpAnyH_ready (rs := [4]) (by kernel_rfl) (by simp) ?_
  refine AllReadyH.cons rfl (fun K hK => ?_) AllReadyH.nil
  refine wp_go 41 #[.bool y] (by kernel_rfl) ?_
  refine (hDy _).mono ?_
  rintro e w2 ⟨rfl, rfl⟩
  refine hK.out _ _ (HG.out _ (Fr.refl _ _).drew) (fun hHeld1 => ?_)
  clear hK K
  refine wpAnyH_take (i := 5) (v := .string ((Q ++ (⟨#[46]⟩ : ByteArray)) ++ DY)) rfl (by kernel_rfl) (by kernel_rfl) (by kernel_rfl) (fun _ _ _ h => h) (y_cat (Q ++ (⟨#[46]⟩ : ByteArray)) DY (.tmp 13) (.tmp 16) (by kernel_rfl) rfl (by kernel_rfl) (by kernel_rfl) (by simp only [ByteArray.size_append, hz46]; omega)) hHeld1 ?_
  refine wpAnyH_ready (rs := [8]) (by kernel_rfl) (by simp) ?_
  refine AllReadyH.cons rfl (fun K hK => ?_) AllReadyH.nil
  refine wp_go 33 #[.int .i64 (c : Int)] (by kernel_rfl) ?_
  refine (HL _).mono ?_
  rintro e w3 ⟨rfl, rfl⟩
  refine hK.out _ _ (HG.out _ (Fr.refl _ _).drew) (fun hHeld2 => ?_)
  clear hK K
  refine wpAnyH_take (i := 9) (v := .string (((Q ++ (⟨#[46]⟩ : ByteArray)) ++ DY) ++ L)) rfl (by kernel_rfl) (by kernel_rfl) (by kernel_rfl) (fun _ _ _ h => h) (y_cat ((Q ++ (⟨#[46]⟩ : ByteArray)) ++ DY) L (.tmp 17) (.tmp 20) (by kernel_rfl) rfl (by kernel_rfl) (by kernel_rfl) (by simp only [ByteArray.size_append, hz46]; omega)) hHeld2 ?_
  refine wpAnyH_ready (rs := [12]) (by kernel_rfl) (by simp) ?_
  refine AllReadyH.cons rfl (fun K hK => ?_) AllReadyH.nil
  refine wp_go 41 #[.bool x] (by kernel_rfl) ?_
  refine (hDx _).mono ?_
  rintro e w4 ⟨rfl, rfl⟩
  refine hK.out _ _ (HG.out _ (Fr.refl _ _).drew) (fun hHeld3 => ?_)
  clear hK K
  refine wpAnyH_take (i := 13) (v := .string ((((Q ++ (⟨#[46]⟩ : ByteArray)) ++ DY) ++ L) ++ DX)) rfl (by kernel_rfl) (by kernel_rfl) (by kernel_rfl) (fun _ _ _ h => h) (y_cat (((Q ++ (⟨#[46]⟩ : ByteArray)) ++ DY) ++ L) DX (.tmp 21) (.tmp 24) (by kernel_rfl) rfl (by kernel_rfl) (by kernel_rfl) (by simp only [ByteArray.size_append, hz46]; omega)) hHeld3 ?_
  refine wpAnyH_ready (rs := [17]) (by kernel_rfl) (by simp) ?_
  refine AllReadyH.cons rfl (fun K hK => ?_) AllReadyH.nil
  refine wp_go 65 #[.int .i64 ((r : Int) + 1)] (by kernel_rfl) ?_
  refine (HI.out _ HF1.out.drew).mono ?_
  rintro e w5 ⟨rfl, hF5⟩
  refine hK.out _ _ (HG.out _ (Fr.trans (Fr.refl _ _).drew hF5)) (fun hHeld4 => ?_)
  clear hK K
  refine wpAnyH_take (i := 18) (v := .string (((((Q ++ (⟨#[46]⟩ : ByteArray)) ++ DY) ++ L) ++ DX) ++ D)) rfl (by kernel_rfl) (by kernel_rfl) (by kernel_rfl) (fun _ _ _ h => h) (y_cat ((((Q ++ (⟨#[46]⟩ : ByteArray)) ++ DY) ++ L) ++ DX) D (.tmp 25) (.tmp 29) (by kernel_rfl) rfl (by kernel_rfl) (by kernel_rfl) (by simp only [ByteArray.size_append, hz46]; omega)) hHeld4 ?_
  refine wpAnyH_take (i := 19) (v := .string (((((Q ++ (⟨#[46]⟩ : ByteArray)) ++ DY) ++ L) ++ DX) ++ D)) rfl (by kernel_rfl) (by kernel_rfl) (by kernel_rfl) (fun _ _ _ h => h) (Or.inl ⟨by kernel_rfl, fun w hSw => by kernel_rfl⟩) hHeld4 ?_
  refine wpAnyH_done (by kernel_rfl) ?_ _
  refine frame_to { tmps := #[.string t, (.agg #[.int .i64 (r : Int), .int .i64 (c : Int), .bool x, .bool y]), undef, .pointer (some ⟨w.heap.size, 0, none⟩), .string (((((Q ++ (⟨#[46]⟩ : ByteArray)) ++ DY) ++ L) ++ DX) ++ D), .string Q, .int .i64 E, .tuple #[.string Q, .int .i64 E], .string t, .tuple #[.string Q, .int .i64 E], .string Q, .int .i64 E, .string Q, .string (Q ++ (⟨#[46]⟩ : ByteArray)), .pointer (some ⟨w.heap.size, 3, none⟩), .bool y, .string DY, .string ((Q ++ (⟨#[46]⟩ : ByteArray)) ++ DY), .pointer (some ⟨w.heap.size, 1, none⟩), .int .i64 (c : Int), .string L, .string (((Q ++ (⟨#[46]⟩ : ByteArray)) ++ DY) ++ L), .pointer (some ⟨w.heap.size, 2, none⟩), .bool x, .string DX, .string ((((Q ++ (⟨#[46]⟩ : ByteArray)) ++ DY) ++ L) ++ DX), .pointer (some ⟨w.heap.size, 0, none⟩), .int .i64 (r : Int), .int .i64 ((r : Int) + 1), .string D, .string (((((Q ++ (⟨#[46]⟩ : ByteArray)) ++ DY) ++ L) ++ DX) ++ D)], defers := [] } (by kernel_rfl) ?_
  go_wp2_with fail
  go_ret
  rw [HE.out]
  exact ⟨rfl, Fr.trans HF1.out.drew hF5⟩
#print axioms cellText_any
#print axioms itoa_any
end Go.Proofs.YtklinhfcecfnfaaDoor
