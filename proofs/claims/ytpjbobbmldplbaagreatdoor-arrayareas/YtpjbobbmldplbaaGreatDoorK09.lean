/- Reckon: the program's and the document's. -/
import Derived.Test.YtpjbobbmldplbaaGreatDoorK07
import Derived.Test.YtpjbobbmldplbaaGreatDoorNFl3
import Derived.Laws.NewFold
namespace Go.Proofs.YtpjbobbmldplbaaGreatDoor
open Go.RowKit Ieee Go.Shelf
attribute [local go_sem] run_store_float

theorem run_sub_fin {x : Nat} (h : Fin x) (w : World) : (binOp .sub 35 (.float .f64 x) (.float .f64 x)).run Tryz.prog w = .ok (.float .f64 0) w := run_float_arith w .sub 35 .f64 x x 0 (sub_self h)
theorem nan_order (t : Nat) : double.order ((t % 2) * 2 ^ 63 + 0x7ff0000000000000 + 1 + (t / 2) % (2 ^ 52 - 1)) 0 = none := by
  have key : ∀ x : Nat, 9218868437227405312 < x % 9223372036854775808 → ∃ s u, double.read x = .nan s u := by
    intro x hx
    refine ⟨x / double.signWeight % 2 == 1, x % double.signWeight - double.infRung, ?_⟩
    unfold Format.read
    dsimp only
    rw [if_neg (show ¬ x % double.signWeight < double.binade by rw [binade_d, signWeight_d]; omega), if_neg (show ¬ x % double.signWeight < double.infRung by rw [infRung_d, signWeight_d]; omega), if_neg (show ¬ x % double.signWeight = double.infRung by rw [infRung_d, signWeight_d]; omega)]
  have h1 : t % 2 < 2 := Nat.mod_lt _ (by omega)
  have h2 : (t / 2) % (2 ^ 52 - 1) < 4503599627370495 := Nat.mod_lt _ (by omega)
  generalize t % 2 = a at *
  generalize (t / 2) % (2 ^ 52 - 1) = b at *
  obtain ⟨s, u, h⟩ := key (a * 2 ^ 63 + 0x7ff0000000000000 + 1 + b) (by omega)
  unfold Format.order
  rw [h]
  rfl
theorem run_sub_nan {x : Nat} (h : finB x = false) (w : World) : ∃ b, (binOp .sub 35 (.float .f64 x) (.float .f64 x)).run Tryz.prog w = .ok (.float .f64 b) w.drew ∧ double.order b 0 = none := by
  have hn : double.sub x x = none := sub_none h
  have hn' : FloatKind.f64.format.sub x x = none := hn
  refine ⟨_, ?_, nan_order (w.tape w.drawn (.nanBits .f64 x x))⟩
  simp [binOp, Op.floatArith, hn', Question.forced, Question.cut]
theorem order_zz : double.order 0 0 = some .eq := by decide
set_option maxRecDepth 100000 in
theorem rfinite_any (x : Nat) (w : World) : Calls Tryz.prog 49 #[.float .f64 x] w fun e w' => e = .returned (.bool (finB x)) ∧ ∃ m, w' = w.drewN m := by
  cases hf : finB x with
  | true =>
    have h1 := run_sub_fin (fin_of hf)
    have h2 : FloatKind.f64.format.order 0 0 = some .eq := order_zz
    go_enter Tryz.func49, Tryz.ntmps49
    go_wp2_with fail
    go_ret
    exact ⟨rfl, 0, rfl⟩
  | false =>
    obtain ⟨b, h1, h2⟩ := run_sub_nan hf w
    have h2' : FloatKind.f64.format.order b 0 = none := h2
    go_enter Tryz.func49, Tryz.ntmps49
    go_wp2_with fail
    go_ret
    exact ⟨rfl, 1, rfl⟩
/-- What a reckoned number becomes. -/
def rkK (x : Nat) : Int := if finB x = false then 4 else 1
def rkN (x : Nat) : Nat := if finB x = false then 0 else if x % 9223372036854775808 = 0 then 0 else x
def rkE (x : Nat) : Int := if finB x = false then 6 else 0
set_option maxRecDepth 100000 in
set_option maxHeartbeats 1000000 in
theorem preckon_any (x : Nat) (hx : x < 18446744073709551616) (w : World) : Calls Tryz.prog 56 #[.float .f64 x] w fun e w' => e = .returned (.agg #[.int .i64 (rkK x), .float .f64 (rkN x), .string ⟨#[]⟩, .bool false, .int .i64 (rkE x)]) ∧ Fr noB w w' := by
  have HN := isNaN_any x
  have HI := isInf_any x hx
  have hfe := finite_eq x
  cases hn : (double.order x x != some .eq) with
  | true =>
    rw [hn] at HN hfe
    have hf : finB x = false := by rw [← hfe]; rfl
    rw [show rkK x = 4 by unfold rkK; rw [if_pos hf], show rkN x = 0 by unfold rkN; rw [if_pos hf], show rkE x = 6 by unfold rkE; rw [if_pos hf]]
    clear HI hfe hn hf
    go_enter Tryz.func56, Tryz.ntmps56
    go_wp2_with fail
    obtain ⟨W0, hW0⟩ : ∃ W0, w.alloc (.cells #[.int .i64 0, .float .f64 0, .string ⟨#[]⟩, .bool false, .int .i64 0] 37 (0, 0)) = W0 := ⟨_, rfl⟩
    have hO : VAt W0 w.heap.size 0 0 ⟨#[]⟩ false 0 := ⟨by rw [← hW0]; exact heap_alloc_new w _⟩
    have hF0 : Fr noB w W0 := by rw [← hW0]; exact (Fr.refl noB w).alloc _
    have HO : Hid _ := hO
    rw [hW0]
    clear hW0 hO
    go_wp2_with ((go_at_call 70; refine (HN _).mono ?_; rintro e w1 ⟨rfl, rfl⟩))
    refine (perr_any 6 _).mono ?_
    rintro e w2 ⟨rfl, hF2⟩
    have hO2 := HO.out.fr (hF2) id
    have hG2 := hF0.trans (hF2)
    clear hF0
    have k0 := hO2.c0
    have k1 := hO2.c1
    have k2 := hO2.c2
    have k3 := hO2.c3
    have k4 := hO2.c4
    have f0 := freeOf 0 hO2.o
    have f1 := freeOf 1 hO2.o
    have f2 := freeOf 2 hO2.o
    have f3 := freeOf 3 hO2.o
    have f4 := freeOf 4 hO2.o
    have HQ : Hid _ := And.intro (hO2.set 4 0 ⟨#[]⟩ false 6) (fr5 hG2 w.heap.size (Or.inr (by omega)) (.int .i64 4) (.float .f64 0) (.string ⟨#[]⟩) (.bool false) (.int .i64 6))
    clear hO2 hG2 hF2
    go_wp2_with fail
    exact bodyPost_ret (vret Tryz.results56 _ _ w.heap.size rfl HQ.out.1) rfl ⟨rfl, HQ.out.2⟩
  | false =>
    rw [hn] at HN hfe
    cases hi : (double.order (x % 9223372036854775808) 9218868437227405311 == some .gt) with
    | true =>
      rw [hi] at HI hfe
      have hf : finB x = false := by rw [← hfe]; rfl
      rw [show rkK x = 4 by unfold rkK; rw [if_pos hf], show rkN x = 0 by unfold rkN; rw [if_pos hf], show rkE x = 6 by unfold rkE; rw [if_pos hf]]
      clear hfe hn hf hi
      go_enter Tryz.func56, Tryz.ntmps56
      go_wp2_with fail
      obtain ⟨W0, hW0⟩ : ∃ W0, w.alloc (.cells #[.int .i64 0, .float .f64 0, .string ⟨#[]⟩, .bool false, .int .i64 0] 37 (0, 0)) = W0 := ⟨_, rfl⟩
      have hO : VAt W0 w.heap.size 0 0 ⟨#[]⟩ false 0 := ⟨by rw [← hW0]; exact heap_alloc_new w _⟩
      have hF0 : Fr noB w W0 := by rw [← hW0]; exact (Fr.refl noB w).alloc _
      have HO : Hid _ := hO
      rw [hW0]
      clear hW0 hO
      go_wp2_with (first | (go_at_call 70; refine (HN _).mono ?_; rintro e w1 ⟨rfl, rfl⟩) | (go_at_call 71; refine (HI _).mono ?_; rintro e w1 ⟨rfl, rfl⟩))
      refine (perr_any 6 _).mono ?_
      rintro e w2 ⟨rfl, hF2⟩
      have hO2 := HO.out.fr (hF2) id
      have hG2 := hF0.trans (hF2)
      clear hF0
      have k0 := hO2.c0
      have k1 := hO2.c1
      have k2 := hO2.c2
      have k3 := hO2.c3
      have k4 := hO2.c4
      have f0 := freeOf 0 hO2.o
      have f1 := freeOf 1 hO2.o
      have f2 := freeOf 2 hO2.o
      have f3 := freeOf 3 hO2.o
      have f4 := freeOf 4 hO2.o
      have HQ : Hid _ := And.intro (hO2.set 4 0 ⟨#[]⟩ false 6) (fr5 hG2 w.heap.size (Or.inr (by omega)) (.int .i64 4) (.float .f64 0) (.string ⟨#[]⟩) (.bool false) (.int .i64 6))
      clear hO2 hG2 hF2
      go_wp2_with fail
      exact bodyPost_ret (vret Tryz.results56 _ _ w.heap.size rfl HQ.out.1) rfl ⟨rfl, HQ.out.2⟩
    | false =>
      rw [hi] at HI hfe
      have hf : finB x = true := by rw [← hfe]; rfl
      have hz := order_zero x (fin_of hf)
      have hfn : ¬ finB x = false := by rw [hf]; simp
      rw [show rkK x = 1 by unfold rkK; rw [if_neg hfn], show rkE x = 0 by unfold rkE; rw [if_neg hfn]]
      by_cases h0 : x % 9223372036854775808 = 0
      · rw [decide_eq_true h0] at hz
        rw [show rkN x = 0 by unfold rkN; rw [if_neg hfn, if_pos h0]]
        clear hfe hn hf hi hfn h0
        go_enter Tryz.func56, Tryz.ntmps56
        go_wp2_with fail
        obtain ⟨W0, hW0⟩ : ∃ W0, w.alloc (.cells #[.int .i64 0, .float .f64 0, .string ⟨#[]⟩, .bool false, .int .i64 0] 37 (0, 0)) = W0 := ⟨_, rfl⟩
        have hO : VAt W0 w.heap.size 0 0 ⟨#[]⟩ false 0 := ⟨by rw [← hW0]; exact heap_alloc_new w _⟩
        have hF0 : Fr noB w W0 := by rw [← hW0]; exact (Fr.refl noB w).alloc _
        have HO : Hid _ := hO
        rw [hW0]
        clear hW0 hO
        go_wp2_with (first | (go_at_call 70; refine (HN _).mono ?_; rintro e w1 ⟨rfl, rfl⟩) | (go_at_call 71; refine (HI _).mono ?_; rintro e w1 ⟨rfl, rfl⟩))
        refine (pnum_any 0 _).mono ?_
        rintro e w2 ⟨rfl, hF2⟩
        have hO2 := HO.out.fr (hF2) id
        have hG2 := hF0.trans (hF2)
        clear hF0
        have k0 := hO2.c0
        have k1 := hO2.c1
        have k2 := hO2.c2
        have k3 := hO2.c3
        have k4 := hO2.c4
        have f0 := freeOf 0 hO2.o
        have f1 := freeOf 1 hO2.o
        have f2 := freeOf 2 hO2.o
        have f3 := freeOf 3 hO2.o
        have f4 := freeOf 4 hO2.o
        have HQ : Hid _ := And.intro (hO2.set 1 0 ⟨#[]⟩ false 0) (fr5 hG2 w.heap.size (Or.inr (by omega)) (.int .i64 1) (.float .f64 0) (.string ⟨#[]⟩) (.bool false) (.int .i64 0))
        clear hO2 hG2 hF2
        go_wp2_with fail
        exact bodyPost_ret (vret Tryz.results56 _ _ w.heap.size rfl HQ.out.1) rfl ⟨rfl, HQ.out.2⟩
      · rw [decide_eq_false h0] at hz
        rw [show rkN x = x by unfold rkN; rw [if_neg hfn, if_neg h0]]
        clear hfe hn hf hi hfn h0
        go_enter Tryz.func56, Tryz.ntmps56
        go_wp2_with fail
        obtain ⟨W0, hW0⟩ : ∃ W0, w.alloc (.cells #[.int .i64 0, .float .f64 0, .string ⟨#[]⟩, .bool false, .int .i64 0] 37 (0, 0)) = W0 := ⟨_, rfl⟩
        have hO : VAt W0 w.heap.size 0 0 ⟨#[]⟩ false 0 := ⟨by rw [← hW0]; exact heap_alloc_new w _⟩
        have hF0 : Fr noB w W0 := by rw [← hW0]; exact (Fr.refl noB w).alloc _
        have HO : Hid _ := hO
        rw [hW0]
        clear hW0 hO
        go_wp2_with (first | (go_at_call 70; refine (HN _).mono ?_; rintro e w1 ⟨rfl, rfl⟩) | (go_at_call 71; refine (HI _).mono ?_; rintro e w1 ⟨rfl, rfl⟩))
        refine (pnum_any x _).mono ?_
        rintro e w2 ⟨rfl, hF2⟩
        have hO2 := HO.out.fr (hF2) id
        have hG2 := hF0.trans (hF2)
        clear hF0
        have k0 := hO2.c0
        have k1 := hO2.c1
        have k2 := hO2.c2
        have k3 := hO2.c3
        have k4 := hO2.c4
        have f0 := freeOf 0 hO2.o
        have f1 := freeOf 1 hO2.o
        have f2 := freeOf 2 hO2.o
        have f3 := freeOf 3 hO2.o
        have f4 := freeOf 4 hO2.o
        have HQ : Hid _ := And.intro (hO2.set 1 x ⟨#[]⟩ false 0) (fr5 hG2 w.heap.size (Or.inr (by omega)) (.int .i64 1) (.float .f64 x) (.string ⟨#[]⟩) (.bool false) (.int .i64 0))
        clear hO2 hG2 hF2
        go_wp2_with fail
        exact bodyPost_ret (vret Tryz.results56 _ _ w.heap.size rfl HQ.out.1) rfl ⟨rfl, HQ.out.2⟩
#print axioms preckon_any
end Go.Proofs.YtpjbobbmldplbaaGreatDoor
/- ValueMakes: the law's walk. -/
namespace Go.Proofs.YtpjbobbmldplbaaGreatDoor
open Go.RowKit Ieee Go.Shelf
attribute [local go_sem] run_store_float

theorem psame_self (k : Int) (n : Nat) (s : ByteArray) (y : Bool) (c : Int) (w : World) : Calls Tryz.prog 55 #[(.agg #[.int .i64 k, .float .f64 n, .string s, .bool y, .int .i64 c]), (.agg #[.int .i64 k, .float .f64 n, .string s, .bool y, .int .i64 c])] w fun e w' => e = .returned (.bool true) ∧ Fr noB w w' := by
  have h := psame_any k n s y c k n s y c w
  rw [smB_self] at h
  exact h
theorem rsame_self (k : Int) (n : Nat) (s : ByteArray) (y : Bool) (c : Int) (w : World) : Calls Tryz.prog 12 #[(.agg #[.int .i64 k, .float .f64 n, .string s, .bool y, .int .i64 c]), (.agg #[.int .i64 k, .float .f64 n, .string s, .bool y, .int .i64 c])] w fun e w' => e = .returned (.bool true) ∧ Fr noB w w' := by
  have h := rsame_any k n s y c k n s y c w
  rw [smB_self] at h
  exact h
end Go.Proofs.YtpjbobbmldplbaaGreatDoor
