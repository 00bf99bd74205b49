/- Digits and Text of any float: the program's; Digits of the document. -/
import Derived.Test.YtnklmcmdlobicaaGreatDoorXTxP
namespace Go.Proofs.YtnklmcmdlobicaaGreatDoor
open Go.RowKit Ieee Go.Shelf

def absN (x : Nat) : Nat := x % 9223372036854775808
def dgL (x : Nat) : List UInt8 := if finB x = false then [] else if absN x = 0 then [48] else (digF (absN x)).map UInt8.ofNat
def dgE (x : Nat) : Int := if finB x = false then 0 else if absN x = 0 then 1 else dpF (absN x)
def dgN (x : Nat) : Int := if finB x = false then 80 else 0
theorem dg_facts (x : Nat) (hf : finB x = true) : 1 ≤ (dgL x).length ∧ (dgL x).length ≤ 18 ∧ -401 ≤ dgE x ∧ dgE x ≤ 421 ∧ dgN x = 0 := by
  have hfn : ¬ finB x = false := by simp [hf]
  have hn : dgN x = 0 := by unfold dgN; rw [if_neg hfn]
  by_cases h0 : absN x = 0
  · have e1 : dgL x = [48] := by unfold dgL; rw [if_neg hfn, if_pos h0]
    have e2 : dgE x = 1 := by unfold dgE; rw [if_neg hfn, if_pos h0]
    rw [e1, e2, hn]
    decide
  · have e1 : dgL x = (digF (absN x)).map UInt8.ofNat := by unfold dgL; rw [if_neg hfn, if_neg h0]
    have e2 : dgE x = dpF (absN x) := by unfold dgE; rw [if_neg hfn, if_neg h0]
    rw [e1, e2, hn, List.length_map]
    have h1 : 0 < absN x := by omega
    have h2 : absN x < 9218868437227405312 := (fin_iff x).1 hf
    have l := digF_len (absN x) h1 h2
    have r := dpF_range (absN x) h1 h2
    exact ⟨l.1, l.2.1, by omega, by omega, rfl⟩
set_option maxRecDepth 100000 in
set_option maxHeartbeats 1000000 in
theorem pdigits_any (x : Nat) (w : World) (hx : x < 18446744073709551616) (hT : NTab w) :
    Calls Tryz.prog 25 #[.float .f64 x] w fun e w' => e = .returned (.tuple #[.string (baL (dgL x)), .int .i64 (dgE x), .int .i64 (dgN x)]) ∧ Fr noB w w' := by
  have HN := finite_any x hx
  cases hf : finB x with
  | false =>
    rw [hf] at HN
    rw [show dgL x = [] by unfold dgL; rw [if_pos hf], show dgE x = 0 by unfold dgE; rw [if_pos hf], show dgN x = 80 by unfold dgN; rw [if_pos hf]]
    clear hT hf
    go_enter Tryz.func25, Tryz.ntmps25
    go_wp2_with (go_at_call 39; refine (HN _).mono ?_; rintro e w1 ⟨rfl, rfl⟩)
    go_ret3
    exact ⟨rfl, Fr.refl _ _⟩
  | true =>
    have hfn : ¬ finB x = false := by simp [hf]
    by_cases h0 : absN x = 0
    · rw [show dgL x = [48] by unfold dgL; rw [if_neg hfn, if_pos h0], show dgE x = 1 by unfold dgE; rw [if_neg hfn, if_pos h0], show dgN x = 0 by unfold dgN; rw [if_neg hfn]]
      rw [hf] at HN
      have hz : (FloatKind.f64.format.order x 0 == some .eq) = true := by rw [order_zero x (fin_of hf)]; exact decide_eq_true h0
      clear hT hf hfn h0
      go_enter Tryz.func25, Tryz.ntmps25
      go_wp2_with (go_at_call 39; refine (HN _).mono ?_; rintro e w1 ⟨rfl, rfl⟩)
      go_ret3
      exact ⟨rfl, Fr.refl _ _⟩
    · rw [show dgL x = (digF (absN x)).map UInt8.ofNat by unfold dgL; rw [if_neg hfn, if_neg h0], show dgE x = dpF (absN x) by unfold dgE; rw [if_neg hfn, if_neg h0], show dgN x = 0 by unfold dgN; rw [if_neg hfn]]
      exact digits_pos x w hx (Nat.pos_of_ne_zero h0) ((fin_iff x).1 hf) hT
/-- A float's text. -/
def sgL (x : Nat) : List UInt8 := if 9223372036854775808 < x then [45] else []
def ttL (x : Nat) : List UInt8 := if finB x = false then [] else sgL x ++ wrL (dgL x) (dgE x)
theorem wrL_len (L : List UInt8) (e : Int) (hl2 : L.length ≤ 18) (he1 : -401 ≤ e) (he2 : e ≤ 421) : (wrL L e).length ≤ 200 := by
  unfold wrL
  have hi := itoa_len (e - 1) (by omega) (by omega)
  split
  · split <;> simp <;> omega
  · split
    · simp
      omega
    · split
      · simp
        omega
      · simp
        omega
set_option maxRecDepth 100000 in
set_option maxHeartbeats 1000000 in
theorem ptext_any (x : Nat) (w : World) (hx : x < 18446744073709551616) (hT : NTab w) :
    Calls Tryz.prog 198 #[.float .f64 x] w fun e w' => e = .returned (.tuple #[.string (baL (ttL x)), .int .i64 (dgN x)]) ∧ Fr noB w w' := by
  have HD := pdigits_any x w hx hT
  cases hf : finB x with
  | false =>
    have hn : dgN x = 80 := by unfold dgN; rw [if_pos hf]
    rw [show ttL x = [] by unfold ttL; rw [if_pos hf], hn]
    rw [hn] at HD
    generalize dgL x = DL at *
    generalize dgE x = DE at *
    clear hT hf hn
    go_enter Tryz.func198, Tryz.ntmps198
    go_wp2_with (go_at_call 25; refine HD.mono ?_; rintro e w1 ⟨rfl, hF1⟩)
    go_ret2
    exact ⟨rfl, hF1⟩
  | true =>
    obtain ⟨f1, f2, f3, f4, f5⟩ := dg_facts x hf
    have HW : Hid (∀ W, Fr noB w W → Calls Tryz.prog 235 #[.string (baL (dgL x)), .int .i64 (dgE x)] W fun en w' => en = .returned (.string (baL (wrL (dgL x) (dgE x)))) ∧ Fr noB W w') := fun W hW => written_any (dgL x) (dgE x) f1 f2 f3 f4 W (hT.u.fr hW)
    have hl := lt_zero x hx (fin_of hf)
    have hlen := wrL_len (dgL x) (dgE x) f2 f3 f4
    rw [f5] at HD ⊢
    rw [show ttL x = sgL x ++ wrL (dgL x) (dgE x) by unfold ttL; rw [if_neg (by simp [hf])]]
    generalize dgL x = DL at *
    generalize dgE x = DE at *
    generalize wrL DL DE = WR at *
    have HS := signed_any (decide (9223372036854775808 < x)) (baL WR) (by rw [baL_size]; omega)
    have hres : (if decide (9223372036854775808 < x) = true then ⟨#[45]⟩ ++ baL WR else baL WR) = baL (sgL x ++ WR) := by
      unfold sgL
      by_cases h : 9223372036854775808 < x
      · rw [if_pos (by simpa using h), if_pos h]
        exact baL_append [45] WR
      · rw [if_neg (by simpa using h), if_neg h]
        rfl
    rw [hres] at HS
    generalize baL (sgL x ++ WR) = RR at *
    generalize baL WR = WB at *
    generalize baL DL = DB at *
    generalize decide (9223372036854775808 < x) = neg at *
    clear hT hf f1 f2 f5 hres hlen
    go_enter Tryz.func198, Tryz.ntmps198
    go_wp2_with (first
      | (go_at_call 25; with_reducible refine HD.mono ?_; rintro e w1 ⟨rfl, hF1⟩)
      | (go_at_call 235; with_reducible refine (HW.out _ hF1).mono ?_; rintro e w2 ⟨rfl, hF2⟩)
      | (go_at_call 42; with_reducible refine (HS _).mono ?_; rintro e w3 ⟨rfl, h3⟩; subst h3))
    go_ret2
    exact ⟨rfl, hF1.trans hF2⟩
#print axioms ptext_any
end Go.Proofs.YtnklmcmdlobicaaGreatDoor
