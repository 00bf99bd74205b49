/- NumberTexts: the law's walk. -/
import Derived.Test.YtjlmhbdpfncgkaaGreatDoorXFmF
import Derived.Test.YtjlmhbdpfncgkaaGreatDoorXTxR
import Derived.Test.YtjlmhbdpfncgkaaGreatDoorNLiv
namespace Go.Proofs.YtjlmhbdpfncgkaaGreatDoor
open Go.RowKit Ieee Go.Shelf

/-- What Fixed answers of any float and any number of places. -/
def fxS (x : Nat) (pl : Int) : List UInt8 := if finB x = true ∧ 0 ≤ pl ∧ pl ≤ 30 then fxT x pl.toNat else []
def fxE (x : Nat) (pl : Int) : Int := if finB x = true then (if 0 ≤ pl ∧ pl ≤ 30 then 0 else 1) else dgN x
theorem dgN_nan (x : Nat) (h : finB x = false) : dgN x = dgN 9218868437227405312 := by
  have h2 : finB 9218868437227405312 = false := by decide +kernel
  unfold dgN
  rw [h, h2]
set_option maxRecDepth 100000 in
set_option maxHeartbeats 2000000 in
theorem pfixed_any (x : Nat) (pl : Int) (M : Nat) (w : World) (hx : x < 18446744073709551616) (hX : XTab w) (hO : OTab w) (hT : CTab w M) :
    Calls Tryz.prog 9 #[.float .f64 x, .int .i64 pl] w fun e w' => e = .returned (.tuple #[.string (baL (fxS x pl)), .int .i64 (fxE x pl)]) ∧ Fr noB w w' := by
  by_cases hf : finB x = true
  · by_cases hp : 0 ≤ pl ∧ pl ≤ 30
    · obtain ⟨p, rfl⟩ : ∃ p : Nat, pl = (p : Int) := ⟨pl.toNat, by omega⟩
      have h := pfixed_fin x p M w hx hf (by omega) hX hO hT
      unfold fxS fxE
      rw [if_pos ⟨hf, hp⟩, if_pos hf, if_pos hp, Int.toNat_natCast]
      exact h
    · have e1 : fxS x pl = [] := by unfold fxS; rw [if_neg (fun h => hp h.2)]
      have e2 : fxE x pl = 1 := by unfold fxE; rw [if_pos hf, if_neg hp]
      rw [e1, e2, show baL [] = ⟨#[]⟩ from rfl]
      have HN := finite_any x hx
      rw [hf] at HN
      clear hX hO hT e1 e2
      by_cases h0 : pl < 0
      · go_enter Tryz.func9, Tryz.ntmps9
        go_wp2_with (go_at_call 16; with_reducible refine (HN _).mono ?_; rintro e w1 ⟨rfl, h1⟩; subst h1)
        go_ret2
        exact ⟨rfl, Fr.refl _ _⟩
      · have h30 : 30 < pl := by omega
        go_enter Tryz.func9, Tryz.ntmps9
        go_wp2_with (go_at_call 16; with_reducible refine (HN _).mono ?_; rintro e w1 ⟨rfl, h1⟩; subst h1)
        go_ret2
        exact ⟨rfl, Fr.refl _ _⟩
  · have hf' : finB x = false := by cases h : finB x <;> simp_all
    have e1 : fxS x pl = [] := by unfold fxS; rw [if_neg (fun h => hf h.1)]
    have e2 : fxE x pl = dgN 9218868437227405312 := by unfold fxE; rw [if_neg hf]; exact dgN_nan x hf'
    have e3 : dgN 9218868437227405312 = 80 := by unfold dgN; rw [show finB 9218868437227405312 = false by decide +kernel]; rfl
    rw [e1, e2, e3, show baL [] = ⟨#[]⟩ from rfl]
    have HN := finite_any x hx
    rw [hf'] at HN
    clear hX hO hT e1 e2 e3
    go_enter Tryz.func9, Tryz.ntmps9
    go_wp2_with (go_at_call 16; with_reducible refine (HN _).mono ?_; rintro e w1 ⟨rfl, h1⟩; subst h1)
    go_ret2
    exact ⟨rfl, Fr.refl _ _⟩
set_option maxRecDepth 100000 in
set_option maxHeartbeats 2000000 in
theorem rfixed_any (x : Nat) (pl : Int) (M : Nat) (w : World) (hx : x < 18446744073709551616) (hO : OTab w) (hT : CTab w M) :
    Calls Tryz.prog 10 #[.float .f64 x, .int .i64 pl] w fun e w' => e = .returned (.tuple #[.string (baL (fxS x pl)), .int .i64 (fxE x pl)]) ∧ Fr noB w w' := by
  by_cases hf : finB x = true
  · by_cases hp : 0 ≤ pl ∧ pl ≤ 30
    · obtain ⟨p, rfl⟩ : ∃ p : Nat, pl = (p : Int) := ⟨pl.toNat, by omega⟩
      have h := rfixed_fin x p M w hx hf (by omega) hO hT
      unfold fxS fxE
      rw [if_pos ⟨hf, hp⟩, if_pos hf, if_pos hp, Int.toNat_natCast]
      exact h
    · have e1 : fxS x pl = [] := by unfold fxS; rw [if_neg (fun h => hp h.2)]
      have e2 : fxE x pl = 1 := by unfold fxE; rw [if_pos hf, if_neg hp]
      rw [e1, e2, show baL [] = ⟨#[]⟩ from rfl]
      have HN := rfinite_any x
      rw [hf] at HN
      clear hO hT e1 e2
      by_cases h0 : pl < 0
      · go_enter Tryz.func10, Tryz.ntmps10
        go_wp2_with (go_at_call 23; with_reducible refine (HN _).mono ?_; rintro e w1 ⟨rfl, m1, h1⟩; subst h1)
        go_ret2
        exact ⟨rfl, (Fr.refl _ _).drewN _⟩
      · have h30 : 30 < pl := by omega
        go_enter Tryz.func10, Tryz.ntmps10
        go_wp2_with (go_at_call 23; with_reducible refine (HN _).mono ?_; rintro e w1 ⟨rfl, m1, h1⟩; subst h1)
        go_ret2
        exact ⟨rfl, (Fr.refl _ _).drewN _⟩
  · have hf' : finB x = false := by cases h : finB x <;> simp_all
    have e1 : fxS x pl = [] := by unfold fxS; rw [if_neg (fun h => hf h.1)]
    have e2 : fxE x pl = dgN 9218868437227405312 := by unfold fxE; rw [if_neg hf]; exact dgN_nan x hf'
    have e3 : dgN 9218868437227405312 = 80 := by unfold dgN; rw [show finB 9218868437227405312 = false by decide +kernel]; rfl
    rw [e1, e2, e3, show baL [] = ⟨#[]⟩ from rfl]
    have HN := rfinite_any x
    rw [hf'] at HN
    clear hO hT e1 e2 e3
    go_enter Tryz.func10, Tryz.ntmps10
    go_wp2_with (go_at_call 23; with_reducible refine (HN _).mono ?_; rintro e w1 ⟨rfl, m1, h1⟩; subst h1)
    go_ret2
    exact ⟨rfl, (Fr.refl _ _).drewN _⟩
/-- All that the statement reads of variables. -/
structure XTabs (w : World) (M : Nat) : Prop where
  n : NTabs w
  o : OTab w
  c : CTab w M
theorem XTabs.fr {w w' : World} {M : Nat} (h : XTabs w M) (hF : Fr noB w w') : XTabs w' M := ⟨h.n.fr hF, h.o.fr hF, h.c.low hF (fun _ _ h => h.elim)⟩
set_option maxRecDepth 100000 in
set_option maxHeartbeats 2000000 in
theorem texts_walk (x : Nat) (hx : x < 18446744073709551616) (pl : Int) (M : Nat) (w : World) (hT : XTabs w M) :
    Calls Tryz.prog 3 #[.int .u64 (x : Int), .int .i64 pl] w fun e w' => e = .returned (.bool true) ∧ Below w.heap.size w w' := by
  have r1 : ∀ W, _ := run_from x
  have H1 : Hid (∀ W, Fr noB w W → Calls Tryz.prog 5 #[.float .f64 x] W fun e w' => e = .returned (.tuple #[.string (baL (ttL x)), .int .i64 (dgN x)]) ∧ Fr noB W w') := fun W h => ptext_any x W hx (hT.fr h).n.toNTab
  have H2 : Hid (∀ W, Fr noB w W → Calls Tryz.prog 6 #[.float .f64 x] W fun e w' => e = .returned (.tuple #[.string (baL (ttL x)), .int .i64 (dgN x)]) ∧ Fr noB W w') := fun W h => rtext_any x W hx (hT.fr h).n.toNTab
  have H3 : Hid (∀ W, Fr noB w W → Calls Tryz.prog 7 #[.float .f64 x] W fun e w' => e = .returned (.tuple #[.string (baL (dgL x)), .int .i64 (dgE x), .int .i64 (dgN x)]) ∧ Fr noB W w') := fun W h => pdigits_any x W hx (hT.fr h).n.toNTab
  have H4 : Hid (∀ W, Fr noB w W → Calls Tryz.prog 8 #[.float .f64 x] W fun e w' => e = .returned (.tuple #[.string (baL (dgL x)), .int .i64 (dgE x), .int .i64 (dgN x)]) ∧ Fr noB W w') := fun W h => rdigits_any x W hx (hT.fr h).n.toNTab
  have H5 : Hid (∀ W, Fr noB w W → Calls Tryz.prog 9 #[.float .f64 x, .int .i64 pl] W fun e w' => e = .returned (.tuple #[.string (baL (fxS x pl)), .int .i64 (fxE x pl)]) ∧ Fr noB W w') := fun W h => pfixed_any x pl M W hx (hT.fr h).n.x (hT.fr h).o (hT.fr h).c
  have H6 : Hid (∀ W, Fr noB w W → Calls Tryz.prog 10 #[.float .f64 x, .int .i64 pl] W fun e w' => e = .returned (.tuple #[.string (baL (fxS x pl)), .int .i64 (fxE x pl)]) ∧ Fr noB W w') := fun W h => rfixed_any x pl M W hx (hT.fr h).o (hT.fr h).c
  have H7 : Hid (∀ W, Fr noB w W → Calls Tryz.prog 11 #[] W fun e w' => e = .returned (.bool true) ∧ Fr noB W w') := fun W h => live_true W (hT.fr h).n
  generalize baL (ttL x) = T1 at *
  generalize baL (dgL x) = T2 at *
  generalize baL (fxS x pl) = T3 at *
  generalize dgN x = N1 at *
  generalize dgE x = N2 at *
  generalize fxE x pl = N3 at *
  clear hT hx
  go_enter Tryz.func3, Tryz.ntmps3
  go_wp2_with (first
    | (go_at_call 5; with_reducible refine (H1.out _ (Fr.refl _ _)).mono ?_; rintro e w1 ⟨rfl, hF1⟩)
    | (go_at_call 6; with_reducible refine (H2.out _ hF1).mono ?_; rintro e w2 ⟨rfl, hG2⟩; have hF2 := hF1.trans hG2)
    | (go_at_call 7; with_reducible refine (H3.out _ hF2).mono ?_; rintro e w3 ⟨rfl, hG3⟩; have hF3 := hF2.trans hG3)
    | (go_at_call 8; with_reducible refine (H4.out _ hF3).mono ?_; rintro e w4 ⟨rfl, hG4⟩; have hF4 := hF3.trans hG4)
    | (go_at_call 9; with_reducible refine (H5.out _ hF4).mono ?_; rintro e w5 ⟨rfl, hG5⟩; have hF5 := hF4.trans hG5)
    | (go_at_call 10; with_reducible refine (H6.out _ hF5).mono ?_; rintro e w6 ⟨rfl, hG6⟩; have hF6 := hF5.trans hG6)
    | (go_at_call 11; with_reducible refine (H7.out _ hF6).mono ?_; rintro e w7 ⟨rfl, hG7⟩; have hF7 := hF6.trans hG7))
  go_ret
  exact ⟨rfl, Fr.below (S := noB) hF7 (Nat.le_refl _) (fun _ h => h.elim)⟩
#print axioms texts_walk
end Go.Proofs.YtjlmhbdpfncgkaaGreatDoor
