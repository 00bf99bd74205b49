/- What is wrong with a shift: the document's side. -/
import Derived.Test.YthokhnbecgkpbaaDoorHChk
namespace Go.Proofs.YthokhnbecgkpbaaDoor
open Go.RowKit

set_option maxRecDepth 100000 in
set_option maxHeartbeats 1000000 in
theorem rspan_any (K : Int) (sh : ByteArray) (At N : Int) (nm : ByteArray) (lim : Int) (w : World) (h1 : 0 ≤ lim) (h2 : lim ≤ 1048576) :
    Calls Tryd.prog 32 #[.agg #[.int .i64 K, .string sh, .int .i64 At, .int .i64 N, .string nm], .int .i64 lim] w fun e w' => e = .returned (.int .i64 (spnF At N lim)) ∧ Fr noB w w' := by
  have HX := x_laid w K sh At N nm
  have a2 := HX.c2; have a3 := HX.c3
  have HZ : Hid _ := fr_alloc w (.cells #[.int .i64 K, .string sh, .int .i64 At, .int .i64 N, .string nm] 24 (0, 0))
  clear HX
  unfold spnF
  by_cases n1 : N < 1
  · rw [if_neg (by omega)]
    go_enter Tryd.func32, Tryd.ntmps32
    go_wp2_with fail
    go_ret
    exact ⟨rfl, HZ.out⟩
  · by_cases n2 : At < 0
    · rw [if_neg (by omega)]
      go_enter Tryd.func32, Tryd.ntmps32
      go_wp2_with fail
      go_ret
      exact ⟨rfl, HZ.out⟩
    · by_cases n3 : lim < At
      · rw [if_neg (by omega)]
        go_enter Tryd.func32, Tryd.ntmps32
        go_wp2_with fail
        go_ret
        exact ⟨rfl, HZ.out⟩
      · have hw : IntKind.i64.wrap (lim - At) = lim - At := by rw [IntKind.wrap_i64]; omega
        by_cases n4 : lim - At < N
        · rw [if_neg (by omega)]
          obtain ⟨d, hd⟩ : ∃ d, lim - At = d := ⟨_, rfl⟩
          rw [hd] at hw n4
          have hdd : Hid (lim - At = d) := hd
          go_enter Tryd.func32, Tryd.ntmps32
          go_wp2_with fail
          go_ret
          exact ⟨rfl, HZ.out⟩
        · rw [if_pos (by omega)]
          obtain ⟨d, hd⟩ : ∃ d, lim - At = d := ⟨_, rfl⟩
          rw [hd] at hw n4
          have hdd : Hid (lim - At = d) := hd
          go_enter Tryd.func32, Tryd.ntmps32
          go_wp2_with fail
          go_ret
          exact ⟨rfl, HZ.out⟩
set_option maxRecDepth 100000 in
set_option maxHeartbeats 1000000 in
theorem rck_out (ao : Option Addr) (cap : Nat) (l : Nat) (K : Int) (sh : ByteArray) (At N : Int) (nm : ByteArray) (w : World) (h : K < 1 ∨ 8 < K) :
    Calls Tryd.prog 13 #[.slice ao l cap, .agg #[.int .i64 K, .string sh, .int .i64 At, .int .i64 N, .string nm]] w fun e w' => e = .returned (.int .i64 150) ∧ Fr noB w w' := by
  by_cases h1 : K < 1
  · clear h
    go_enter Tryd.func13, Tryd.ntmps13
    go_wp2_with fail
    go_ret
    exact ⟨rfl, (Fr.refl noB w).alloc _⟩
  · have h2 : 8 < K := by omega
    clear h
    go_enter Tryd.func13, Tryd.ntmps13
    go_wp2_with fail
    go_ret
    exact ⟨rfl, (Fr.refl noB w).alloc _⟩
set_option maxRecDepth 100000 in
set_option maxHeartbeats 1000000 in
theorem rck_none (ao : Option Addr) (cap : Nat) (L : List ByteArray) (K : Int) (sh : ByteArray) (At N : Int) (nm : ByteArray) (w : World) (h : SsAt w ao L) (hl : L.length ≤ 140737488355328) (hsh : sh.size ≤ 140737488355328) (hnm : nm.size ≤ 140737488355328) (hL : ∀ x ∈ L, x.size ≤ 140737488355328) (hT : Tabs w) (k1 : ¬ K < 1) (k2 : ¬ 8 < K) (k3 : ¬ K = 5) (hb : fndB L sh = false) :
    Calls Tryd.prog 13 #[.slice ao L.length cap, .agg #[.int .i64 K, .string sh, .int .i64 At, .int .i64 N, .string nm]] w fun e w' => e = .returned (.int .i64 (4)) ∧ Fr noB w w' := by
  have HF : Hid (∀ W, Fr noB w W → Calls Tryd.prog 10 #[.slice ao L.length cap, .string sh] W fun e w' => e = .returned (.tuple #[.int .i64 (fndN L sh : Int), .bool false]) ∧ Fr noB W w') := fun W hF => by have := rfind_any ao cap L sh W (h.keep hF) hl hsh hL; rw [hb] at this; exact this
  have HG : Hid (∀ W, Fr noB w W → Calls Tryd.prog 10 #[.slice ao L.length cap, .string nm] W fun e w' => e = .returned (.tuple #[.int .i64 (fndN L nm : Int), .bool (fndB L nm)]) ∧ Fr noB W w') := fun W hF => rfind_any ao cap L nm W (h.keep hF) hl hnm hL
  have HS : Hid (∀ W, Fr noB w W → Calls Tryd.prog 33 #[.string nm] W fun e w' => e = .returned (.bool (shtF nm)) ∧ Fr noB W w') := fun W hF => rsheetName_any nm W hnm (hT.keep hF)
  have HX := x_laid w K sh At N nm
  have HZ := fr_alloc w (.cells #[.int .i64 K, .string sh, .int .i64 At, .int .i64 N, .string nm] 24 (0, 0))
  have a0 := HX.c0; have a1 := HX.c1; have a2 := HX.c2; have a3 := HX.c3; have a4 := HX.c4
  have HXZ : Hid _ := And.intro HX HZ
  clear h hl HX HZ hsh hnm hL hT
  clear hb
  generalize fndN L sh = i at *
  generalize fndN L nm = j at *
  generalize L.length = l at *
  have k4 : (K != 5) = true := by simpa using k3
  go_enter Tryd.func13, Tryd.ntmps13
  go_wp2_with (first
    | (go_at_call 10; (with_reducible refine (HF.out _ HXZ.out.2).mono ?_); rintro e w1 ⟨rfl, hF1⟩; have b0 := (HXZ.out.1.fr hF1).c0; have b1 := (HXZ.out.1.fr hF1).c1; have b2 := (HXZ.out.1.fr hF1).c2; have b3 := (HXZ.out.1.fr hF1).c3; have b4 := (HXZ.out.1.fr hF1).c4; have hG1 := HXZ.out.2.trans hF1))
  go_ret
  exact ⟨rfl, HXZ.out.2.trans hF1⟩
set_option maxRecDepth 100000 in
set_option maxHeartbeats 1000000 in
theorem rck_new (ao : Option Addr) (cap : Nat) (L : List ByteArray) (sh : ByteArray) (At N : Int) (nm : ByteArray) (w : World) (h : SsAt w ao L) (hl : L.length ≤ 140737488355328) (hsh : sh.size ≤ 140737488355328) (hnm : nm.size ≤ 140737488355328) (hL : ∀ x ∈ L, x.size ≤ 140737488355328) (hT : Tabs w) :
    Calls Tryd.prog 13 #[.slice ao L.length cap, .agg #[.int .i64 5, .string sh, .int .i64 At, .int .i64 N, .string nm]] w fun e w' => e = .returned (.int .i64 (newF L At nm)) ∧ Fr noB w w' := by
  have HF : Hid (∀ W, Fr noB w W → Calls Tryd.prog 10 #[.slice ao L.length cap, .string sh] W fun e w' => e = .returned (.tuple #[.int .i64 (fndN L sh : Int), .bool (fndB L sh)]) ∧ Fr noB W w') := fun W hF => by have := rfind_any ao cap L sh W (h.keep hF) hl hsh hL; exact this
  have HG : Hid (∀ W, Fr noB w W → Calls Tryd.prog 10 #[.slice ao L.length cap, .string nm] W fun e w' => e = .returned (.tuple #[.int .i64 (fndN L nm : Int), .bool (fndB L nm)]) ∧ Fr noB W w') := fun W hF => rfind_any ao cap L nm W (h.keep hF) hl hnm hL
  have HS : Hid (∀ W, Fr noB w W → Calls Tryd.prog 33 #[.string nm] W fun e w' => e = .returned (.bool (shtF nm)) ∧ Fr noB W w') := fun W hF => rsheetName_any nm W hnm (hT.keep hF)
  have HX := x_laid w 5 sh At N nm
  have HZ := fr_alloc w (.cells #[.int .i64 5, .string sh, .int .i64 At, .int .i64 N, .string nm] 24 (0, 0))
  have a0 := HX.c0; have a1 := HX.c1; have a2 := HX.c2; have a3 := HX.c3; have a4 := HX.c4
  have HXZ : Hid _ := And.intro HX HZ
  clear h hl HX HZ hsh hnm hL hT
  unfold newF
  generalize fndB L sh = bs at *
  generalize fndB L nm = bn at *
  generalize fndN L sh = i at *
  generalize fndN L nm = j at *
  generalize L.length = l at *
  by_cases h1 : At < 0
  · rw [if_pos (Or.inl h1)]
    go_enter Tryd.func13, Tryd.ntmps13
    go_wp2_with (first
      | (go_at_call 10; (with_reducible refine (HF.out _ HXZ.out.2).mono ?_); rintro e w1 ⟨rfl, hF1⟩; have b0 := (HXZ.out.1.fr hF1).c0; have b1 := (HXZ.out.1.fr hF1).c1; have b2 := (HXZ.out.1.fr hF1).c2; have b3 := (HXZ.out.1.fr hF1).c3; have b4 := (HXZ.out.1.fr hF1).c4; have hG1 := HXZ.out.2.trans hF1)
      | (go_at_call 10; (with_reducible refine (HG.out _ hG1).mono ?_); rintro e w2 ⟨rfl, hF2⟩; have d0 := (HXZ.out.1.fr (hF1.trans hF2)).c0; have d1 := (HXZ.out.1.fr (hF1.trans hF2)).c1; have d2 := (HXZ.out.1.fr (hF1.trans hF2)).c2; have d3 := (HXZ.out.1.fr (hF1.trans hF2)).c3; have d4 := (HXZ.out.1.fr (hF1.trans hF2)).c4; have hG2 := hG1.trans hF2))
    go_ret
    exact ⟨rfl, hG2⟩
  · by_cases h2 : (l : Int) < At
    · rw [if_pos (Or.inr (Or.inl h2))]
      go_enter Tryd.func13, Tryd.ntmps13
      go_wp2_with (first
        | (go_at_call 10; (with_reducible refine (HF.out _ HXZ.out.2).mono ?_); rintro e w1 ⟨rfl, hF1⟩; have b0 := (HXZ.out.1.fr hF1).c0; have b1 := (HXZ.out.1.fr hF1).c1; have b2 := (HXZ.out.1.fr hF1).c2; have b3 := (HXZ.out.1.fr hF1).c3; have b4 := (HXZ.out.1.fr hF1).c4; have hG1 := HXZ.out.2.trans hF1)
        | (go_at_call 10; (with_reducible refine (HG.out _ hG1).mono ?_); rintro e w2 ⟨rfl, hF2⟩; have d0 := (HXZ.out.1.fr (hF1.trans hF2)).c0; have d1 := (HXZ.out.1.fr (hF1.trans hF2)).c1; have d2 := (HXZ.out.1.fr (hF1.trans hF2)).c2; have d3 := (HXZ.out.1.fr (hF1.trans hF2)).c3; have d4 := (HXZ.out.1.fr (hF1.trans hF2)).c4; have hG2 := hG1.trans hF2))
      go_ret
      exact ⟨rfl, hG2⟩
    · cases hs : shtF nm with
      | false =>
        rw [hs] at HS
        rw [if_pos (Or.inr (Or.inr rfl))]
        go_enter Tryd.func13, Tryd.ntmps13
        go_wp2_with (first
          | (go_at_call 10; (with_reducible refine (HF.out _ HXZ.out.2).mono ?_); rintro e w1 ⟨rfl, hF1⟩; have b0 := (HXZ.out.1.fr hF1).c0; have b1 := (HXZ.out.1.fr hF1).c1; have b2 := (HXZ.out.1.fr hF1).c2; have b3 := (HXZ.out.1.fr hF1).c3; have b4 := (HXZ.out.1.fr hF1).c4; have hG1 := HXZ.out.2.trans hF1)
          | (go_at_call 10; (with_reducible refine (HG.out _ hG1).mono ?_); rintro e w2 ⟨rfl, hF2⟩; have d0 := (HXZ.out.1.fr (hF1.trans hF2)).c0; have d1 := (HXZ.out.1.fr (hF1.trans hF2)).c1; have d2 := (HXZ.out.1.fr (hF1.trans hF2)).c2; have d3 := (HXZ.out.1.fr (hF1.trans hF2)).c3; have d4 := (HXZ.out.1.fr (hF1.trans hF2)).c4; have hG2 := hG1.trans hF2)
          | (go_at_call 33; (with_reducible refine (HS.out _ hG2).mono ?_); rintro e w3 ⟨rfl, hF3⟩))
        go_ret
        exact ⟨rfl, hG2.trans hF3⟩
      | true =>
        rw [hs] at HS
        rw [if_neg (by simp; omega)]
        cases bn with
        | true =>
          rw [if_pos rfl]
          go_enter Tryd.func13, Tryd.ntmps13
          go_wp2_with (first
            | (go_at_call 10; (with_reducible refine (HF.out _ HXZ.out.2).mono ?_); rintro e w1 ⟨rfl, hF1⟩; have b0 := (HXZ.out.1.fr hF1).c0; have b1 := (HXZ.out.1.fr hF1).c1; have b2 := (HXZ.out.1.fr hF1).c2; have b3 := (HXZ.out.1.fr hF1).c3; have b4 := (HXZ.out.1.fr hF1).c4; have hG1 := HXZ.out.2.trans hF1)
            | (go_at_call 10; (with_reducible refine (HG.out _ hG1).mono ?_); rintro e w2 ⟨rfl, hF2⟩; have d0 := (HXZ.out.1.fr (hF1.trans hF2)).c0; have d1 := (HXZ.out.1.fr (hF1.trans hF2)).c1; have d2 := (HXZ.out.1.fr (hF1.trans hF2)).c2; have d3 := (HXZ.out.1.fr (hF1.trans hF2)).c3; have d4 := (HXZ.out.1.fr (hF1.trans hF2)).c4; have hG2 := hG1.trans hF2)
            | (go_at_call 33; (with_reducible refine (HS.out _ hG2).mono ?_); rintro e w3 ⟨rfl, hF3⟩))
          go_ret
          exact ⟨rfl, hG2.trans hF3⟩
        | false =>
          rw [if_neg (by simp)]
          by_cases h32 : 32 ≤ l
          · have h33 : (32 : Int) ≤ (l : Int) := by omega
            rw [if_pos h32]
            clear h32
            go_enter Tryd.func13, Tryd.ntmps13
            go_wp2_with (first
              | (go_at_call 10; (with_reducible refine (HF.out _ HXZ.out.2).mono ?_); rintro e w1 ⟨rfl, hF1⟩; have b0 := (HXZ.out.1.fr hF1).c0; have b1 := (HXZ.out.1.fr hF1).c1; have b2 := (HXZ.out.1.fr hF1).c2; have b3 := (HXZ.out.1.fr hF1).c3; have b4 := (HXZ.out.1.fr hF1).c4; have hG1 := HXZ.out.2.trans hF1)
              | (go_at_call 10; (with_reducible refine (HG.out _ hG1).mono ?_); rintro e w2 ⟨rfl, hF2⟩; have d0 := (HXZ.out.1.fr (hF1.trans hF2)).c0; have d1 := (HXZ.out.1.fr (hF1.trans hF2)).c1; have d2 := (HXZ.out.1.fr (hF1.trans hF2)).c2; have d3 := (HXZ.out.1.fr (hF1.trans hF2)).c3; have d4 := (HXZ.out.1.fr (hF1.trans hF2)).c4; have hG2 := hG1.trans hF2)
              | (go_at_call 33; (with_reducible refine (HS.out _ hG2).mono ?_); rintro e w3 ⟨rfl, hF3⟩))
            go_ret
            exact ⟨rfl, hG2.trans hF3⟩
          · have h33 : ¬ (32 : Int) ≤ (l : Int) := by omega
            rw [if_neg h32]
            clear h32
            go_enter Tryd.func13, Tryd.ntmps13
            go_wp2_with (first
              | (go_at_call 10; (with_reducible refine (HF.out _ HXZ.out.2).mono ?_); rintro e w1 ⟨rfl, hF1⟩; have b0 := (HXZ.out.1.fr hF1).c0; have b1 := (HXZ.out.1.fr hF1).c1; have b2 := (HXZ.out.1.fr hF1).c2; have b3 := (HXZ.out.1.fr hF1).c3; have b4 := (HXZ.out.1.fr hF1).c4; have hG1 := HXZ.out.2.trans hF1)
              | (go_at_call 10; (with_reducible refine (HG.out _ hG1).mono ?_); rintro e w2 ⟨rfl, hF2⟩; have d0 := (HXZ.out.1.fr (hF1.trans hF2)).c0; have d1 := (HXZ.out.1.fr (hF1.trans hF2)).c1; have d2 := (HXZ.out.1.fr (hF1.trans hF2)).c2; have d3 := (HXZ.out.1.fr (hF1.trans hF2)).c3; have d4 := (HXZ.out.1.fr (hF1.trans hF2)).c4; have hG2 := hG1.trans hF2)
              | (go_at_call 33; (with_reducible refine (HS.out _ hG2).mono ?_); rintro e w3 ⟨rfl, hF3⟩))
            go_ret
            exact ⟨rfl, hG2.trans hF3⟩
set_option maxRecDepth 100000 in
set_option maxHeartbeats 1000000 in
theorem rck_del (ao : Option Addr) (cap : Nat) (L : List ByteArray) (sh : ByteArray) (At N : Int) (nm : ByteArray) (w : World) (h : SsAt w ao L) (hl : L.length ≤ 140737488355328) (hsh : sh.size ≤ 140737488355328) (hnm : nm.size ≤ 140737488355328) (hL : ∀ x ∈ L, x.size ≤ 140737488355328) (hT : Tabs w) (hb : fndB L sh = true) :
    Calls Tryd.prog 13 #[.slice ao L.length cap, .agg #[.int .i64 6, .string sh, .int .i64 At, .int .i64 N, .string nm]] w fun e w' => e = .returned (.int .i64 (if L.length = 1 then 151 else 0)) ∧ Fr noB w w' := by
  have HF : Hid (∀ W, Fr noB w W → Calls Tryd.prog 10 #[.slice ao L.length cap, .string sh] W fun e w' => e = .returned (.tuple #[.int .i64 (fndN L sh : Int), .bool true]) ∧ Fr noB W w') := fun W hF => by have := rfind_any ao cap L sh W (h.keep hF) hl hsh hL; rw [hb] at this; exact this
  have HG : Hid (∀ W, Fr noB w W → Calls Tryd.prog 10 #[.slice ao L.length cap, .string nm] W fun e w' => e = .returned (.tuple #[.int .i64 (fndN L nm : Int), .bool (fndB L nm)]) ∧ Fr noB W w') := fun W hF => rfind_any ao cap L nm W (h.keep hF) hl hnm hL
  have HS : Hid (∀ W, Fr noB w W → Calls Tryd.prog 33 #[.string nm] W fun e w' => e = .returned (.bool (shtF nm)) ∧ Fr noB W w') := fun W hF => rsheetName_any nm W hnm (hT.keep hF)
  have HX := x_laid w 6 sh At N nm
  have HZ := fr_alloc w (.cells #[.int .i64 6, .string sh, .int .i64 At, .int .i64 N, .string nm] 24 (0, 0))
  have a0 := HX.c0; have a1 := HX.c1; have a2 := HX.c2; have a3 := HX.c3; have a4 := HX.c4
  have HXZ : Hid _ := And.intro HX HZ
  clear h hl HX HZ hsh hnm hL hT
  clear hb
  generalize fndB L nm = bn at *
  generalize fndN L sh = i at *
  generalize fndN L nm = j at *
  generalize L.length = l at *
  by_cases h1 : l = 1
  · have h2 : (l : Int) = 1 := by omega
    rw [if_pos h1]
    clear h1
    go_enter Tryd.func13, Tryd.ntmps13
    go_wp2_with (first
      | (go_at_call 10; (with_reducible refine (HF.out _ HXZ.out.2).mono ?_); rintro e w1 ⟨rfl, hF1⟩; have b0 := (HXZ.out.1.fr hF1).c0; have b1 := (HXZ.out.1.fr hF1).c1; have b2 := (HXZ.out.1.fr hF1).c2; have b3 := (HXZ.out.1.fr hF1).c3; have b4 := (HXZ.out.1.fr hF1).c4; have hG1 := HXZ.out.2.trans hF1)
      | (go_at_call 10; (with_reducible refine (HG.out _ hG1).mono ?_); rintro e w2 ⟨rfl, hF2⟩; have d0 := (HXZ.out.1.fr (hF1.trans hF2)).c0; have d1 := (HXZ.out.1.fr (hF1.trans hF2)).c1; have d2 := (HXZ.out.1.fr (hF1.trans hF2)).c2; have d3 := (HXZ.out.1.fr (hF1.trans hF2)).c3; have d4 := (HXZ.out.1.fr (hF1.trans hF2)).c4; have hG2 := hG1.trans hF2))
    go_ret
    exact ⟨rfl, hG2⟩
  · have h2 : ¬ (l : Int) = 1 := by omega
    rw [if_neg h1]
    clear h1
    go_enter Tryd.func13, Tryd.ntmps13
    go_wp2_with (first
      | (go_at_call 10; (with_reducible refine (HF.out _ HXZ.out.2).mono ?_); rintro e w1 ⟨rfl, hF1⟩; have b0 := (HXZ.out.1.fr hF1).c0; have b1 := (HXZ.out.1.fr hF1).c1; have b2 := (HXZ.out.1.fr hF1).c2; have b3 := (HXZ.out.1.fr hF1).c3; have b4 := (HXZ.out.1.fr hF1).c4; have hG1 := HXZ.out.2.trans hF1)
      | (go_at_call 10; (with_reducible refine (HG.out _ hG1).mono ?_); rintro e w2 ⟨rfl, hF2⟩; have d0 := (HXZ.out.1.fr (hF1.trans hF2)).c0; have d1 := (HXZ.out.1.fr (hF1.trans hF2)).c1; have d2 := (HXZ.out.1.fr (hF1.trans hF2)).c2; have d3 := (HXZ.out.1.fr (hF1.trans hF2)).c3; have d4 := (HXZ.out.1.fr (hF1.trans hF2)).c4; have hG2 := hG1.trans hF2))
    go_ret
    exact ⟨rfl, hG2⟩
set_option maxRecDepth 100000 in
set_option maxHeartbeats 1000000 in
theorem rck_move (ao : Option Addr) (cap : Nat) (L : List ByteArray) (sh : ByteArray) (At N : Int) (nm : ByteArray) (w : World) (h : SsAt w ao L) (hl : L.length ≤ 140737488355328) (hsh : sh.size ≤ 140737488355328) (hnm : nm.size ≤ 140737488355328) (hL : ∀ x ∈ L, x.size ≤ 140737488355328) (hT : Tabs w) (hb : fndB L sh = true) :
    Calls Tryd.prog 13 #[.slice ao L.length cap, .agg #[.int .i64 7, .string sh, .int .i64 At, .int .i64 N, .string nm]] w fun e w' => e = .returned (.int .i64 (if 0 ≤ At ∧ At < (L.length : Int) then 0 else 150)) ∧ Fr noB w w' := by
  have HF : Hid (∀ W, Fr noB w W → Calls Tryd.prog 10 #[.slice ao L.length cap, .string sh] W fun e w' => e = .returned (.tuple #[.int .i64 (fndN L sh : Int), .bool true]) ∧ Fr noB W w') := fun W hF => by have := rfind_any ao cap L sh W (h.keep hF) hl hsh hL; rw [hb] at this; exact this
  have HG : Hid (∀ W, Fr noB w W → Calls Tryd.prog 10 #[.slice ao L.length cap, .string nm] W fun e w' => e = .returned (.tuple #[.int .i64 (fndN L nm : Int), .bool (fndB L nm)]) ∧ Fr noB W w') := fun W hF => rfind_any ao cap L nm W (h.keep hF) hl hnm hL
  have HS : Hid (∀ W, Fr noB w W → Calls Tryd.prog 33 #[.string nm] W fun e w' => e = .returned (.bool (shtF nm)) ∧ Fr noB W w') := fun W hF => rsheetName_any nm W hnm (hT.keep hF)
  have HX := x_laid w 7 sh At N nm
  have HZ := fr_alloc w (.cells #[.int .i64 7, .string sh, .int .i64 At, .int .i64 N, .string nm] 24 (0, 0))
  have a0 := HX.c0; have a1 := HX.c1; have a2 := HX.c2; have a3 := HX.c3; have a4 := HX.c4
  have HXZ : Hid _ := And.intro HX HZ
  clear h hl HX HZ hsh hnm hL hT
  clear hb
  generalize fndB L nm = bn at *
  generalize fndN L sh = i at *
  generalize fndN L nm = j at *
  generalize L.length = l at *
  by_cases h1 : At < 0
  · rw [if_neg (by omega)]
    go_enter Tryd.func13, Tryd.ntmps13
    go_wp2_with (first
      | (go_at_call 10; (with_reducible refine (HF.out _ HXZ.out.2).mono ?_); rintro e w1 ⟨rfl, hF1⟩; have b0 := (HXZ.out.1.fr hF1).c0; have b1 := (HXZ.out.1.fr hF1).c1; have b2 := (HXZ.out.1.fr hF1).c2; have b3 := (HXZ.out.1.fr hF1).c3; have b4 := (HXZ.out.1.fr hF1).c4; have hG1 := HXZ.out.2.trans hF1)
      | (go_at_call 10; (with_reducible refine (HG.out _ hG1).mono ?_); rintro e w2 ⟨rfl, hF2⟩; have d0 := (HXZ.out.1.fr (hF1.trans hF2)).c0; have d1 := (HXZ.out.1.fr (hF1.trans hF2)).c1; have d2 := (HXZ.out.1.fr (hF1.trans hF2)).c2; have d3 := (HXZ.out.1.fr (hF1.trans hF2)).c3; have d4 := (HXZ.out.1.fr (hF1.trans hF2)).c4; have hG2 := hG1.trans hF2))
    go_ret
    exact ⟨rfl, hG2⟩
  · by_cases h2 : (l : Int) ≤ At
    · rw [if_neg (by omega)]
      go_enter Tryd.func13, Tryd.ntmps13
      go_wp2_with (first
        | (go_at_call 10; (with_reducible refine (HF.out _ HXZ.out.2).mono ?_); rintro e w1 ⟨rfl, hF1⟩; have b0 := (HXZ.out.1.fr hF1).c0; have b1 := (HXZ.out.1.fr hF1).c1; have b2 := (HXZ.out.1.fr hF1).c2; have b3 := (HXZ.out.1.fr hF1).c3; have b4 := (HXZ.out.1.fr hF1).c4; have hG1 := HXZ.out.2.trans hF1)
        | (go_at_call 10; (with_reducible refine (HG.out _ hG1).mono ?_); rintro e w2 ⟨rfl, hF2⟩; have d0 := (HXZ.out.1.fr (hF1.trans hF2)).c0; have d1 := (HXZ.out.1.fr (hF1.trans hF2)).c1; have d2 := (HXZ.out.1.fr (hF1.trans hF2)).c2; have d3 := (HXZ.out.1.fr (hF1.trans hF2)).c3; have d4 := (HXZ.out.1.fr (hF1.trans hF2)).c4; have hG2 := hG1.trans hF2))
      go_ret
      exact ⟨rfl, hG2⟩
    · rw [if_pos (by omega)]
      go_enter Tryd.func13, Tryd.ntmps13
      go_wp2_with (first
        | (go_at_call 10; (with_reducible refine (HF.out _ HXZ.out.2).mono ?_); rintro e w1 ⟨rfl, hF1⟩; have b0 := (HXZ.out.1.fr hF1).c0; have b1 := (HXZ.out.1.fr hF1).c1; have b2 := (HXZ.out.1.fr hF1).c2; have b3 := (HXZ.out.1.fr hF1).c3; have b4 := (HXZ.out.1.fr hF1).c4; have hG1 := HXZ.out.2.trans hF1)
        | (go_at_call 10; (with_reducible refine (HG.out _ hG1).mono ?_); rintro e w2 ⟨rfl, hF2⟩; have d0 := (HXZ.out.1.fr (hF1.trans hF2)).c0; have d1 := (HXZ.out.1.fr (hF1.trans hF2)).c1; have d2 := (HXZ.out.1.fr (hF1.trans hF2)).c2; have d3 := (HXZ.out.1.fr (hF1.trans hF2)).c3; have d4 := (HXZ.out.1.fr (hF1.trans hF2)).c4; have hG2 := hG1.trans hF2))
      go_ret
      exact ⟨rfl, hG2⟩
set_option maxRecDepth 100000 in
set_option maxHeartbeats 1000000 in
theorem rck_name (ao : Option Addr) (cap : Nat) (L : List ByteArray) (sh : ByteArray) (At N : Int) (nm : ByteArray) (w : World) (h : SsAt w ao L) (hl : L.length ≤ 140737488355328) (hsh : sh.size ≤ 140737488355328) (hnm : nm.size ≤ 140737488355328) (hL : ∀ x ∈ L, x.size ≤ 140737488355328) (hT : Tabs w) (hb : fndB L sh = true) :
    Calls Tryd.prog 13 #[.slice ao L.length cap, .agg #[.int .i64 8, .string sh, .int .i64 At, .int .i64 N, .string nm]] w fun e w' => e = .returned (.int .i64 (namF L sh nm)) ∧ Fr noB w w' := by
  have HF : Hid (∀ W, Fr noB w W → Calls Tryd.prog 10 #[.slice ao L.length cap, .string sh] W fun e w' => e = .returned (.tuple #[.int .i64 (fndN L sh : Int), .bool true]) ∧ Fr noB W w') := fun W hF => by have := rfind_any ao cap L sh W (h.keep hF) hl hsh hL; rw [hb] at this; exact this
  have HG : Hid (∀ W, Fr noB w W → Calls Tryd.prog 10 #[.slice ao L.length cap, .string nm] W fun e w' => e = .returned (.tuple #[.int .i64 (fndN L nm : Int), .bool (fndB L nm)]) ∧ Fr noB W w') := fun W hF => rfind_any ao cap L nm W (h.keep hF) hl hnm hL
  have HS : Hid (∀ W, Fr noB w W → Calls Tryd.prog 33 #[.string nm] W fun e w' => e = .returned (.bool (shtF nm)) ∧ Fr noB W w') := fun W hF => rsheetName_any nm W hnm (hT.keep hF)
  have HX := x_laid w 8 sh At N nm
  have HZ := fr_alloc w (.cells #[.int .i64 8, .string sh, .int .i64 At, .int .i64 N, .string nm] 24 (0, 0))
  have a0 := HX.c0; have a1 := HX.c1; have a2 := HX.c2; have a3 := HX.c3; have a4 := HX.c4
  have HXZ : Hid _ := And.intro HX HZ
  clear h hl HX HZ hsh hnm hL hT
  clear hb
  unfold namF
  generalize fndB L nm = bn at *
  generalize fndN L sh = i at *
  generalize fndN L nm = j at *
  generalize L.length = l at *
  cases hs : shtF nm with
  | false =>
    rw [hs] at HS
    rw [if_pos rfl]
    go_enter Tryd.func13, Tryd.ntmps13
    go_wp2_with (first
      | (go_at_call 10; (with_reducible refine (HF.out _ HXZ.out.2).mono ?_); rintro e w1 ⟨rfl, hF1⟩; have b0 := (HXZ.out.1.fr hF1).c0; have b1 := (HXZ.out.1.fr hF1).c1; have b2 := (HXZ.out.1.fr hF1).c2; have b3 := (HXZ.out.1.fr hF1).c3; have b4 := (HXZ.out.1.fr hF1).c4; have hG1 := HXZ.out.2.trans hF1)
      | (go_at_call 10; (with_reducible refine (HG.out _ hG1).mono ?_); rintro e w2 ⟨rfl, hF2⟩; have d0 := (HXZ.out.1.fr (hF1.trans hF2)).c0; have d1 := (HXZ.out.1.fr (hF1.trans hF2)).c1; have d2 := (HXZ.out.1.fr (hF1.trans hF2)).c2; have d3 := (HXZ.out.1.fr (hF1.trans hF2)).c3; have d4 := (HXZ.out.1.fr (hF1.trans hF2)).c4; have hG2 := hG1.trans hF2)
      | (go_at_call 33; (with_reducible refine (HS.out _ hG2).mono ?_); rintro e w3 ⟨rfl, hF3⟩))
    go_ret
    exact ⟨rfl, hG2.trans hF3⟩
  | true =>
    rw [hs] at HS
    rw [if_neg (by simp)]
    cases bn with
    | false =>
      rw [if_neg (by simp)]
      go_enter Tryd.func13, Tryd.ntmps13
      go_wp2_with (first
        | (go_at_call 10; (with_reducible refine (HF.out _ HXZ.out.2).mono ?_); rintro e w1 ⟨rfl, hF1⟩; have b0 := (HXZ.out.1.fr hF1).c0; have b1 := (HXZ.out.1.fr hF1).c1; have b2 := (HXZ.out.1.fr hF1).c2; have b3 := (HXZ.out.1.fr hF1).c3; have b4 := (HXZ.out.1.fr hF1).c4; have hG1 := HXZ.out.2.trans hF1)
        | (go_at_call 10; (with_reducible refine (HG.out _ hG1).mono ?_); rintro e w2 ⟨rfl, hF2⟩; have d0 := (HXZ.out.1.fr (hF1.trans hF2)).c0; have d1 := (HXZ.out.1.fr (hF1.trans hF2)).c1; have d2 := (HXZ.out.1.fr (hF1.trans hF2)).c2; have d3 := (HXZ.out.1.fr (hF1.trans hF2)).c3; have d4 := (HXZ.out.1.fr (hF1.trans hF2)).c4; have hG2 := hG1.trans hF2)
        | (go_at_call 33; (with_reducible refine (HS.out _ hG2).mono ?_); rintro e w3 ⟨rfl, hF3⟩))
      go_ret
      exact ⟨rfl, hG2.trans hF3⟩
    | true =>
      by_cases hik : j = i
      · subst hik
        rw [if_neg (by simp)]
        go_enter Tryd.func13, Tryd.ntmps13
        go_wp2_with (first
          | (go_at_call 10; (with_reducible refine (HF.out _ HXZ.out.2).mono ?_); rintro e w1 ⟨rfl, hF1⟩; have b0 := (HXZ.out.1.fr hF1).c0; have b1 := (HXZ.out.1.fr hF1).c1; have b2 := (HXZ.out.1.fr hF1).c2; have b3 := (HXZ.out.1.fr hF1).c3; have b4 := (HXZ.out.1.fr hF1).c4; have hG1 := HXZ.out.2.trans hF1)
          | (go_at_call 10; (with_reducible refine (HG.out _ hG1).mono ?_); rintro e w2 ⟨rfl, hF2⟩; have d0 := (HXZ.out.1.fr (hF1.trans hF2)).c0; have d1 := (HXZ.out.1.fr (hF1.trans hF2)).c1; have d2 := (HXZ.out.1.fr (hF1.trans hF2)).c2; have d3 := (HXZ.out.1.fr (hF1.trans hF2)).c3; have d4 := (HXZ.out.1.fr (hF1.trans hF2)).c4; have hG2 := hG1.trans hF2)
          | (go_at_call 33; (with_reducible refine (HS.out _ hG2).mono ?_); rintro e w3 ⟨rfl, hF3⟩))
        go_ret
        exact ⟨rfl, hG2.trans hF3⟩
      · rw [if_pos ⟨rfl, hik⟩]
        have e1 : ((j : Int) != (i : Int)) = true := by simp; omega
        clear hik
        go_enter Tryd.func13, Tryd.ntmps13
        go_wp2_with (first
          | (go_at_call 10; (with_reducible refine (HF.out _ HXZ.out.2).mono ?_); rintro e w1 ⟨rfl, hF1⟩; have b0 := (HXZ.out.1.fr hF1).c0; have b1 := (HXZ.out.1.fr hF1).c1; have b2 := (HXZ.out.1.fr hF1).c2; have b3 := (HXZ.out.1.fr hF1).c3; have b4 := (HXZ.out.1.fr hF1).c4; have hG1 := HXZ.out.2.trans hF1)
          | (go_at_call 10; (with_reducible refine (HG.out _ hG1).mono ?_); rintro e w2 ⟨rfl, hF2⟩; have d0 := (HXZ.out.1.fr (hF1.trans hF2)).c0; have d1 := (HXZ.out.1.fr (hF1.trans hF2)).c1; have d2 := (HXZ.out.1.fr (hF1.trans hF2)).c2; have d3 := (HXZ.out.1.fr (hF1.trans hF2)).c3; have d4 := (HXZ.out.1.fr (hF1.trans hF2)).c4; have hG2 := hG1.trans hF2)
          | (go_at_call 33; (with_reducible refine (HS.out _ hG2).mono ?_); rintro e w3 ⟨rfl, hF3⟩))
        go_ret
        exact ⟨rfl, hG2.trans hF3⟩
set_option maxRecDepth 100000 in
set_option maxHeartbeats 1000000 in
theorem rck_band1 (ao : Option Addr) (cap : Nat) (L : List ByteArray) (sh : ByteArray) (At N : Int) (nm : ByteArray) (w : World) (h : SsAt w ao L) (hl : L.length ≤ 140737488355328) (hsh : sh.size ≤ 140737488355328) (hnm : nm.size ≤ 140737488355328) (hL : ∀ x ∈ L, x.size ≤ 140737488355328) (hT : Tabs w) (hb : fndB L sh = true) :
    Calls Tryd.prog 13 #[.slice ao L.length cap, .agg #[.int .i64 1, .string sh, .int .i64 At, .int .i64 N, .string nm]] w fun e w' => e = .returned (.int .i64 (spnF At N 1048576)) ∧ Fr noB w w' := by
  have HF : Hid (∀ W, Fr noB w W → Calls Tryd.prog 10 #[.slice ao L.length cap, .string sh] W fun e w' => e = .returned (.tuple #[.int .i64 (fndN L sh : Int), .bool true]) ∧ Fr noB W w') := fun W hF => by have := rfind_any ao cap L sh W (h.keep hF) hl hsh hL; rw [hb] at this; exact this
  have HG : Hid (∀ W, Fr noB w W → Calls Tryd.prog 10 #[.slice ao L.length cap, .string nm] W fun e w' => e = .returned (.tuple #[.int .i64 (fndN L nm : Int), .bool (fndB L nm)]) ∧ Fr noB W w') := fun W hF => rfind_any ao cap L nm W (h.keep hF) hl hnm hL
  have HS : Hid (∀ W, Fr noB w W → Calls Tryd.prog 33 #[.string nm] W fun e w' => e = .returned (.bool (shtF nm)) ∧ Fr noB W w') := fun W hF => rsheetName_any nm W hnm (hT.keep hF)
  have HX := x_laid w 1 sh At N nm
  have HZ := fr_alloc w (.cells #[.int .i64 1, .string sh, .int .i64 At, .int .i64 N, .string nm] 24 (0, 0))
  have a0 := HX.c0; have a1 := HX.c1; have a2 := HX.c2; have a3 := HX.c3; have a4 := HX.c4
  have HXZ : Hid _ := And.intro HX HZ
  clear h hl HX HZ hsh hnm hL hT
  clear hb
  have HP := rspan_any 1 sh At N nm 1048576
  generalize spnF At N 1048576 = sv at *
  generalize fndB L nm = bn at *
  generalize fndN L sh = i at *
  generalize fndN L nm = j at *
  generalize L.length = l at *
  go_enter Tryd.func13, Tryd.ntmps13
  go_wp2_with (first
    | (go_at_call 10; (with_reducible refine (HF.out _ HXZ.out.2).mono ?_); rintro e w1 ⟨rfl, hF1⟩; have b0 := (HXZ.out.1.fr hF1).c0; have b1 := (HXZ.out.1.fr hF1).c1; have b2 := (HXZ.out.1.fr hF1).c2; have b3 := (HXZ.out.1.fr hF1).c3; have b4 := (HXZ.out.1.fr hF1).c4; have hG1 := HXZ.out.2.trans hF1)
    | (go_at_call 10; (with_reducible refine (HG.out _ hG1).mono ?_); rintro e w2 ⟨rfl, hF2⟩; have d0 := (HXZ.out.1.fr (hF1.trans hF2)).c0; have d1 := (HXZ.out.1.fr (hF1.trans hF2)).c1; have d2 := (HXZ.out.1.fr (hF1.trans hF2)).c2; have d3 := (HXZ.out.1.fr (hF1.trans hF2)).c3; have d4 := (HXZ.out.1.fr (hF1.trans hF2)).c4; have hG2 := hG1.trans hF2)
    | (go_at_call 32; refine (HP _ (by omega) (by omega)).mono ?_; rintro e w3 ⟨rfl, hF3⟩))
  go_ret
  exact ⟨rfl, hG2.trans hF3⟩
set_option maxRecDepth 100000 in
set_option maxHeartbeats 1000000 in
theorem rck_band2 (ao : Option Addr) (cap : Nat) (L : List ByteArray) (sh : ByteArray) (At N : Int) (nm : ByteArray) (w : World) (h : SsAt w ao L) (hl : L.length ≤ 140737488355328) (hsh : sh.size ≤ 140737488355328) (hnm : nm.size ≤ 140737488355328) (hL : ∀ x ∈ L, x.size ≤ 140737488355328) (hT : Tabs w) (hb : fndB L sh = true) :
    Calls Tryd.prog 13 #[.slice ao L.length cap, .agg #[.int .i64 2, .string sh, .int .i64 At, .int .i64 N, .string nm]] w fun e w' => e = .returned (.int .i64 (spnF At N 1048576)) ∧ Fr noB w w' := by
  have HF : Hid (∀ W, Fr noB w W → Calls Tryd.prog 10 #[.slice ao L.length cap, .string sh] W fun e w' => e = .returned (.tuple #[.int .i64 (fndN L sh : Int), .bool true]) ∧ Fr noB W w') := fun W hF => by have := rfind_any ao cap L sh W (h.keep hF) hl hsh hL; rw [hb] at this; exact this
  have HG : Hid (∀ W, Fr noB w W → Calls Tryd.prog 10 #[.slice ao L.length cap, .string nm] W fun e w' => e = .returned (.tuple #[.int .i64 (fndN L nm : Int), .bool (fndB L nm)]) ∧ Fr noB W w') := fun W hF => rfind_any ao cap L nm W (h.keep hF) hl hnm hL
  have HS : Hid (∀ W, Fr noB w W → Calls Tryd.prog 33 #[.string nm] W fun e w' => e = .returned (.bool (shtF nm)) ∧ Fr noB W w') := fun W hF => rsheetName_any nm W hnm (hT.keep hF)
  have HX := x_laid w 2 sh At N nm
  have HZ := fr_alloc w (.cells #[.int .i64 2, .string sh, .int .i64 At, .int .i64 N, .string nm] 24 (0, 0))
  have a0 := HX.c0; have a1 := HX.c1; have a2 := HX.c2; have a3 := HX.c3; have a4 := HX.c4
  have HXZ : Hid _ := And.intro HX HZ
  clear h hl HX HZ hsh hnm hL hT
  clear hb
  have HP := rspan_any 2 sh At N nm 1048576
  generalize spnF At N 1048576 = sv at *
  generalize fndB L nm = bn at *
  generalize fndN L sh = i at *
  generalize fndN L nm = j at *
  generalize L.length = l at *
  go_enter Tryd.func13, Tryd.ntmps13
  go_wp2_with (first
    | (go_at_call 10; (with_reducible refine (HF.out _ HXZ.out.2).mono ?_); rintro e w1 ⟨rfl, hF1⟩; have b0 := (HXZ.out.1.fr hF1).c0; have b1 := (HXZ.out.1.fr hF1).c1; have b2 := (HXZ.out.1.fr hF1).c2; have b3 := (HXZ.out.1.fr hF1).c3; have b4 := (HXZ.out.1.fr hF1).c4; have hG1 := HXZ.out.2.trans hF1)
    | (go_at_call 10; (with_reducible refine (HG.out _ hG1).mono ?_); rintro e w2 ⟨rfl, hF2⟩; have d0 := (HXZ.out.1.fr (hF1.trans hF2)).c0; have d1 := (HXZ.out.1.fr (hF1.trans hF2)).c1; have d2 := (HXZ.out.1.fr (hF1.trans hF2)).c2; have d3 := (HXZ.out.1.fr (hF1.trans hF2)).c3; have d4 := (HXZ.out.1.fr (hF1.trans hF2)).c4; have hG2 := hG1.trans hF2)
    | (go_at_call 32; refine (HP _ (by omega) (by omega)).mono ?_; rintro e w3 ⟨rfl, hF3⟩))
  go_ret
  exact ⟨rfl, hG2.trans hF3⟩
set_option maxRecDepth 100000 in
set_option maxHeartbeats 1000000 in
theorem rck_band3 (ao : Option Addr) (cap : Nat) (L : List ByteArray) (sh : ByteArray) (At N : Int) (nm : ByteArray) (w : World) (h : SsAt w ao L) (hl : L.length ≤ 140737488355328) (hsh : sh.size ≤ 140737488355328) (hnm : nm.size ≤ 140737488355328) (hL : ∀ x ∈ L, x.size ≤ 140737488355328) (hT : Tabs w) (hb : fndB L sh = true) :
    Calls Tryd.prog 13 #[.slice ao L.length cap, .agg #[.int .i64 3, .string sh, .int .i64 At, .int .i64 N, .string nm]] w fun e w' => e = .returned (.int .i64 (spnF At N 1024)) ∧ Fr noB w w' := by
  have HF : Hid (∀ W, Fr noB w W → Calls Tryd.prog 10 #[.slice ao L.length cap, .string sh] W fun e w' => e = .returned (.tuple #[.int .i64 (fndN L sh : Int), .bool true]) ∧ Fr noB W w') := fun W hF => by have := rfind_any ao cap L sh W (h.keep hF) hl hsh hL; rw [hb] at this; exact this
  have HG : Hid (∀ W, Fr noB w W → Calls Tryd.prog 10 #[.slice ao L.length cap, .string nm] W fun e w' => e = .returned (.tuple #[.int .i64 (fndN L nm : Int), .bool (fndB L nm)]) ∧ Fr noB W w') := fun W hF => rfind_any ao cap L nm W (h.keep hF) hl hnm hL
  have HS : Hid (∀ W, Fr noB w W → Calls Tryd.prog 33 #[.string nm] W fun e w' => e = .returned (.bool (shtF nm)) ∧ Fr noB W w') := fun W hF => rsheetName_any nm W hnm (hT.keep hF)
  have HX := x_laid w 3 sh At N nm
  have HZ := fr_alloc w (.cells #[.int .i64 3, .string sh, .int .i64 At, .int .i64 N, .string nm] 24 (0, 0))
  have a0 := HX.c0; have a1 := HX.c1; have a2 := HX.c2; have a3 := HX.c3; have a4 := HX.c4
  have HXZ : Hid _ := And.intro HX HZ
  clear h hl HX HZ hsh hnm hL hT
  clear hb
  have HP := rspan_any 3 sh At N nm 1024
  generalize spnF At N 1024 = sv at *
  generalize fndB L nm = bn at *
  generalize fndN L sh = i at *
  generalize fndN L nm = j at *
  generalize L.length = l at *
  go_enter Tryd.func13, Tryd.ntmps13
  go_wp2_with (first
    | (go_at_call 10; (with_reducible refine (HF.out _ HXZ.out.2).mono ?_); rintro e w1 ⟨rfl, hF1⟩; have b0 := (HXZ.out.1.fr hF1).c0; have b1 := (HXZ.out.1.fr hF1).c1; have b2 := (HXZ.out.1.fr hF1).c2; have b3 := (HXZ.out.1.fr hF1).c3; have b4 := (HXZ.out.1.fr hF1).c4; have hG1 := HXZ.out.2.trans hF1)
    | (go_at_call 10; (with_reducible refine (HG.out _ hG1).mono ?_); rintro e w2 ⟨rfl, hF2⟩; have d0 := (HXZ.out.1.fr (hF1.trans hF2)).c0; have d1 := (HXZ.out.1.fr (hF1.trans hF2)).c1; have d2 := (HXZ.out.1.fr (hF1.trans hF2)).c2; have d3 := (HXZ.out.1.fr (hF1.trans hF2)).c3; have d4 := (HXZ.out.1.fr (hF1.trans hF2)).c4; have hG2 := hG1.trans hF2)
    | (go_at_call 32; refine (HP _ (by omega) (by omega)).mono ?_; rintro e w3 ⟨rfl, hF3⟩))
  go_ret
  exact ⟨rfl, hG2.trans hF3⟩
set_option maxRecDepth 100000 in
set_option maxHeartbeats 1000000 in
theorem rck_band4 (ao : Option Addr) (cap : Nat) (L : List ByteArray) (sh : ByteArray) (At N : Int) (nm : ByteArray) (w : World) (h : SsAt w ao L) (hl : L.length ≤ 140737488355328) (hsh : sh.size ≤ 140737488355328) (hnm : nm.size ≤ 140737488355328) (hL : ∀ x ∈ L, x.size ≤ 140737488355328) (hT : Tabs w) (hb : fndB L sh = true) :
    Calls Tryd.prog 13 #[.slice ao L.length cap, .agg #[.int .i64 4, .string sh, .int .i64 At, .int .i64 N, .string nm]] w fun e w' => e = .returned (.int .i64 (spnF At N 1024)) ∧ Fr noB w w' := by
  have HF : Hid (∀ W, Fr noB w W → Calls Tryd.prog 10 #[.slice ao L.length cap, .string sh] W fun e w' => e = .returned (.tuple #[.int .i64 (fndN L sh : Int), .bool true]) ∧ Fr noB W w') := fun W hF => by have := rfind_any ao cap L sh W (h.keep hF) hl hsh hL; rw [hb] at this; exact this
  have HG : Hid (∀ W, Fr noB w W → Calls Tryd.prog 10 #[.slice ao L.length cap, .string nm] W fun e w' => e = .returned (.tuple #[.int .i64 (fndN L nm : Int), .bool (fndB L nm)]) ∧ Fr noB W w') := fun W hF => rfind_any ao cap L nm W (h.keep hF) hl hnm hL
  have HS : Hid (∀ W, Fr noB w W → Calls Tryd.prog 33 #[.string nm] W fun e w' => e = .returned (.bool (shtF nm)) ∧ Fr noB W w') := fun W hF => rsheetName_any nm W hnm (hT.keep hF)
  have HX := x_laid w 4 sh At N nm
  have HZ := fr_alloc w (.cells #[.int .i64 4, .string sh, .int .i64 At, .int .i64 N, .string nm] 24 (0, 0))
  have a0 := HX.c0; have a1 := HX.c1; have a2 := HX.c2; have a3 := HX.c3; have a4 := HX.c4
  have HXZ : Hid _ := And.intro HX HZ
  clear h hl HX HZ hsh hnm hL hT
  clear hb
  have HP := rspan_any 4 sh At N nm 1024
  generalize spnF At N 1024 = sv at *
  generalize fndB L nm = bn at *
  generalize fndN L sh = i at *
  generalize fndN L nm = j at *
  generalize L.length = l at *
  go_enter Tryd.func13, Tryd.ntmps13
  go_wp2_with (first
    | (go_at_call 10; (with_reducible refine (HF.out _ HXZ.out.2).mono ?_); rintro e w1 ⟨rfl, hF1⟩; have b0 := (HXZ.out.1.fr hF1).c0; have b1 := (HXZ.out.1.fr hF1).c1; have b2 := (HXZ.out.1.fr hF1).c2; have b3 := (HXZ.out.1.fr hF1).c3; have b4 := (HXZ.out.1.fr hF1).c4; have hG1 := HXZ.out.2.trans hF1)
    | (go_at_call 10; (with_reducible refine (HG.out _ hG1).mono ?_); rintro e w2 ⟨rfl, hF2⟩; have d0 := (HXZ.out.1.fr (hF1.trans hF2)).c0; have d1 := (HXZ.out.1.fr (hF1.trans hF2)).c1; have d2 := (HXZ.out.1.fr (hF1.trans hF2)).c2; have d3 := (HXZ.out.1.fr (hF1.trans hF2)).c3; have d4 := (HXZ.out.1.fr (hF1.trans hF2)).c4; have hG2 := hG1.trans hF2)
    | (go_at_call 32; refine (HP _ (by omega) (by omega)).mono ?_; rintro e w3 ⟨rfl, hF3⟩))
  go_ret
  exact ⟨rfl, hG2.trans hF3⟩
/-- Check of the document. -/
theorem rck_all (ao : Option Addr) (cap : Nat) (L : List ByteArray) (K : Int) (sh : ByteArray) (At N : Int) (nm : ByteArray) (w : World) (h : SsAt w ao L) (hl : L.length ≤ 140737488355328) (hsh : sh.size ≤ 140737488355328) (hnm : nm.size ≤ 140737488355328) (hL : ∀ x ∈ L, x.size ≤ 140737488355328) (hT : Tabs w) :
    Calls Tryd.prog 13 #[.slice ao L.length cap, .agg #[.int .i64 K, .string sh, .int .i64 At, .int .i64 N, .string nm]] w fun e w' => e = .returned (.int .i64 (chkS L K sh At N nm)) ∧ Fr noB w w' := by
  unfold chkS
  by_cases k0 : K < 1 ∨ 8 < K
  · rw [if_pos k0]; exact rck_out ao cap _ K sh At N nm w k0
  rw [if_neg k0]
  by_cases k5 : K = 5
  · subst k5; rw [if_pos rfl]; exact rck_new ao cap L sh At N nm w h hl hsh hnm hL hT
  rw [if_neg k5]
  cases hb : fndB L sh with
  | false => rw [if_pos rfl]; exact rck_none ao cap L K sh At N nm w h hl hsh hnm hL hT (by omega) (by omega) k5 hb
  | true =>
    rw [if_neg (by simp)]
    have e : K = 1 ∨ K = 2 ∨ K = 3 ∨ K = 4 ∨ K = 6 ∨ K = 7 ∨ K = 8 := by omega
    rcases e with rfl | rfl | rfl | rfl | rfl | rfl | rfl
    · exact rck_band1 ao cap L sh At N nm w h hl hsh hnm hL hT hb
    · exact rck_band2 ao cap L sh At N nm w h hl hsh hnm hL hT hb
    · exact rck_band3 ao cap L sh At N nm w h hl hsh hnm hL hT hb
    · exact rck_band4 ao cap L sh At N nm w h hl hsh hnm hL hT hb
    · exact rck_del ao cap L sh At N nm w h hl hsh hnm hL hT hb
    · exact rck_move ao cap L sh At N nm w h hl hsh hnm hL hT hb
    · exact rck_name ao cap L sh At N nm w h hl hsh hnm hL hT hb
#print axioms rck_all
end Go.Proofs.YthokhnbecgkpbaaDoor
