/- What is wrong with a shift: both sides. -/
import Derived.Test.YthokhnbecgkpbaaDoorHFnd
import Derived.Test.YthokhnbecgkpbaaDoorRRfN
namespace Go.Proofs.YthokhnbecgkpbaaDoor
open Go.RowKit

/-- A shift lies in a block. -/
structure XAt (w : World) (B : Nat) (K : Int) (sh : ByteArray) (At N : Int) (nm : ByteArray) : Prop where
  o : w.heap[B]? = some (.cells #[.int .i64 K, .string sh, .int .i64 At, .int .i64 N, .string nm] 24 (0, 0))
theorem XAt.fr {w w' : World} {B : Nat} {K : Int} {sh : ByteArray} {At N : Int} {nm : ByteArray} (h : XAt w B K sh At N nm) (hF : Fr noB w w') : XAt w' B K sh At N nm := ⟨hF.obj h.o id⟩
theorem XAt.c0 {w : World} {B : Nat} {K : Int} {sh : ByteArray} {At N : Int} {nm : ByteArray} (h : XAt w B K sh At N nm) : w.cell? ⟨B, 0, none⟩ = some (.int .i64 K) := cellOf (o := 0) h.o rfl
theorem XAt.c1 {w : World} {B : Nat} {K : Int} {sh : ByteArray} {At N : Int} {nm : ByteArray} (h : XAt w B K sh At N nm) : w.cell? ⟨B, 1, none⟩ = some (.string sh) := cellOf (o := 1) h.o rfl
theorem XAt.c2 {w : World} {B : Nat} {K : Int} {sh : ByteArray} {At N : Int} {nm : ByteArray} (h : XAt w B K sh At N nm) : w.cell? ⟨B, 2, none⟩ = some (.int .i64 At) := cellOf (o := 2) h.o rfl
theorem XAt.c3 {w : World} {B : Nat} {K : Int} {sh : ByteArray} {At N : Int} {nm : ByteArray} (h : XAt w B K sh At N nm) : w.cell? ⟨B, 3, none⟩ = some (.int .i64 N) := cellOf (o := 3) h.o rfl
theorem XAt.c4 {w : World} {B : Nat} {K : Int} {sh : ByteArray} {At N : Int} {nm : ByteArray} (h : XAt w B K sh At N nm) : w.cell? ⟨B, 4, none⟩ = some (.string nm) := cellOf (o := 4) h.o rfl
theorem x_laid (w : World) (K : Int) (sh : ByteArray) (At N : Int) (nm : ByteArray) : XAt (w.alloc (.cells #[.int .i64 K, .string sh, .int .i64 At, .int .i64 N, .string nm] 24 (0, 0))) w.heap.size K sh At N nm := ⟨heap_alloc_new w _⟩
theorem fr_alloc (w : World) (o : Obj) : Fr noB w (w.alloc o) := (Fr.refl noB w).alloc o

/-- Rows or columns that come or go. -/
def spnF (At N most : Int) : Int := if 1 ≤ N ∧ 0 ≤ At ∧ At + N ≤ most then 0 else 150
def limF (K : Int) : Int := if K ≤ 2 then 1048576 else 1024
def newF (L : List ByteArray) (At : Int) (nm : ByteArray) : Int := if At < 0 ∨ (L.length : Int) < At ∨ shtF nm = false then 150 else if fndB L nm = true then 5 else if 32 ≤ L.length then 151 else 0
def namF (L : List ByteArray) (sh nm : ByteArray) : Int := if shtF nm = false then 150 else if fndB L nm = true ∧ ¬ fndN L nm = fndN L sh then 5 else 0
def chkS (L : List ByteArray) (K : Int) (sh : ByteArray) (At N : Int) (nm : ByteArray) : Int :=
  if K < 1 ∨ 8 < K then 150 else if K = 5 then newF L At nm else if fndB L sh = false then 4 else if K = 6 then (if L.length = 1 then 151 else 0)
  else if K = 7 then (if 0 ≤ At ∧ At < (L.length : Int) then 0 else 150) else if K = 8 then namF L sh nm else spnF At N (limF K)
set_option maxRecDepth 100000 in
theorem told_any (b : Bool) (n : Int) (w : World) : Calls Tryd.prog 28 #[.bool b, .int .i64 n] w fun e w' => e = .returned (.int .i64 (if b = true then n else 0)) ∧ w' = w := by
  cases b <;>
  · go_enter Tryd.func28, Tryd.ntmps28
    go_wp2_with fail
    go_ret
    exact ⟨rfl, rfl⟩
theorem ret_int_h {a b : Int} (h : a = b) : Ending.returned (.int .i64 a) = .returned (.int .i64 b) := by rw [h]
set_option maxRecDepth 100000 in
set_option maxHeartbeats 1000000 in
theorem checkName_any (ao : Option Addr) (cap : Nat) (L : List ByteArray) (sh nm : ByteArray) (w : World) (h : SsAt w ao L) (hl : L.length ≤ 140737488355328) :
    Calls Tryd.prog 29 #[.slice ao L.length cap, .int .i64 (fndN L sh : Int), .string nm] w fun e w' => e = .returned (.int .i64 (namF L sh nm)) ∧ Fr noB w w' := by
  have HS := sheetName_any nm
  have HF : Hid (∀ W, Fr noB w W → Calls Tryd.prog 9 #[.slice ao L.length cap, .string nm] W fun e w' => e = .returned (.tuple #[.int .i64 (fndN L nm : Int), .bool (fndB L nm)]) ∧ Fr noB W w') := fun W hF => find_any ao cap L nm W (h.keep hF) hl
  have HT := told_any
  unfold namF
  generalize fndN L nm = i at *
  generalize fndN L sh = k at *
  generalize fndB L nm = B at *
  generalize L.length = l at *
  clear h hl
  cases hs : shtF nm with
  | false =>
    rw [hs] at HS
    rw [if_pos rfl]
    go_enter Tryd.func29, Tryd.ntmps29
    go_wp2_with (go_at_call 46; refine (HS _).mono ?_; rintro e w1 ⟨rfl, hF1⟩)
    go_ret
    exact ⟨rfl, hF1⟩
  | true =>
    rw [hs] at HS
    rw [if_neg (by simp)]
    cases B with
    | false =>
      rw [if_neg (by simp)]
      go_enter Tryd.func29, Tryd.ntmps29
      go_wp2_with (first
        | (go_at_call 46; refine (HS _).mono ?_; rintro e w1 ⟨rfl, hF1⟩)
        | (go_at_call 9; refine (HF.out _ hF1).mono ?_; rintro e w2 ⟨rfl, hF2⟩)
        | (go_at_call 28; refine (HT _ _ _).mono ?_; rintro e w3 ⟨rfl, rfl⟩))
      go_ret
      exact ⟨rfl, hF1.trans hF2⟩
    | true =>
      by_cases hik : i = k
      · subst hik
        rw [if_neg (by simp)]
        go_enter Tryd.func29, Tryd.ntmps29
        go_wp2_with (first
          | (go_at_call 46; refine (HS _).mono ?_; rintro e w1 ⟨rfl, hF1⟩)
          | (go_at_call 9; refine (HF.out _ hF1).mono ?_; rintro e w2 ⟨rfl, hF2⟩)
          | (go_at_call 28; refine (HT _ _ _).mono ?_; rintro e w3 ⟨rfl, rfl⟩))
        go_ret
        exact ⟨ret_int_h (by simp), hF1.trans hF2⟩
      · rw [if_pos ⟨rfl, hik⟩]
        have e1 : ((i : Int) != (k : Int)) = true := by simp; omega
        clear hik
        go_enter Tryd.func29, Tryd.ntmps29
        go_wp2_with (first
          | (go_at_call 46; refine (HS _).mono ?_; rintro e w1 ⟨rfl, hF1⟩)
          | (go_at_call 9; refine (HF.out _ hF1).mono ?_; rintro e w2 ⟨rfl, hF2⟩)
          | (go_at_call 28; refine (HT _ _ _).mono ?_; rintro e w3 ⟨rfl, rfl⟩))
        go_ret
        exact ⟨ret_int_h (by simp), hF1.trans hF2⟩
set_option maxRecDepth 100000 in
set_option maxHeartbeats 1000000 in
theorem checkNew_any (ao : Option Addr) (cap : Nat) (L : List ByteArray) (K : Int) (sh : ByteArray) (At N : Int) (nm : ByteArray) (w : World) (h : SsAt w ao L) (hl : L.length ≤ 140737488355328) :
    Calls Tryd.prog 27 #[.slice ao L.length cap, .agg #[.int .i64 K, .string sh, .int .i64 At, .int .i64 N, .string nm]] w fun e w' => e = .returned (.int .i64 (newF L At nm)) ∧ Fr noB w w' := by
  have HS := sheetName_any nm
  have HF : Hid (∀ W, Fr noB w W → Calls Tryd.prog 9 #[.slice ao L.length cap, .string nm] W fun e w' => e = .returned (.tuple #[.int .i64 (fndN L nm : Int), .bool (fndB L nm)]) ∧ Fr noB W w') := fun W hF => find_any ao cap L nm W (h.keep hF) hl
  have HT := told_any
  have HX := x_laid w K sh At N nm
  have HZ := fr_alloc w (.cells #[.int .i64 K, .string sh, .int .i64 At, .int .i64 N, .string nm] 24 (0, 0))
  have a2 := HX.c2
  have a4 := HX.c4
  have HXZ : Hid _ := And.intro HX HZ
  unfold newF
  generalize fndN L nm = i at *
  generalize fndB L nm = B at *
  generalize L.length = l at *
  clear h hl HX HZ
  by_cases h1 : At < 0
  · rw [if_pos (Or.inl h1)]
    go_enter Tryd.func27, Tryd.ntmps27
    go_wp2_with fail
    go_ret
    exact ⟨rfl, HXZ.out.2⟩
  · by_cases h2 : (l : Int) < At
    · rw [if_pos (Or.inr (Or.inl h2))]
      go_enter Tryd.func27, Tryd.ntmps27
      go_wp2_with fail
      go_ret
      exact ⟨rfl, HXZ.out.2⟩
    · cases hs : shtF nm with
      | false =>
        rw [hs] at HS
        rw [if_pos (Or.inr (Or.inr rfl))]
        go_enter Tryd.func27, Tryd.ntmps27
        go_wp2_with (go_at_call 46; refine (HS _).mono ?_; rintro e w1 ⟨rfl, hF1⟩)
        go_ret
        exact ⟨rfl, HXZ.out.2.trans hF1⟩
      | true =>
        rw [hs] at HS
        rw [if_neg (by simp; omega)]
        cases B with
        | true =>
          rw [if_pos rfl]
          go_enter Tryd.func27, Tryd.ntmps27
          go_wp2_with (first
            | (go_at_call 46; refine (HS _).mono ?_; rintro e w1 ⟨rfl, hF1⟩; have b4 := (HXZ.out.1.fr hF1).c4; have hG := HXZ.out.2.trans hF1)
            | (go_at_call 9; refine (HF.out _ hG).mono ?_; rintro e w2 ⟨rfl, hF2⟩)
            | (go_at_call 28; refine (HT _ _ _).mono ?_; rintro e w3 ⟨rfl, rfl⟩))
          go_ret
          exact ⟨rfl, hG.trans hF2⟩
        | false =>
          rw [if_neg (by simp)]
          by_cases h32 : 32 ≤ l
          · have h33 : (32 : Int) ≤ (l : Int) := by omega
            rw [if_pos h32]
            clear h32
            go_enter Tryd.func27, Tryd.ntmps27
            go_wp2_with (first
              | (go_at_call 46; refine (HS _).mono ?_; rintro e w1 ⟨rfl, hF1⟩; have b4 := (HXZ.out.1.fr hF1).c4; have hG := HXZ.out.2.trans hF1)
              | (go_at_call 9; refine (HF.out _ hG).mono ?_; rintro e w2 ⟨rfl, hF2⟩)
              | (go_at_call 28; refine (HT _ _ _).mono ?_; rintro e w3 ⟨rfl, rfl⟩))
            go_ret
            exact ⟨ret_int_h (by simp), hG.trans hF2⟩
          · have h33 : ¬ (32 : Int) ≤ (l : Int) := by omega
            rw [if_neg h32]
            clear h32
            go_enter Tryd.func27, Tryd.ntmps27
            go_wp2_with (first
              | (go_at_call 46; refine (HS _).mono ?_; rintro e w1 ⟨rfl, hF1⟩; have b4 := (HXZ.out.1.fr hF1).c4; have hG := HXZ.out.2.trans hF1)
              | (go_at_call 9; refine (HF.out _ hG).mono ?_; rintro e w2 ⟨rfl, hF2⟩)
              | (go_at_call 28; refine (HT _ _ _).mono ?_; rintro e w3 ⟨rfl, rfl⟩))
            go_ret
            exact ⟨ret_int_h (by simp), hG.trans hF2⟩
end Go.Proofs.YthokhnbecgkpbaaDoor
