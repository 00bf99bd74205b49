/- The small functions of numfmt: their contracts. -/
import Derived.Test.YtnklmcmdlobicaaGreatDoorXPad
import Derived.Test.YtnklmcmdlobicaaGreatDoorFBld
import Derived.Lib.DecodeN
namespace Go.Proofs.YtnklmcmdlobicaaGreatDoor
open Go.RowKit Ieee Go.Shelf

set_option maxRecDepth 100000 in
theorem within_any (n a b : Int) (w : World) : Calls Tryz.prog 38 #[.int .i64 n, .int .i64 a, .int .i64 b] w fun e w' => e = .returned (.bool (decide (a ≤ n ∧ n ≤ b))) ∧ w' = w := by
  by_cases h1 : a ≤ n
  · by_cases h2 : n ≤ b
    · rw [decide_eq_true (show a ≤ n ∧ n ≤ b from ⟨h1, h2⟩)]
      go_enter Tryz.func38, Tryz.ntmps38
      go_wp2_with fail
      go_ret
      exact ⟨by first | rfl | simp, rfl⟩
    · rw [decide_eq_false (show ¬ (a ≤ n ∧ n ≤ b) from fun h => h2 h.2)]
      go_enter Tryz.func38, Tryz.ntmps38
      go_wp2_with fail
      go_ret
      exact ⟨by first | rfl | simp, rfl⟩
  · have h1' : decide (a ≤ n) = false := decide_eq_false h1
    rw [decide_eq_false (show ¬ (a ≤ n ∧ n ≤ b) from fun h => h1 h.1)]
    go_enter Tryz.func38, Tryz.ntmps38
    go_wp2_with fail
    go_ret
    exact ⟨by first | rfl | simp, rfl⟩
/-- Which digits and places Number takes. -/
def nfB (l p : Int) : Bool := decide (0 ≤ l ∧ l ≤ 20) && decide (0 ≤ p ∧ p ≤ 15)
set_option maxRecDepth 100000 in
theorem numberFits_any (l p : Int) (w : World) : Calls Tryz.prog 13 #[.int .i64 l, .int .i64 p] w fun e w' => e = .returned (.bool (nfB l p)) ∧ w' = w := by
  have H1 := within_any l 0 20
  have H2 := within_any p 0 15
  unfold nfB
  cases hb : decide (0 ≤ l ∧ l ≤ 20) with
  | true =>
    rw [hb] at H1
    generalize decide (0 ≤ p ∧ p ≤ 15) = b2 at *
    clear hb
    go_enter Tryz.func13, Tryz.ntmps13
    go_wp2_with (go_at_call 38; first | (with_reducible refine (H1 _).mono ?_; rintro e w1 ⟨rfl, h1⟩; subst h1) | (with_reducible refine (H2 _).mono ?_; rintro e w1 ⟨rfl, h1⟩; subst h1))
    go_ret
    exact ⟨by simp, rfl⟩
  | false =>
    rw [hb] at H1
    generalize decide (0 ≤ p ∧ p ≤ 15) = b2 at *
    clear hb
    go_enter Tryz.func13, Tryz.ntmps13
    go_wp2_with (go_at_call 38; first | (with_reducible refine (H1 _).mono ?_; rintro e w1 ⟨rfl, h1⟩; subst h1) | (with_reducible refine (H2 _).mono ?_; rintro e w1 ⟨rfl, h1⟩; subst h1))
    go_ret
    exact ⟨by simp, rfl⟩
set_option maxRecDepth 100000 in
theorem fpointed_any (A B : List UInt8) (hA : A.length ≤ 2000) (hB : B.length ≤ 2000) (w : World) : Calls Tryz.prog 20 #[.string (baL A), .string (baL B)] w fun e w' => e = .returned (.string (baL (if B.isEmpty = true then A else A ++ 46 :: B))) ∧ w' = w := by
  have hap := baL_append
  have c46 : (⟨#[46]⟩ : ByteArray) = baL [46] := rfl
  have he := baL_empty B
  cases hb : B.isEmpty with
  | true =>
    rw [hb] at he
    rw [if_pos rfl]
    generalize baL B = BB at *
    clear hap c46 hb
    generalize baL A = AA at *
    go_enter Tryz.func20, Tryz.ntmps20
    go_wp2_with fail
    go_ret
    exact ⟨rfl, rfl⟩
  | false =>
    rw [hb] at he
    rw [if_neg (by simp)]
    have h1 : baL A ++ ⟨#[46]⟩ = baL (A ++ [46]) := hap A [46]
    have h2 : baL (A ++ [46]) ++ baL B = baL (A ++ 46 :: B) := by rw [hap]; simp
    have z1 : (baL A).size ≤ 2000 := by rw [baL_size]; exact hA
    have z2 : (baL B).size ≤ 2000 := by rw [baL_size]; exact hB
    have z3 : (baL (A ++ [46])).size ≤ 2001 := by rw [baL_size]; simp; exact hA
    generalize baL B = BB at *
    generalize baL A = AA at *
    generalize baL (A ++ [46]) = A2 at *
    generalize baL (A ++ 46 :: B) = R at *
    clear hap c46 hb
    go_enter Tryz.func20, Tryz.ntmps20
    go_wp2_with fail
    go_ret
    exact ⟨rfl, rfl⟩
set_option maxRecDepth 100000 in
theorem fsigned_any (b : Bool) (s : ByteArray) (hs : s.size ≤ 5000) (w : World) : Calls Tryz.prog 19 #[.bool b, .string s] w fun e w' => e = .returned (.string (if b = true then ⟨#[45]⟩ ++ s else s)) ∧ w' = w := by
  cases b
  all_goals
    go_enter Tryz.func19, Tryz.ntmps19
    go_wp2_with fail
    go_ret
    exact ⟨rfl, rfl⟩
set_option maxRecDepth 100000 in
theorem fpadded_any (L : List UInt8) (least : Nat) (hL : L.length ≤ 1000) (hl : least ≤ 100) (w : World) : Calls Tryz.prog 17 #[.string (baL L), .int .i64 (least : Int)] w fun e w' => e = .returned (.string (baL (List.replicate (least - L.length) 48 ++ L))) ∧ Fr noB w w' := by
  have HR := repeat_any (least - L.length) (by omega)
  obtain ⟨c, hc⟩ : ∃ c, least - L.length = c := ⟨_, rfl⟩
  rw [hc] at HR ⊢
  obtain ⟨n, hn⟩ : ∃ n, L.length = n := ⟨_, rfl⟩
  have hsz : (baL L).size = n := by rw [baL_size]; exact hn
  have hap : baL (List.replicate c 48) ++ baL L = baL (List.replicate c 48 ++ L) := baL_append _ _
  have hrz : (baL (List.replicate c 48)).size ≤ 100 := by rw [baL_size]; simp; omega
  obtain ⟨dd, hdd⟩ : ∃ dd : Int, (least : Int) - (n : Int) = dd := ⟨_, rfl⟩
  have hmx : max (0 : Int) dd = (c : Int) := by omega
  have hnb : n ≤ 1000 := by omega
  generalize baL (List.replicate c 48 ++ L) = R at *
  generalize baL (List.replicate c 48) = Z at *
  generalize baL L = B at *
  clear hc hn hL
  go_enter Tryz.func17, Tryz.ntmps17
  go_wp2_with (go_at_call 46; with_reducible refine (HR _).mono ?_; rintro e w1 ⟨rfl, hF⟩)
  go_ret
  exact ⟨rfl, hF⟩
/-- Digits with commas: n in all, the first of the list at place k. -/
def grpA (n : Nat) : Nat → List UInt8 → List UInt8
  | _, [] => []
  | k, b :: t => (if 0 < k ∧ (n - k) % 3 = 0 then [44, b] else [b]) ++ grpA n (k + 1) t
def grpL (D : List UInt8) : List UInt8 := grpA D.length 0 D
theorem grpA_len (n : Nat) : ∀ (D : List UInt8) (k : Nat), (grpA n k D).length ≤ 2 * D.length
  | [], k => by simp [grpA]
  | b :: t, k => by
    have := grpA_len n t (k + 1)
    unfold grpA
    split <;> simp <;> omega
theorem dec_asc (s : ByteArray) (p : Nat) (h : (s.get! p).toNat < 128) : Utf8.decode s p = ((s.get! p).toNat, 1) := by
  rw [Lib.decode_at]
  unfold Lib.decodeN
  rw [if_pos h]
theorem byteCells_snoc (A : List UInt8) (c : Nat) (hc : c < 256) : Lib.byteCells A ++ [.int .u8 (c : Int)] = Lib.byteCells (A ++ [UInt8.ofNat c]) := by
  rw [Lib.byteCells_append]
  congr 1
  simp [Lib.byteCells]
  omega
theorem runeCells_asc (c : Nat) (hc : c < 128) : Lib.runeCells (c : Int) = [.int .u8 (c : Int)] := by
  unfold Lib.runeCells Lib.encodeRuneZ
  rw [if_pos (by omega)]
  rfl
#print axioms fpadded_any
end Go.Proofs.YtnklmcmdlobicaaGreatDoor
