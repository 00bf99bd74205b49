/- Numbers of references: the document's side. -/
import Derived.Test.YtpefadblmgcpcaaDoorCEsR
namespace Go.Proofs.YtpefadblmgcpcaaDoor
open Go.RowKit Go.Shelf

/-- A digit's value to a base, or -1. -/
def digF (x : Nat) (base : Int) : Int := if worthF (x : Int) < base then worthF (x : Int) else -1
theorem worthF_dec (x : Nat) (h : 48 ≤ x ∧ x ≤ 57) : worthF (x : Int) = (x : Int) - 48 := by unfold worthF btw; simp; omega
theorem worthF_low (x : Nat) (h : 97 ≤ x ∧ x ≤ 102) : worthF (x : Int) = (x : Int) - 87 := by
  unfold worthF btw
  simp
  rw [if_neg (by omega), if_pos (by omega)]
  omega
theorem worthF_up (x : Nat) (h : 65 ≤ x ∧ x ≤ 70) : worthF (x : Int) = (x : Int) - 55 := by
  unfold worthF btw
  simp
  rw [if_neg (by omega), if_neg (by omega), if_pos (by omega)]
  omega
theorem worthF_no (x : Nat) (h : ¬ (48 ≤ x ∧ x ≤ 57) ∧ ¬ (97 ≤ x ∧ x ≤ 102) ∧ ¬ (65 ≤ x ∧ x ≤ 70)) : worthF (x : Int) = 16 := by
  unfold worthF btw
  simp
  rw [if_neg (by omega), if_neg (by omega), if_neg (by omega)]
set_option maxRecDepth 100000 in
set_option maxHeartbeats 1000000 in
theorem digit_any (x : Nat) (base : Int) (hx : x < 256) (hb : base = 10 ∨ base = 16) (w : World) : Calls Tryd.prog 73 #[.int .u8 (x : Int), .int .i64 base] w fun e w' => e = .returned (.int .i64 (digF x base)) ∧ w' = w := by
  obtain ⟨D, hD⟩ : ∃ D, digF x base = D := ⟨_, rfl⟩
  rw [hD]
  unfold digF at hD
  by_cases h1 : 48 ≤ x ∧ x ≤ 57
  · rw [worthF_dec x h1] at hD
    have HD : Hid _ := hD
    clear hD
    obtain ⟨h1a, h1b⟩ := h1
    rcases hb with rfl | rfl
    all_goals
      go_enter Tryd.func73, Tryd.ntmps73
      go_wp2_with fail
    all_goals
      go_ret
      exact ⟨ret_int (by have := HD.out; split at this <;> omega), rfl⟩
  by_cases h2 : 97 ≤ x ∧ x ≤ 102
  · rw [worthF_low x h2] at hD
    have HD : Hid _ := hD
    clear hD h1
    obtain ⟨h2a, h2b⟩ := h2
    rcases hb with rfl | rfl
    all_goals
      go_enter Tryd.func73, Tryd.ntmps73
      go_wp2_with fail
    all_goals
      go_ret
      exact ⟨ret_int (by have := HD.out; split at this <;> omega), rfl⟩
  by_cases h3 : 65 ≤ x ∧ x ≤ 70
  · rw [worthF_up x h3] at hD
    have HD : Hid _ := hD
    clear hD h1 h2
    obtain ⟨h3a, h3b⟩ := h3
    rcases hb with rfl | rfl
    all_goals
      go_enter Tryd.func73, Tryd.ntmps73
      go_wp2_with fail
    all_goals
      go_ret
      exact ⟨ret_int (by have := HD.out; split at this <;> omega), rfl⟩
  · rw [worthF_no x ⟨h1, h2, h3⟩] at hD
    have HD : Hid _ := hD
    have H1 : Hid (¬ (48 ≤ x ∧ x ≤ 57)) := h1
    have H2 : Hid (¬ (97 ≤ x ∧ x ≤ 102)) := h2
    have H3 : Hid (¬ (65 ≤ x ∧ x ≤ 70)) := h3
    clear hD h1 h2 h3
    rcases hb with rfl | rfl
    all_goals
      go_enter Tryd.func73, Tryd.ntmps73
      go_wp2_with fail
    all_goals
      go_ret
      exact ⟨ret_int (by have e := HD.out; have := H1.out; have := H2.out; have := H3.out; split at e <;> omega), rfl⟩
/-- As many digits as there are. -/
def scanG (S : ByteArray) (base : Int) : Nat → Nat → Int → Nat × Int
  | 0, at', n => (at', n)
  | f + 1, at', n => if at' < S.size ∧ 0 ≤ digF (S.get! at').toNat base then scanG S base f (at' + 1) (min (n * base + digF (S.get! at').toNat base) 1114112) else (at', n)
def scanF (S : ByteArray) (base : Int) (at' : Nat) (n : Int) : Nat × Int := scanG S base (S.size - at') at' n
theorem scanF_stop (S : ByteArray) (base : Int) (at' : Nat) (n : Int) (h : ¬ (at' < S.size ∧ 0 ≤ digF (S.get! at').toNat base)) : scanF S base at' n = (at', n) := by
  unfold scanF
  cases S.size - at' with
  | zero => rfl
  | succ f => rw [scanG, if_neg h]
theorem scanF_step (S : ByteArray) (base : Int) (at' : Nat) (n : Int) (h : at' < S.size ∧ 0 ≤ digF (S.get! at').toNat base) : scanF S base at' n = scanF S base (at' + 1) (min (n * base + digF (S.get! at').toNat base) 1114112) := by
  unfold scanF
  obtain ⟨f, hf⟩ : ∃ f, S.size - at' = f + 1 := ⟨S.size - at' - 1, by omega⟩
  rw [hf, scanG, if_pos h, show S.size - (at' + 1) = f by omega]
/-- The base, and where the digits begin. -/
def basF (S : ByteArray) : Int × Nat := if S.size ≠ 0 ∧ (S.get! 0).toNat = 120 then (16, 1) else (10, 0)
/-- What a number says, how many bytes it has, is it one? -/
def nbF (S : ByteArray) : ByteArray × Int × Bool :=
  if (scanF S (basF S).1 (basF S).2 0).1 = (basF S).2 ∨ ¬ (scanF S (basF S).1 (basF S).2 0).1 < S.size ∨ (S.get! (scanF S (basF S).1 (basF S).2 0).1).toNat ≠ 59 ∨ charF (scanF S (basF S).1 (basF S).2 0).2 = false then (⟨#[]⟩, 0, false)
  else (Utf8.encode (scanF S (basF S).1 (basF S).2 0).2, ((scanF S (basF S).1 (basF S).2 0).1 : Int) + 1, true)
theorem digF_le (x : Nat) (base : Int) (hb : base ≤ 16) : digF x base ≤ 15 := by unfold digF; split <;> omega
#print axioms digit_any
end Go.Proofs.YtpefadblmgcpcaaDoor
