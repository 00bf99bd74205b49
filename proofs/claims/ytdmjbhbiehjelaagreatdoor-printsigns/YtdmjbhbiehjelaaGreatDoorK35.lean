/- Lexis' reader: look, peek, take, skip. -/
import Derived.Test.YtdmjbhbiehjelaaGreatDoorRRfV
import Derived.Test.YtdmjbhbiehjelaaGreatDoorLJmp
import Derived.BigQuiet
namespace Go.Proofs.YtdmjbhbiehjelaaGreatDoor
open Go.RowKit Go.Shelf

section
end
/-- The character that stands there, and how many bytes it has; behind the end -1 and 0. -/
def lkR (s : ByteArray) (p : Nat) : Int := if p < s.size then ((Utf8.decode s p).1 : Int) else -1
def lkN (s : ByteArray) (p : Nat) : Nat := if p < s.size then (Utf8.decode s p).2 else 0
theorem lkN_le (s : ByteArray) (p : Nat) (hp : p ≤ s.size) : p + lkN s p ≤ s.size := by
  unfold lkN
  split
  · rename_i h
    exact width_fits s p h
  · omega
theorem lx_to {Q : Exit → Act → World → Prop} {a : Act} {w : World} (b : Act) (h : a = b) (hq : Q .normal b w) : Q .normal a w := by
  rw [h]
  exact hq
/-- Behind the character, if it is of the kind. -/
def lkP (K : Int → Bool) (s : ByteArray) (p : Nat) : Nat := if K (lkR s p) = true then p + lkN s p else p
end Go.Proofs.YtdmjbhbiehjelaaGreatDoor
/- Lexis' kinds of characters. -/
namespace Go.Proofs.YtdmjbhbiehjelaaGreatDoor
open Go.RowKit Go.Shelf

theorem lret {a b : Bool} (h : a = b) : Ending.returned (.bool a) = .returned (.bool b) := by rw [h]
def dgI (r : Int) : Bool := decide (48 ≤ r) && decide (r ≤ 57)
def ptI (r : Int) : Bool := r == 46
def pwI (r : Int) : Bool := r == 69 || r == 101
def bgI (r : Int) : Bool := (decide (65 ≤ r) && decide (r ≤ 90)) || (decide (97 ≤ r) && decide (r ≤ 122)) || r == 95
def inI (r : Int) : Bool := bgI r || dgI r || ptI r
def spI (r : Int) : Bool := r == 32 || r == 9 || r == 13 || r == 10
set_option maxRecDepth 100000 in
theorem isDigit_lx (r : Int) (w : World) : Calls Tryz.prog 203 #[.int .i32 r] w fun e w' => e = .returned (.bool (dgI r)) ∧ w' = w := by
  by_cases h1 : 48 ≤ r
  · by_cases h2 : r ≤ 57
    all_goals
      go_enter Tryz.func203, Tryz.ntmps203
      go_wp2_with fail
      go_ret
      exact ⟨lret (by unfold dgI; simp; omega), rfl⟩
  · go_enter Tryz.func203, Tryz.ntmps203
    go_wp2_with fail
    go_ret
    exact ⟨lret (by unfold dgI; simp; omega), rfl⟩
set_option maxRecDepth 100000 in
theorem isPoint_lx (r : Int) (w : World) : Calls Tryz.prog 204 #[.int .i32 r] w fun e w' => e = .returned (.bool (ptI r)) ∧ w' = w := by
  go_enter Tryz.func204, Tryz.ntmps204
  go_wp2_with fail
  go_ret
  exact ⟨rfl, rfl⟩
set_option maxRecDepth 100000 in
set_option maxHeartbeats 1000000 in
theorem beginsName_lx (r : Int) (w : World) : Calls Tryz.prog 161 #[.int .i32 r] w fun e w' => e = .returned (.bool (bgI r)) ∧ w' = w := by
  by_cases h1 : 65 ≤ r <;> by_cases h2 : r ≤ 90 <;> by_cases h3 : 97 ≤ r <;> by_cases h4 : r ≤ 122
  all_goals first
    | (exfalso; omega)
    | (go_enter Tryz.func161, Tryz.ntmps161
       go_wp2_with fail
       go_ret
       exact ⟨lret (by unfold bgI; by_cases h5 : r = 95 <;> simp [h5] <;> omega), rfl⟩)
set_option maxRecDepth 100000 in
theorem inName_lx (r : Int) (w : World) : Calls Tryz.prog 162 #[.int .i32 r] w fun e w' => e = .returned (.bool (inI r)) ∧ w' = w := by
  have H1 := beginsName_lx r
  have H2 := isDigit_lx r
  have H3 := isPoint_lx r
  cases hb : bgI r with
  | true =>
    rw [hb] at H1
    go_enter Tryz.func162, Tryz.ntmps162
    go_wp2_with (go_at_call 161; refine (H1 _).mono ?_; rintro e w1 ⟨rfl, rfl⟩)
    go_ret
    exact ⟨lret (by unfold inI; simp [hb]), rfl⟩
  | false =>
    rw [hb] at H1
    cases hd : dgI r with
    | true =>
      rw [hd] at H2
      go_enter Tryz.func162, Tryz.ntmps162
      go_wp2_with (first | (go_at_call 161; refine (H1 _).mono ?_; rintro e w1 ⟨rfl, rfl⟩) | (go_at_call 203; refine (H2 _).mono ?_; rintro e w2 ⟨rfl, rfl⟩))
      go_ret
      exact ⟨lret (by unfold inI; simp [hb, hd]), rfl⟩
    | false =>
      rw [hd] at H2
      go_enter Tryz.func162, Tryz.ntmps162
      go_wp2_with (first | (go_at_call 161; refine (H1 _).mono ?_; rintro e w1 ⟨rfl, rfl⟩) | (go_at_call 203; refine (H2 _).mono ?_; rintro e w2 ⟨rfl, rfl⟩) | (go_at_call 204; refine (H3 _).mono ?_; rintro e w3 ⟨rfl, rfl⟩))
      go_ret
      exact ⟨lret (by unfold inI; simp [hb, hd]), rfl⟩
#print axioms inName_lx
end Go.Proofs.YtdmjbhbiehjelaaGreatDoor
