/- The contracts of bitio.Reader's methods. -/
import Derived.Test.YtcefochgpijfbaaDoorLeaf
import Derived.Test.YtcefochgpijfbaaDoorFrame
import Derived.Laws.CopyOwn
namespace Go.Proofs.YtcefochgpijfbaaDoor
open Go.RowKit

/-- Block rb is a reader that NewReader made: over the row g of n bytes, at bit p. -/
def RdAt (w : World) (rb g n p : Nat) : Prop := w.heap[rb]? = some (.cells #[.bool true, .slice (some ⟨g, 0, none⟩) n n, .int .i64 (p : Int)] 84 (0, 0))
/-- Row g holds the bytes B. -/
def RowAt (w : World) (g : Nat) (B : List Nat) : Prop := w.heap[g]? = some (.cells (byteVals B).toArray 5 (0, 0))

set_option maxHeartbeats 400000 in
theorem ready_any (rb g n p : Nat) (w : World) (h : RdAt w rb g n p) :
    Calls Tryd.prog 39 #[.pointer (some ⟨rb, 0, none⟩)] w fun e w' => e = .returned (.bool true) ∧ w' = w := by
  have c0 := cellOf (o := 0) h rfl
  clear h
  go_enter Tryd.func39, Tryd.ntmps39
  go_wp2
  go_ret
  exact ⟨rfl, rfl⟩

set_option maxHeartbeats 400000 in
theorem left_any (rb g n p : Nat) (w : World) (h : RdAt w rb g n p) (hp : p ≤ 8 * n) (hn : n ≤ 140737488355328) :
    Calls Tryd.prog 85 #[.pointer (some ⟨rb, 0, none⟩)] w fun e w' => e = .returned (.int .i64 ((8 * n - p : Nat) : Int)) ∧ ∃ m, w' = w.drewN m := by
  have c1 := cellOf (o := 1) h rfl
  have c2 := cellOf (o := 2) h rfl
  go_enter Tryd.func85, Tryd.ntmps85
  go_wp2_with (go_at_call 39; refine (ready_any _ _ _ _ _ h).mono ?_; rintro e w' ⟨rfl, rfl⟩)
  go_quiet (fail)
  go_wp2
  go_ret
  exact ⟨ret_int (by omega), nq, rfl⟩

/-- Bit i of the bytes B; none behind their end. -/
def bitAt (B : List Nat) (i : Nat) : Bool := (B.getD (i / 8) 0).testBit (i % 8)
/-- The number of n bits from p on. -/
def numAt (B : List Nat) (p n : Nat) : Nat := ofB (fun k => bitAt B (p + k)) n

theorem numAt_lt (B : List Nat) (p n : Nat) : numAt B p n < 2 ^ n := ofB_lt _ _
theorem numAt_succ (B : List Nat) (p n : Nat) : numAt B p (n + 1) = numAt B p n + bitN (B.getD ((p + n) / 8) 0) ((p + n) % 8) * 2 ^ n := rfl
theorem numAt_zero (B : List Nat) (p : Nat) : numAt B p 0 = 0 := rfl

theorem rowCell {w : World} {g : Nat} {B : List Nat} (h : RowAt w g B) (i : Nat) (hi : i < B.length) : w.cell? ⟨g, i, none⟩ = some (.int .u8 ((B.getD i 0 : Nat) : Int)) := by
  have : B.getD i 0 = B[i] := by simp [hi]
  rw [this]
  exact cellOf h (by simpa using byteVals_get B i hi)
theorem getD_lt {B : List Nat} (hB : ∀ x ∈ B, x < 256) (i : Nat) : B.getD i 0 < 256 := by
  by_cases h : i < B.length
  · simp [h]; exact hB _ (List.getElem_mem h)
  · simp [h]

set_option maxHeartbeats 800000 in
theorem ahead_any (rb g p n : Nat) (B : List Nat) (w : World) (h : RdAt w rb g B.length p) (hr : RowAt w g B) (hB : ∀ x ∈ B, x < 256) (hp : p ≤ 8 * B.length) (hl : B.length ≤ 140737488355328) (hn : n ≤ 32) :
    Calls Tryd.prog 86 #[.pointer (some ⟨rb, 0, none⟩), .int .i64 (n : Int)] w fun e w' => e = .returned (.int .u32 ((numAt B p (min n (8 * B.length - p)) : Nat) : Int)) ∧ ∃ m, w' = w.drewN m := by
  have c1 := cellOf (o := 1) h rfl
  have c2 := cellOf (o := 2) h rfl
  obtain ⟨q, hq⟩ : ∃ q, q = min n (8 * B.length - p) := ⟨_, rfl⟩
  have hq1 : q ≤ n := by omega
  have hq2 : q + p ≤ 8 * B.length := by omega
  rw [← hq]
  have hmin : ∀ ts t W, (Builtin.min_ ts t #[Value.int .i64 (n : Int), Value.int .i64 (8 * (B.length : Int) - (p : Int))]).run Tryd.prog W = .ok (Value.int .i64 (q : Int)) W := by
    intro ts t W
    have e : (q : Int) = if (8 * (B.length : Int) - (p : Int)) < (n : Int) then (8 * (B.length : Int) - (p : Int)) else (n : Int) := by split <;> omega
    rw [e]
    simp [Builtin.min_, Builtin.min2]
  clear hq
  go_enter Tryd.func86, Tryd.ntmps86
  have hcast : ((8 * B.length - p : Nat) : Int) = 8 * (B.length : Int) - (p : Int) := by omega
  go_wp2_with (go_at_call 85; refine (left_any _ _ _ _ _ h hp hl).mono ?_; rw [hcast]; clear hcast; rintro e w' ⟨rfl, m, rfl⟩)
  go_loop [5, 12] (fun t i => ∃ k : Nat, k ≤ q ∧ i = .int .i64 (k : Int) ∧ t = .int .u32 ((numAt B p k : Nat) : Int)) (fun _ i => q - (intOf i).toNat)
  case atStart => exact ⟨0, Nat.zero_le _, rfl, rfl⟩
  case round =>
    clear hmin
    obtain ⟨k, hk, rfl, rfl⟩ := hrel
    by_cases hlt : k < q
    · obtain ⟨x, hx⟩ : ∃ x, x = B.getD ((p + k) / 8) 0 := ⟨_, rfl⟩
      have hx1 : x < 256 := by rw [hx]; exact getD_lt hB _
      have hcell := rowCell hr ((p + k) / 8) (by omega)
      rw [← hx] at hcell
      have HX : Hid (x = B.getD ((p + k) / 8) 0) := hx
      clear hx hr
      have hi1 : ((p : Int) + (k : Int)) / 8 < (B.length : Int) := by omega
      go_wp2_with (go_at_call 60; refine (bitOf_any _ _ _ (by omega) (by omega) (by omega)).mono ?_; rintro e w' ⟨rfl, rfl⟩)
      go_round
      case rel => exact ⟨k + 1, by omega, by go_num, congrArg (Value.int .u32) ((or_step' _ _ k (numAt_lt _ _ _) (bitN_le _ _) (by omega)).trans (by rw [HX.out]; rfl))⟩
      case measure => simp [intOf]; omega
    · go_wp2_with fail
      go_ret
      have : k = q := by omega
      subst this
      exact ⟨rfl, _, rfl⟩

theorem RdAt.drewN {w : World} {rb g n p : Nat} (h : RdAt w rb g n p) (m : Nat) : RdAt (w.drewN m) rb g n p := h
theorem RowAt.drewN {w : World} {g : Nat} {B : List Nat} (h : RowAt w g B) (m : Nat) : RowAt (w.drewN m) g B := h
theorem RdAt.moved {w : World} {rb g n p : Nat} (h : RdAt w rb g n p) (q : Nat) : RdAt (w.setCell ⟨rb, 2, none⟩ (.int .i64 (q : Int))) rb g n q := by
  have := setOf 2 (.int .i64 (q : Int)) h
  simpa [RdAt] using this

set_option maxHeartbeats 400000 in
theorem bits_bad (rb g l p : Nat) (n : Int) (w : World) (h : RdAt w rb g l p) (hn : n < 0 ∨ 32 < n) :
    Calls Tryd.prog 65 #[.pointer (some ⟨rb, 0, none⟩), .int .i64 n] w fun e w' => e = .returned (.tuple #[.int .u32 0, .int .i64 10]) ∧ w' = w := by
  go_enter Tryd.func65, Tryd.ntmps65
  go_wp2_with (first | (go_at_call 39; refine (ready_any _ _ _ _ _ h).mono ?_; rintro e w' ⟨rfl, rfl⟩) | (go_at_call 58; refine (countable_no _ _ hn).mono ?_; rintro e w' ⟨rfl, rfl⟩))
  go_ret2
  exact ⟨rfl, rfl⟩

set_option maxHeartbeats 400000 in
theorem bits_ends (rb g l p n : Nat) (w : World) (h : RdAt w rb g l p) (hp : p ≤ 8 * l) (hl : l ≤ 140737488355328) (hn : n ≤ 32) (hlt : 8 * l < p + n) :
    Calls Tryd.prog 65 #[.pointer (some ⟨rb, 0, none⟩), .int .i64 (n : Int)] w fun e w' => e = .returned (.tuple #[.int .u32 0, .int .i64 11]) ∧ ∃ m, w' = w.drewN m := by
  go_enter Tryd.func65, Tryd.ntmps65
  go_wp2_with (first | (go_at_call 39; refine (ready_any _ _ _ _ _ h).mono ?_; rintro e w' ⟨rfl, rfl⟩) | (go_at_call 58; refine (countable_yes _ _ (by omega) (by omega)).mono ?_; rintro e w' ⟨rfl, rfl⟩) | (go_at_call 85; refine (left_any _ _ _ _ _ h hp hl).mono ?_; rintro e w' ⟨rfl, m, rfl⟩))
  go_ret2
  exact ⟨rfl, _, rfl⟩

set_option maxHeartbeats 400000 in
theorem bits_good (rb g p n : Nat) (B : List Nat) (w : World) (h : RdAt w rb g B.length p) (hr : RowAt w g B) (hB : ∀ x ∈ B, x < 256) (hl : B.length ≤ 140737488355328) (hn : n ≤ 32) (hle : p + n ≤ 8 * B.length) :
    Calls Tryd.prog 65 #[.pointer (some ⟨rb, 0, none⟩), .int .i64 (n : Int)] w fun e w' => e = .returned (.tuple #[.int .u32 ((numAt B p n : Nat) : Int), .int .i64 0]) ∧ RdAt w' rb g B.length (p + n) ∧ Fr (oneB rb) w w' := by
  have c2 := cellOf (o := 2) h rfl
  have f2 := freeOf 2 h
  have hp : p ≤ 8 * B.length := by omega
  have hq : min n (8 * B.length - p) = n := by omega
  have HA := fun m => ahead_any rb g p n B (w.drewN m) (h.drewN m) (hr.drewN m) hB hp hl hn
  rw [hq] at HA
  go_enter Tryd.func65, Tryd.ntmps65
  go_wp2_with (first | (go_at_call 39; refine (ready_any _ _ _ _ _ h).mono ?_; rintro e w' ⟨rfl, rfl⟩) | (go_at_call 58; refine (countable_yes _ _ (by omega) (by omega)).mono ?_; rintro e w' ⟨rfl, rfl⟩) | (go_at_call 85; refine (left_any _ _ _ _ _ h hp hl).mono ?_; rintro e w' ⟨rfl, m, rfl⟩) | (go_at_call 86; refine (HA _).mono ?_; rintro e w' ⟨rfl, m2, rfl⟩))
  go_ret2
  rw [show ((p : Int) + (n : Int)) = ((p + n : Nat) : Int) from by omega]
  exact ⟨rfl, (h.drewN (m + m2)).moved (p + n), ((Fr.refl _ _).drewN _).setOne _ _⟩

set_option maxHeartbeats 400000 in
theorem peek_bad (rb g l p : Nat) (n : Int) (w : World) (h : RdAt w rb g l p) (hn : n < 0 ∨ 32 < n) :
    Calls Tryd.prog 109 #[.pointer (some ⟨rb, 0, none⟩), .int .i64 n] w fun e w' => e = .returned (.tuple #[.int .u32 0, .int .i64 10]) ∧ w' = w := by
  go_enter Tryd.func109, Tryd.ntmps109
  go_wp2_with (first | (go_at_call 39; refine (ready_any _ _ _ _ _ h).mono ?_; rintro e w' ⟨rfl, rfl⟩) | (go_at_call 58; refine (countable_no _ _ hn).mono ?_; rintro e w' ⟨rfl, rfl⟩))
  go_ret2
  exact ⟨rfl, rfl⟩

set_option maxHeartbeats 400000 in
theorem peek_good (rb g p n : Nat) (B : List Nat) (w : World) (h : RdAt w rb g B.length p) (hr : RowAt w g B) (hB : ∀ x ∈ B, x < 256) (hl : B.length ≤ 140737488355328) (hn : n ≤ 32) (hp : p ≤ 8 * B.length) :
    Calls Tryd.prog 109 #[.pointer (some ⟨rb, 0, none⟩), .int .i64 (n : Int)] w fun e w' => e = .returned (.tuple #[.int .u32 ((numAt B p (min n (8 * B.length - p)) : Nat) : Int), .int .i64 0]) ∧ ∃ m, w' = w.drewN m := by
  go_enter Tryd.func109, Tryd.ntmps109
  go_wp2_with (first | (go_at_call 39; refine (ready_any _ _ _ _ _ h).mono ?_; rintro e w' ⟨rfl, rfl⟩) | (go_at_call 58; refine (countable_yes _ _ (by omega) (by omega)).mono ?_; rintro e w' ⟨rfl, rfl⟩) | (go_at_call 86; refine (ahead_any _ _ _ _ _ _ h hr hB hp hl hn).mono ?_; rintro e w' ⟨rfl, m2, rfl⟩))
  go_ret2
  exact ⟨rfl, _, rfl⟩

end Go.Proofs.YtcefochgpijfbaaDoor
