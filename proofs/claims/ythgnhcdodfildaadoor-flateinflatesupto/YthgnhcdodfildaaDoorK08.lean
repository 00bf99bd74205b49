/- The contracts of bitio.Reader's methods. -/
import Derived.Test.YthgnhcdodfildaaDoorK06
import Derived.Test.YthgnhcdodfildaaDoorFrame
import Derived.Laws.CopyOwn
namespace Go.Proofs.YthgnhcdodfildaaDoor
open Go.RowKit

/-- Block rb is a reader that NewReader made: over the row g of n bytes, at bit p. -/
def RdAt (w : World) (rb g n p : Nat) : Prop := w.heap[rb]? = some (.cells #[.bool true, .slice (some ⟨g, 0, none⟩) n n, .int .i64 (p : Int)] 67 (0, 0))
/-- Row g holds the bytes B. -/
def RowAt (w : World) (g : Nat) (B : List Nat) : Prop := w.heap[g]? = some (.cells (byteVals B).toArray 5 (0, 0))

set_option maxHeartbeats 400000 in
theorem ready_any (rb g n p : Nat) (w : World) (h : RdAt w rb g n p) :
    Calls Tryd.prog 25 #[.pointer (some ⟨rb, 0, none⟩)] w fun e w' => e = .returned (.bool true) ∧ w' = w := by
  have c0 := cellOf (o := 0) h rfl
  clear h
  go_enter Tryd.func25, Tryd.ntmps25
  go_wp2
  go_ret
  exact ⟨rfl, rfl⟩

set_option maxHeartbeats 400000 in
theorem left_any (rb g n p : Nat) (w : World) (h : RdAt w rb g n p) (hp : p ≤ 8 * n) (hn : n ≤ 140737488355328) :
    Calls Tryd.prog 72 #[.pointer (some ⟨rb, 0, none⟩)] w fun e w' => e = .returned (.int .i64 ((8 * n - p : Nat) : Int)) ∧ ∃ m, w' = w.drewN m := by
  have c1 := cellOf (o := 1) h rfl
  have c2 := cellOf (o := 2) h rfl
  go_enter Tryd.func72, Tryd.ntmps72
  go_wp2_with (go_at_call 25; refine (ready_any _ _ _ _ _ h).mono ?_; rintro e w' ⟨rfl, rfl⟩)
  go_quiet (fail)
  go_wp2
  go_ret
  exact ⟨ret_int (by omega), nq, rfl⟩

/-- Bit i of the bytes B; none behind their end. -/
def bitAt (B : List Nat) (i : Nat) : Bool := (B.getD (i / 8) 0).testBit (i % 8)
/-- The number of n bits from p on. -/
def numAt (B : List Nat) (p n : Nat) : Nat := ofB (fun k => bitAt B (p + k)) n

theorem numAt_lt (B : List Nat) (p n : Nat) : numAt B p n < 2 ^ n := ofB_lt _ _
theorem numAt_succ (B : List Nat) (p n : Nat) : numAt B p (n + 1) = numAt B p n + bitN (B.getD ((p + n) / 8) 0) ((p + n) % 8) * 2 ^ n := rfl
theorem numAt_zero (B : List Nat) (p : Nat) : numAt B p 0 = 0 := rfl

theorem rowCell {w : World} {g : Nat} {B : List Nat} (h : RowAt w g B) (i : Nat) (hi : i < B.length) : w.cell? ⟨g, i, none⟩ = some (.int .u8 ((B.getD i 0 : Nat) : Int)) := by
  have : B.getD i 0 = B[i] := by simp [hi]
  rw [this]
  exact cellOf h (by simpa using byteVals_get B i hi)
theorem getD_lt {B : List Nat} (hB : ∀ x ∈ B, x < 256) (i : Nat) : B.getD i 0 < 256 := by
  by_cases h : i < B.length
  · simp [h]; exact hB _ (List.getElem_mem h)
  · simp [h]

set_option maxHeartbeats 800000 in
theorem ahead_any (rb g p n : Nat) (B : List Nat) (w : World) (h : RdAt w rb g B.length p) (hr : RowAt w g B) (hB : ∀ x ∈ B, x < 256) (hp : p ≤ 8 * B.length) (hl : B.length ≤ 140737488355328) (hn : n ≤ 32) :
    Calls Tryd.prog 73 #[.pointer (some ⟨rb, 0, none⟩), .int .i64 (n : Int)] w fun e w' => e = .returned (.int .u32 ((numAt B p (min n (8 * B.length - p)) : Nat) : Int)) ∧ ∃ m, w' = w.drewN m := by
  have c1 := cellOf (o := 1) h rfl
  have c2 := cellOf (o := 2) h rfl
  obtain ⟨q, hq⟩ : ∃ q, q = min n (8 * B.length - p) := ⟨_, rfl⟩
  have hq1 : q ≤ n := by omega
  have hq2 : q + p ≤ 8 * B.length := by omega
  rw [← hq]
  have hmin : ∀ ts t W, (Builtin.min_ ts t #[Value.int .i64 (n : Int), Value.int .i64 (8 * (B.length : Int) - (p : Int))]).run Tryd.prog W = .ok (Value.int .i64 (q : Int)) W := by
    intro ts t W
    have e : (q : Int) = if (8 * (B.length : Int) - (p : Int)) < (n : Int) then (8 * (B.length : Int) - (p : Int)) else (n : Int) := by split <;> omega
    rw [e]
    simp [Builtin.min_, Builtin.min2]
  clear hq
  go_enter Tryd.func73, Tryd.ntmps73
  have hcast : ((8 * B.length - p : Nat) : Int) = 8 * (B.length : Int) - (p : Int) := by omega
  go_wp2_with (go_at_call 72; refine (left_any _ _ _ _ _ h hp hl).mono ?_; rw [hcast]; clear hcast; rintro e w' ⟨rfl, m, rfl⟩)
  go_loop [5, 12] (fun t i => ∃ k : Nat, k ≤ q ∧ i = .int .i64 (k : Int) ∧ t = .int .u32 ((numAt B p k : Nat) : Int)) (fun _ i => q - (intOf i).toNat)
  case atStart => exact ⟨0, Nat.zero_le _, rfl, rfl⟩
  case round =>
    clear hmin
    obtain ⟨k, hk, rfl, rfl⟩ := hrel
    by_cases hlt : k < q
    · obtain ⟨x, hx⟩ : ∃ x, x = B.getD ((p + k) / 8) 0 := ⟨_, rfl⟩
      have hx1 : x < 256 := by rw [hx]; exact getD_lt hB _
      have hcell := rowCell hr ((p + k) / 8) (by omega)
      rw [← hx] at hcell
      have HX : Hid (x = B.getD ((p + k) / 8) 0) := hx
      clear hx hr
      have hi1 : ((p : Int) + (k : Int)) / 8 < (B.length : Int) := by omega
      go_wp2_with (go_at_call 67; refine (bitOf_any _ _ _ (by omega) (by omega) (by omega)).mono ?_; rintro e w' ⟨rfl, rfl⟩)
      go_round
      case rel => exact ⟨k + 1, by omega, by go_num, congrArg (Value.int .u32) ((or_step' _ _ k (numAt_lt _ _ _) (bitN_le _ _) (by omega)).trans (by rw [HX.out]; rfl))⟩
      case measure => simp [intOf]; omega
    · go_wp2_with fail
      go_ret
      have : k = q := by omega
      subst this
      exact ⟨rfl, _, rfl⟩

theorem RdAt.drewN {w : World} {rb g n p : Nat} (h : RdAt w rb g n p) (m : Nat) : RdAt (w.drewN m) rb g n p := h
theorem RowAt.drewN {w : World} {g : Nat} {B : List Nat} (h : RowAt w g B) (m : Nat) : RowAt (w.drewN m) g B := h
theorem RdAt.moved {w : World} {rb g n p : Nat} (h : RdAt w rb g n p) (q : Nat) : RdAt (w.setCell ⟨rb, 2, none⟩ (.int .i64 (q : Int))) rb g n q := by
  have := setOf 2 (.int .i64 (q : Int)) h
  simpa [RdAt] using this

set_option maxHeartbeats 400000 in
theorem bits_bad (rb g l p : Nat) (n : Int) (w : World) (h : RdAt w rb g l p) (hn : n < 0 ∨ 32 < n) :
    Calls Tryd.prog 48 #[.pointer (some ⟨rb, 0, none⟩), .int .i64 n] w fun e w' => e = .returned (.tuple #[.int .u32 0, .int .i64 10]) ∧ w' = w := by
  go_enter Tryd.func48, Tryd.ntmps48
  go_wp2_with (first | (go_at_call 25; refine (ready_any _ _ _ _ _ h).mono ?_; rintro e w' ⟨rfl, rfl⟩) | (go_at_call 65; refine (countable_no _ _ hn).mono ?_; rintro e w' ⟨rfl, rfl⟩))
  go_ret2
  exact ⟨rfl, rfl⟩

set_option maxHeartbeats 400000 in
theorem bits_ends (rb g l p n : Nat) (w : World) (h : RdAt w rb g l p) (hp : p ≤ 8 * l) (hl : l ≤ 140737488355328) (hn : n ≤ 32) (hlt : 8 * l < p + n) :
    Calls Tryd.prog 48 #[.pointer (some ⟨rb, 0, none⟩), .int .i64 (n : Int)] w fun e w' => e = .returned (.tuple #[.int .u32 0, .int .i64 11]) ∧ ∃ m, w' = w.drewN m := by
  go_enter Tryd.func48, Tryd.ntmps48
  go_wp2_with (first | (go_at_call 25; refine (ready_any _ _ _ _ _ h).mono ?_; rintro e w' ⟨rfl, rfl⟩) | (go_at_call 65; refine (countable_yes _ _ (by omega) (by omega)).mono ?_; rintro e w' ⟨rfl, rfl⟩) | (go_at_call 72; refine (left_any _ _ _ _ _ h hp hl).mono ?_; rintro e w' ⟨rfl, m, rfl⟩))
  go_ret2
  exact ⟨rfl, _, rfl⟩

set_option maxHeartbeats 400000 in
theorem bits_good (rb g p n : Nat) (B : List Nat) (w : World) (h : RdAt w rb g B.length p) (hr : RowAt w g B) (hB : ∀ x ∈ B, x < 256) (hl : B.length ≤ 140737488355328) (hn : n ≤ 32) (hle : p + n ≤ 8 * B.length) :
    Calls Tryd.prog 48 #[.pointer (some ⟨rb, 0, none⟩), .int .i64 (n : Int)] w fun e w' => e = .returned (.tuple #[.int .u32 ((numAt B p n : Nat) : Int), .int .i64 0]) ∧ RdAt w' rb g B.length (p + n) ∧ Fr (oneB rb) w w' := by
  have c2 := cellOf (o := 2) h rfl
  have f2 := freeOf 2 h
  have hp : p ≤ 8 * B.length := by omega
  have hq : min n (8 * B.length - p) = n := by omega
  have HA := fun m => ahead_any rb g p n B (w.drewN m) (h.drewN m) (hr.drewN m) hB hp hl hn
  rw [hq] at HA
  go_enter Tryd.func48, Tryd.ntmps48
  go_wp2_with (first | (go_at_call 25; refine (ready_any _ _ _ _ _ h).mono ?_; rintro e w' ⟨rfl, rfl⟩) | (go_at_call 65; refine (countable_yes _ _ (by omega) (by omega)).mono ?_; rintro e w' ⟨rfl, rfl⟩) | (go_at_call 72; refine (left_any _ _ _ _ _ h hp hl).mono ?_; rintro e w' ⟨rfl, m, rfl⟩) | (go_at_call 73; refine (HA _).mono ?_; rintro e w' ⟨rfl, m2, rfl⟩))
  go_ret2
  rw [show ((p : Int) + (n : Int)) = ((p + n : Nat) : Int) from by omega]
  exact ⟨rfl, (h.drewN (m + m2)).moved (p + n), ((Fr.refl _ _).drewN _).setOne _ _⟩

set_option maxHeartbeats 400000 in
theorem peek_bad (rb g l p : Nat) (n : Int) (w : World) (h : RdAt w rb g l p) (hn : n < 0 ∨ 32 < n) :
    Calls Tryd.prog 98 #[.pointer (some ⟨rb, 0, none⟩), .int .i64 n] w fun e w' => e = .returned (.tuple #[.int .u32 0, .int .i64 10]) ∧ w' = w := by
  go_enter Tryd.func98, Tryd.ntmps98
  go_wp2_with (first | (go_at_call 25; refine (ready_any _ _ _ _ _ h).mono ?_; rintro e w' ⟨rfl, rfl⟩) | (go_at_call 65; refine (countable_no _ _ hn).mono ?_; rintro e w' ⟨rfl, rfl⟩))
  go_ret2
  exact ⟨rfl, rfl⟩

set_option maxHeartbeats 400000 in
theorem peek_good (rb g p n : Nat) (B : List Nat) (w : World) (h : RdAt w rb g B.length p) (hr : RowAt w g B) (hB : ∀ x ∈ B, x < 256) (hl : B.length ≤ 140737488355328) (hn : n ≤ 32) (hp : p ≤ 8 * B.length) :
    Calls Tryd.prog 98 #[.pointer (some ⟨rb, 0, none⟩), .int .i64 (n : Int)] w fun e w' => e = .returned (.tuple #[.int .u32 ((numAt B p (min n (8 * B.length - p)) : Nat) : Int), .int .i64 0]) ∧ ∃ m, w' = w.drewN m := by
  go_enter Tryd.func98, Tryd.ntmps98
  go_wp2_with (first | (go_at_call 25; refine (ready_any _ _ _ _ _ h).mono ?_; rintro e w' ⟨rfl, rfl⟩) | (go_at_call 65; refine (countable_yes _ _ (by omega) (by omega)).mono ?_; rintro e w' ⟨rfl, rfl⟩) | (go_at_call 73; refine (ahead_any _ _ _ _ _ _ h hr hB hp hl hn).mono ?_; rintro e w' ⟨rfl, m2, rfl⟩))
  go_ret2
  exact ⟨rfl, _, rfl⟩

end Go.Proofs.YthgnhcdodfildaaDoor
/- The contracts of bitio.NewReader and of the reader's Bytes. -/
namespace Go.Proofs.YthgnhcdodfildaaDoor
open Go.RowKit

theorem Tryd.info5 : (Tryd.prog.info? 5).map (fun i => (i.zero, i.size, i.bytes)) = some (some (.int .u8 0), 1, 1) := by kernel_rfl
theorem Tryd.size5 : (Tryd.prog.info? 5).map (·.size) = some 1 := by kernel_rfl

theorem row_of_made {w : World} {b n : Nat} {xs : List Value} (h : w.ownsRow b 5 1 (.slice (some ⟨b, 0, none⟩) n n) n xs) : ∃ cur : List Value, cur.length = n ∧ w.heap[b]? = some (.cells cur.toArray 5 (0, 0)) := by
  obtain ⟨_, h2⟩ := h
  rcases h2 with ⟨h2, _⟩ | ⟨g, cap, cur, hv, hg, hh, h3, h4, h5, h6⟩
  · cases h2
  · simp at hv
    obtain ⟨rfl, rfl⟩ := hv
    exact ⟨cur.toList, by simpa using h5, by simpa using hh⟩

theorem splice_all {α : Type} (L cs : List α) (h : cs.length = L.length) : splice L 0 cs = cs := by
  simp [splice, h]

set_option maxHeartbeats 800000 in
theorem newReader_any (v : Value) (B : List Nat) (w : World) (hv : Bs w v B) (hl : B.length ≤ 140737488355328) :
    Calls Tryd.prog 22 #[v] w fun e w' => ∃ rb g, e = .returned (.pointer (some ⟨rb, 0, none⟩)) ∧ w.heap.size ≤ rb ∧ w.heap.size ≤ g ∧ rb ≠ g ∧ RdAt w' rb g B.length 0 ∧ RowAt w' g B ∧ Fr noB w w' := by
  obtain ⟨i0, hi, hz0, hz1, hz2⟩ := info_parts Tryd.info5
  obtain ⟨ao, cap, rfl, h1, h2, _, h3⟩ := hv
  have hmin : (byteVals B).length = Nat.min B.length B.length := by simp
  go_enter Tryd.func22, Tryd.ntmps22
  go_wp2_with (at_make; refine wpList_make_full _ rfl (.tmp 5) (.tmp 5) 22 rfl w.heap.size 5 i0 (.int .u8 0) 1 Tryd.underlying22 hi hz0 hz1 .i64 .i64 _ _ B.length rfl rfl rfl rfl (by rw [hz2]; omega) (by unfold maxLen; omega) (Nat.le_refl _) ?_)
  intro w1 hown hgrow
  obtain ⟨cur, hcur, hrow⟩ := row_of_made hown
  have hb1 : Below w.heap.size w w1 := (Below.refl _ _).grown hgrow (Nat.le_refl _) (by simp)
  have hsrc : Src w1 ao (byteVals B) := Src.of (by
    rcases h3 with h3 | ⟨b, off, rfl, hb, hc⟩
    · exact Or.inl h3
    · exact Or.inr ⟨b, off, rfl, fun i hi => (hb1.cell (p := ⟨b, off + i, none⟩) hb).trans (hc i hi)⟩)
  clear hown hgrow h3
  have hfit : 0 + (byteVals B).length ≤ cur.length := by simp [hcur]
  have HC : Hid (cur.length = B.length) := hcur
  clear hcur
  have HR : Hid (w1.heap[w.heap.size]? = some (.cells cur.toArray 5 (0, 0))) := hrow
  clear hrow
  go_wp2_with (refine wpList_copy_splice rfl (.tmp 7) (.tmp 8) 22 22 rfl 5 Tryd.underlying22 Tryd.size5 _ _ _ _ _ _ rfl rfl w.heap.size 0 cur 5 HR.out (byteVals B) hmin (fun h0 => ⟨rfl, hsrc.get h0⟩) hfit (byteVals_one B) w.heap.size w hb1 (Nat.le_refl _) ?_; intro w2 HG2 hB2)
  go_ret
  have hlt := lt_of_block HG2.out
  have hrow : RowAt w2 w.heap.size B := by
    have h := HG2.out
    rw [splice_all _ _ (by simpa using HC.out.symm)] at h
    exact h
  exact ⟨w2.heap.size, w.heap.size, rfl, hB2.size, Nat.le_refl _, by omega, heap_alloc_new _ _, (Below.heap_alloc _ _ _ hlt).trans hrow, (Fr.ofBelow hB2).alloc _⟩

end Go.Proofs.YthgnhcdodfildaaDoor
/- More contracts of the reader: Used, Bytes. -/
namespace Go.Proofs.YthgnhcdodfildaaDoor
open Go.RowKit

set_option maxRecDepth 100000 in
set_option maxHeartbeats 400000 in
theorem whole_any (n : Nat) (w : World) (h : n ≤ 4611686018427387904) :
    Calls Tryd.prog 26 #[.int .i64 (n : Int)] w fun e w' => e = .returned (.int .i64 (((n + 7) / 8 : Nat) : Int)) ∧ w' = w := by
  go_enter Tryd.func26, Tryd.ntmps26
  go_wp2
  go_ret
  exact ⟨ret_int (by omega), rfl⟩
set_option maxRecDepth 100000 in
set_option maxHeartbeats 400000 in
theorem used_any (rb g n p : Nat) (w : World) (h : RdAt w rb g n p) (hp : p ≤ 8 * n) (hn : n ≤ 140737488355328) :
    Calls Tryd.prog 15 #[.pointer (some ⟨rb, 0, none⟩)] w fun e w' => e = .returned (.int .i64 (((p + 7) / 8 : Nat) : Int)) ∧ w' = w := by
  have c2 := cellOf (o := 2) h rfl
  go_enter Tryd.func15, Tryd.ntmps15
  go_wp2_with (first | (go_at_call 25; refine (ready_any _ _ _ _ _ h).mono ?_; rintro e w' ⟨rfl, rfl⟩) | (go_at_call 26; refine (whole_any _ _ (by omega)).mono ?_; rintro e w' ⟨rfl, rfl⟩))
  go_ret
  exact ⟨rfl, rfl⟩
set_option maxRecDepth 100000 in
set_option maxHeartbeats 400000 in
theorem bytes_bad (rb g l p : Nat) (n : Int) (w : World) (h : RdAt w rb g l p) (hn : n < 0) :
    Calls Tryd.prog 74 #[.pointer (some ⟨rb, 0, none⟩), .int .i64 n] w fun e w' => e = .returned (.tuple #[.slice none 0 0, .int .i64 10]) ∧ w' = w := by
  go_enter Tryd.func74, Tryd.ntmps74
  go_wp2_with (first | (go_at_call 25; refine (ready_any _ _ _ _ _ h).mono ?_; rintro e w' ⟨rfl, rfl⟩))
  go_ret2
  exact ⟨rfl, rfl⟩
set_option maxRecDepth 100000 in
set_option maxHeartbeats 400000 in
theorem bytes_ends (rb g l p n : Nat) (w : World) (h : RdAt w rb g l p) (hp : p ≤ 8 * l) (hl : l ≤ 140737488355328) (hn : l < (p + 7) / 8 + n) :
    Calls Tryd.prog 74 #[.pointer (some ⟨rb, 0, none⟩), .int .i64 (n : Int)] w fun e w' => e = .returned (.tuple #[.slice none 0 0, .int .i64 11]) ∧ w' = w := by
  have c1 := cellOf (o := 1) h rfl
  go_enter Tryd.func74, Tryd.ntmps74
  go_wp2_with (first | (go_at_call 25; refine (ready_any _ _ _ _ _ h).mono ?_; rintro e w' ⟨rfl, rfl⟩) | (go_at_call 15; refine (used_any _ _ _ _ _ h hp hl).mono ?_; rintro e w' ⟨rfl, rfl⟩))
  go_ret2
  exact ⟨rfl, rfl⟩
theorem bytes_fin {w w2 : World} {rb g l p n : Nat} (q : Nat) {cs cur : List Value} (h : RdAt w rb g l p) (hcl : cs.length = n) (hcur : cur.length = n) (hn : n ≤ maxLen)
    (HG : w2.heap[w.heap.size]? = some (.cells (splice cur 0 cs).toArray 5 (0, 0))) (hB : Below w.heap.size w w2) :
    (w2.setCell ⟨rb, 2, none⟩ (.int .i64 (q : Int))).ownsRow w.heap.size 5 1 (.slice (some ⟨w.heap.size, 0, none⟩) n n) n cs ∧ RdAt (w2.setCell ⟨rb, 2, none⟩ (.int .i64 (q : Int))) rb g l q ∧ Fr (oneB rb) w (w2.setCell ⟨rb, 2, none⟩ (.int .i64 (q : Int))) := by
  have hrb := lt_of_block h
  rw [splice_all _ _ (by omega)] at HG
  refine ⟨⟨by omega, Or.inr ⟨w.heap.size, n, cs.toArray, rfl, Nat.le_refl _, ?_, Nat.le_refl _, hn, by simp [hcl], by simp [← hcl]⟩⟩, ?_, ?_⟩
  · rw [Below.heap_setCell _ _ _ _ (by show w.heap.size ≠ rb; omega)]; exact HG
  · exact RdAt.moved ((Fr.ofBelow (S := noB) hB).obj h id) q
  · exact (Fr.ofBelow hB).setOne _ _
set_option maxRecDepth 100000 in
set_option maxHeartbeats 800000 in
theorem bytes_good (rb g p n f : Nat) (B : List Nat) (w : World) (hR : RdAt w rb g B.length p) (hr : RowAt w g B) (hp : p ≤ 8 * B.length) (hl : B.length ≤ 140737488355328) (hf : f = (p + 7) / 8) (hn : f + n ≤ B.length) :
    Calls Tryd.prog 74 #[.pointer (some ⟨rb, 0, none⟩), .int .i64 (n : Int)] w fun e w' => ∃ v, e = .returned (.tuple #[v, .int .i64 0]) ∧ w'.ownsRow w.heap.size 5 1 v n (byteVals ((B.drop f).take n)) ∧ RdAt w' rb g B.length (8 * (f + n)) ∧ Fr (oneB rb) w w' := by
  obtain ⟨i0, hi, hz0, hz1, hz2⟩ := info_parts Tryd.info5
  have c1 := cellOf (o := 1) hR rfl
  have HU := fun W hW => used_any rb g B.length p W hW hp hl
  rw [← hf] at HU
  clear hf
  go_enter Tryd.func74, Tryd.ntmps74
  go_wp2_with (first | (go_at_call 25; refine (ready_any _ _ _ _ _ hR).mono ?_; rintro e w' ⟨rfl, rfl⟩) | (go_at_call 15; refine (HU _ hR).mono ?_; rintro e w' ⟨rfl, rfl⟩) | (at_make; refine wpList_make_full _ rfl (.tmp 24) (.tmp 24) 22 rfl _ 5 i0 (.int .u8 0) 1 Tryd.underlying22 hi hz0 hz1 .i64 .i64 _ _ n rfl rfl rfl rfl (by rw [hz2]; omega) (by unfold maxLen; omega) (Nat.le_refl _) ?_))
  intro w1 hown hgrow
  obtain ⟨cur, hcur, hrow⟩ := row_of_made hown
  have hb1 : Below w'.heap.size w' w1 := (Below.refl _ _).grown hgrow (Nat.le_refl _) (by simp)
  have hr1 : RowAt w1 g B := (Fr.ofBelow (S := noB) hb1).obj hr id
  have d1 := cellOf (o := 1) ((Fr.ofBelow (S := noB) hb1).obj hR id) rfl
  obtain ⟨cs, hcs⟩ : ∃ cs, cs = byteVals ((B.drop f).take n) := ⟨_, rfl⟩
  have hlen : cs.length = n := by rw [hcs]; simp; omega
  have hmin : cs.length = Nat.min (B.length - f) n := by rw [hlen]; show n = min _ _; omega
  have hone : ∀ v ∈ cs, v.oneCell' = true := by rw [hcs]; exact byteVals_one _
  have hfit : 0 + cs.length ≤ cur.length := by omega
  have hsrc : Src w1 (some ⟨g, f, none⟩) cs := by
    rw [hcs]
    refine Src.of (Or.inr ⟨g, f, rfl, fun i hi => ?_⟩)
    have hi' : f + i < B.length := by simp at hi; omega
    have := rowCell hr1 (f + i) hi'
    simpa [hi'] using this
  have HCS : Hid (cs = byteVals ((B.drop f).take n)) := hcs
  have HL : Hid (cs.length = n) := hlen
  have HC : Hid (cur.length = n) := hcur
  have HR : Hid (w1.heap[w'.heap.size]? = some (.cells cur.toArray 5 (0, 0))) := hrow
  clear hcs hlen hcur hrow hown hgrow c1 HU hr1
  by_cases h0 : n = 0
  · subst h0
    have h00 : cs = [] := List.eq_nil_of_length_eq_zero HL.out
    by_cases hfl : f = B.length
    · subst hfl
      have hmin : cs.length = Nat.min 0 0 := by rw [h00]; rfl
      go_wp2_with (refine wpList_copy_splice rfl (.tmp 26) (.tmp 32) 22 22 rfl 5 Tryd.underlying22 Tryd.size5 _ _ _ _ _ _ rfl rfl w'.heap.size 0 cur 5 HR.out cs hmin (fun h0 => absurd h0 (by rw [h00]; simp)) hfit hone w'.heap.size w' hb1 (Nat.le_refl _) ?_; intro w2 HG2 hB2; have f2 : w2.frozen? ⟨rb, 2, none⟩ = false := freeOf 2 ((Fr.ofBelow (S := noB) hB2).obj hR id); have d2 := cellOf (o := 2) ((Fr.ofBelow (S := noB) hB2).obj hR id) rfl)
      go_ret2
      have hfin := bytes_fin (8 * B.length) hR HL.out HC.out (by unfold maxLen; omega) HG2.out hB2
      rw [HCS.out] at hfin
      exact ⟨_, rfl, by simpa using hfin⟩
    · have hfl' : f < B.length := by omega
      go_wp2_with (refine wpList_copy_splice rfl (.tmp 26) (.tmp 32) 22 22 rfl 5 Tryd.underlying22 Tryd.size5 _ _ _ _ _ _ rfl rfl w'.heap.size 0 cur 5 HR.out cs hmin (fun h0 => absurd h0 (by rw [h00]; simp)) hfit hone w'.heap.size w' hb1 (Nat.le_refl _) ?_; intro w2 HG2 hB2; have f2 : w2.frozen? ⟨rb, 2, none⟩ = false := freeOf 2 ((Fr.ofBelow (S := noB) hB2).obj hR id); have d2 := cellOf (o := 2) ((Fr.ofBelow (S := noB) hB2).obj hR id) rfl)
      go_ret2
      have hfin := bytes_fin (8 * (f + 0)) hR HL.out HC.out (by unfold maxLen; omega) HG2.out hB2
      rw [HCS.out] at hfin
      exact ⟨_, rfl, hfin⟩
  · go_wp2_with (refine wpList_copy_splice rfl (.tmp 26) (.tmp 32) 22 22 rfl 5 Tryd.underlying22 Tryd.size5 _ _ _ _ _ _ rfl rfl w'.heap.size 0 cur 5 HR.out cs hmin (fun h0 => ⟨rfl, hsrc.get h0⟩) hfit hone w'.heap.size w' hb1 (Nat.le_refl _) ?_; intro w2 HG2 hB2; have f2 : w2.frozen? ⟨rb, 2, none⟩ = false := freeOf 2 ((Fr.ofBelow (S := noB) hB2).obj hR id); have d2 := cellOf (o := 2) ((Fr.ofBelow (S := noB) hB2).obj hR id) rfl)
    go_ret2
    have hfin := bytes_fin (8 * (f + n)) hR HL.out HC.out (by unfold maxLen; omega) HG2.out hB2
    rw [HCS.out, show ((8 * (f + n) : Nat) : Int) = 8 * ((f : Int) + (n : Int)) from by omega] at hfin
    exact ⟨_, rfl, hfin⟩
end Go.Proofs.YthgnhcdodfildaaDoor
