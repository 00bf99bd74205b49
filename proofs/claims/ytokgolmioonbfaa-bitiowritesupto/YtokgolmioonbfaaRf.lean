/- The contracts of the document's reader (gridironref01.Reader). -/
import Derived.Test.YtokgolmioonbfaaRd
namespace Go.Proofs.Ytokgolmioonbfaa
open Go.RowKit

/-- Block ib is the document's reader: over the slice v, at bit p. -/
def RfAt (w : World) (ib : Nat) (v : Value) (p : Nat) : Prop := w.heap[ib]? = some (.cells #[v, .int .i64 (p : Int)] 27 (0, 0))

theorem bitN_zero (k : Nat) : bitN 0 k = 0 := by simp [bitN]

theorem refbit_num (x k : Nat) (_hx : x < 256) : (x : Int) / 2 ^ k % 4294967296 % 2 = ((bitN x k : Nat) : Int) := by
  have h3 : ((x : Int) / 2 ^ k) = ((x / 2 ^ k : Nat) : Int) := by simp
  have h4 : x / 2 ^ k ≤ x := Nat.div_le_self _ _
  rw [h3, bitN_eq]
  generalize x / 2 ^ k = y at *
  omega

set_option maxHeartbeats 400000 in
theorem bit_any (v : Value) (B : List Nat) (j : Int) (w : World) (hv : Bs w v B) (hB : ∀ x ∈ B, x < 256) (hl : B.length ≤ 140737488355328) (h0 : 0 ≤ j) (h9 : j ≤ 4611686018427387904) :
    Calls Try.prog 44 #[v, .int .i64 j] w fun e w' => e = .returned (.int .u32 ((bitN (B.getD (j.toNat / 8) 0) (j.toNat % 8) : Nat) : Int)) ∧ w' = w := by
  obtain ⟨i, rfl⟩ := Int.eq_ofNat_of_zero_le h0
  simp only [Int.toNat_natCast]
  obtain ⟨ao, cap, rfl, h1, h2, h4, h3⟩ := hv
  by_cases hi : i < 8 * B.length
  · rcases h3 with rfl | ⟨b, off, rfl, hb, hc⟩
    · simp at hi
    · have hi8 : i / 8 < B.length := by omega
      have hcell := hc (i / 8) hi8
      have hg : B.getD (i / 8) 0 = B[i / 8] := by simp [hi8]
      have hx := getD_lt hB (i / 8)
      rw [hg] at hx ⊢
      generalize B[i / 8] = x at *
      clear hc hg
      go_enter Try.func44, Try.ntmps44
      go_wp2
      go_ret
      exact ⟨ret_int (refbit_num x (i % 8) hx), rfl⟩
  · have hz : B.getD (i / 8) 0 = 0 := by
      have : ¬ i / 8 < B.length := by omega
      simp [this]
    rw [hz, bitN_zero]
    clear hz h3
    go_enter Try.func44, Try.ntmps44
    go_wp2
    go_ret
    exact ⟨rfl, rfl⟩

set_option maxHeartbeats 400000 in
theorem refleft_any (ib : Nat) (v : Value) (B : List Nat) (p : Nat) (w : World) (h : RfAt w ib v p) (hv : Bs w v B) (hp : p ≤ 8 * B.length) (hl : B.length ≤ 140737488355328) :
    Calls Try.prog 21 #[.pointer (some ⟨ib, 0, none⟩)] w fun e w' => e = .returned (.int .i64 ((8 * B.length - p : Nat) : Int)) ∧ ∃ m, w' = w.drewN m := by
  have c0 := cellOf (o := 0) h rfl
  have c1 := cellOf (o := 1) h rfl
  obtain ⟨ao, cap, rfl, h1, h2, h4, h3⟩ := hv
  clear h3 h
  go_enter Try.func21, Try.ntmps21
  go_wp2
  go_quiet (fail)
  go_wp2
  go_ret
  exact ⟨ret_int (by omega), nq, rfl⟩

set_option maxHeartbeats 400000 in
theorem refused_any (ib : Nat) (v : Value) (p : Nat) (w : World) (h : RfAt w ib v p) (hp : p ≤ 4611686018427387904) :
    Calls Try.prog 23 #[.pointer (some ⟨ib, 0, none⟩)] w fun e w' => e = .returned (.int .i64 (((p + 7) / 8 : Nat) : Int)) ∧ w' = w := by
  have c1 := cellOf (o := 1) h rfl
  clear h
  go_enter Try.func23, Try.ntmps23
  go_wp2
  go_ret
  exact ⟨ret_int (by omega), rfl⟩

set_option maxHeartbeats 800000 in
theorem number_any (ib : Nat) (v : Value) (B : List Nat) (p n : Nat) (w : World) (h : RfAt w ib v p) (hv : Bs w v B) (hB : ∀ x ∈ B, x < 256) (hp : p ≤ 8 * B.length) (hl : B.length ≤ 140737488355328) (hn : n ≤ 32) :
    Calls Try.prog 39 #[.pointer (some ⟨ib, 0, none⟩), .int .i64 (n : Int)] w fun e w' => e = .returned (.int .u32 ((numAt B p n : Nat) : Int)) ∧ ∃ m, w' = w.drewN m := by
  have c0 := cellOf (o := 0) h rfl
  have c1 := cellOf (o := 1) h rfl
  clear h
  go_enter Try.func39, Try.ntmps39
  go_wp2_with fail
  go_loopw [5, 6] (fun t i wr => ∃ k : Nat, k ≤ n ∧ i = .int .i64 (k : Int) ∧ t = .int .u32 ((numAt B p k : Nat) : Int) ∧ ∃ m, wr = w.drewN m) (fun _ i _ => n - (intOf i).toNat)
  case atStart => exact ⟨0, Nat.zero_le _, rfl, rfl, 0, rfl⟩
  case round =>
    obtain ⟨k, hk, rfl, rfl, hm⟩ := hrel
    have hvr : Bs wr v B := by obtain ⟨m, rfl⟩ := hm; exact hv
    have d0 : wr.cell? ⟨ib, 0, none⟩ = some v := by obtain ⟨m, rfl⟩ := hm; exact c0
    have d1 : wr.cell? ⟨ib, 1, none⟩ = some (.int .i64 (p : Int)) := by obtain ⟨m, rfl⟩ := hm; exact c1
    have HM : Hid (∃ m, wr = w.drewN m) := hm
    clear hm c0 c1 hv
    by_cases hlt : k < n
    · have hwrap : IntKind.i64.wrap ((p : Int) + (k : Int)) = (p : Int) + (k : Int) := by rw [IntKind.wrap_i64]; omega
      have HB := fun (q : Nat) (j : Int) h0 h9 => bit_any v B j (wr.drewN q) hvr hB hl h0 h9
      go_wp2_with fail
      go_quiet ((go_at_call 44; exact Calls.quiet_of_same (HB _ _ (by omega) (by omega))))
      go_wp2
      go_roundw
      case rel =>
        refine ⟨k + 1, by omega, by go_num, congrArg (Value.int .u32) (add_step _ _ k (numAt_lt _ _ _) (bitN_le _ _) (by omega)), ?_⟩
        obtain ⟨m, hm⟩ := HM.out
        exact ⟨m + nq, by rw [hm, World.drewN_drewN]⟩
      case measure => simp [intOf]; omega
    · go_wp2_with fail
      go_ret
      have : k = n := by omega
      subst this
      exact ⟨rfl, HM.out⟩

theorem RfAt.moved {w : World} {ib p : Nat} {v : Value} (h : RfAt w ib v p) (q : Nat) : RfAt (w.setCell ⟨ib, 1, none⟩ (.int .i64 (q : Int))) ib v q := by
  have := setOf 1 (.int .i64 (q : Int)) h
  simpa [RfAt] using this

set_option maxHeartbeats 400000 in
theorem refbits_bad (ib : Nat) (n : Int) (w : World) (hn : n < 0 ∨ 32 < n) :
    Calls Try.prog 12 #[.pointer (some ⟨ib, 0, none⟩), .int .i64 n] w fun e w' => e = .returned (.tuple #[.int .u32 0, .int .i64 10]) ∧ w' = w := by
  by_cases h0 : n < 0
  · clear hn
    go_enter Try.func12, Try.ntmps12
    go_wp2
    go_ret2
    exact ⟨rfl, rfl⟩
  · have h3 : 32 < n := by omega
    clear hn
    go_enter Try.func12, Try.ntmps12
    go_wp2
    go_ret2
    exact ⟨rfl, rfl⟩

set_option maxHeartbeats 400000 in
theorem refbits_ends (ib : Nat) (v : Value) (B : List Nat) (p n : Nat) (w : World) (h : RfAt w ib v p) (hv : Bs w v B) (hp : p ≤ 8 * B.length) (hl : B.length ≤ 140737488355328) (hn : n ≤ 32) (hlt : 8 * B.length < p + n) :
    Calls Try.prog 12 #[.pointer (some ⟨ib, 0, none⟩), .int .i64 (n : Int)] w fun e w' => e = .returned (.tuple #[.int .u32 0, .int .i64 11]) ∧ ∃ m, w' = w.drewN m := by
  go_enter Try.func12, Try.ntmps12
  go_wp2_with (go_at_call 21; refine (refleft_any _ _ _ _ _ h hv hp hl).mono ?_; rintro e w' ⟨rfl, m, rfl⟩)
  go_ret2
  exact ⟨rfl, _, rfl⟩

set_option maxHeartbeats 400000 in
theorem refbits_good (ib : Nat) (v : Value) (B : List Nat) (p n : Nat) (w : World) (h : RfAt w ib v p) (hv : Bs w v B) (hB : ∀ x ∈ B, x < 256) (hl : B.length ≤ 140737488355328) (hn : n ≤ 32) (hle : p + n ≤ 8 * B.length) :
    Calls Try.prog 12 #[.pointer (some ⟨ib, 0, none⟩), .int .i64 (n : Int)] w fun e w' => e = .returned (.tuple #[.int .u32 ((numAt B p n : Nat) : Int), .int .i64 0]) ∧ RfAt w' ib v (p + n) ∧ Fr (oneB ib) w w' := by
  have c1 := cellOf (o := 1) h rfl
  have f1 := freeOf 1 h
  have hp : p ≤ 8 * B.length := by omega
  have HN := fun m => number_any ib v B p n (w.drewN m) h hv hB hp hl hn
  go_enter Try.func12, Try.ntmps12
  go_wp2_with (first | (go_at_call 21; refine (refleft_any _ _ _ _ _ h hv hp hl).mono ?_; rintro e w' ⟨rfl, m, rfl⟩) | (go_at_call 39; refine (HN _).mono ?_; rintro e w' ⟨rfl, m2, rfl⟩))
  go_ret2
  rw [show ((p : Int) + (n : Int)) = ((p + n : Nat) : Int) from by omega]
  exact ⟨rfl, RfAt.moved (w := w.drewN _) h (p + n), ((Fr.refl _ _).drewN _).setOne _ _⟩

set_option maxHeartbeats 400000 in
theorem refpeek_bad (ib : Nat) (n : Int) (w : World) (hn : n < 0 ∨ 32 < n) :
    Calls Try.prog 14 #[.pointer (some ⟨ib, 0, none⟩), .int .i64 n] w fun e w' => e = .returned (.tuple #[.int .u32 0, .int .i64 10]) ∧ w' = w := by
  by_cases h0 : n < 0
  · clear hn
    go_enter Try.func14, Try.ntmps14
    go_wp2
    go_ret2
    exact ⟨rfl, rfl⟩
  · have h3 : 32 < n := by omega
    clear hn
    go_enter Try.func14, Try.ntmps14
    go_wp2
    go_ret2
    exact ⟨rfl, rfl⟩

set_option maxHeartbeats 400000 in
theorem refpeek_good (ib : Nat) (v : Value) (B : List Nat) (p n : Nat) (w : World) (h : RfAt w ib v p) (hv : Bs w v B) (hB : ∀ x ∈ B, x < 256) (hl : B.length ≤ 140737488355328) (hn : n ≤ 32) (hp : p ≤ 8 * B.length) :
    Calls Try.prog 14 #[.pointer (some ⟨ib, 0, none⟩), .int .i64 (n : Int)] w fun e w' => e = .returned (.tuple #[.int .u32 ((numAt B p n : Nat) : Int), .int .i64 0]) ∧ ∃ m, w' = w.drewN m := by
  go_enter Try.func14, Try.ntmps14
  go_wp2_with (go_at_call 39; refine (number_any _ _ _ _ _ _ h hv hB hp hl hn).mono ?_; rintro e w' ⟨rfl, m2, rfl⟩)
  go_ret2
  exact ⟨rfl, _, rfl⟩

set_option maxHeartbeats 400000 in
theorem refalign_any (ib : Nat) (v : Value) (p : Nat) (w : World) (h : RfAt w ib v p) (hp : p ≤ 1125899906842624) :
    Calls Try.prog 16 #[.pointer (some ⟨ib, 0, none⟩)] w fun e w' => e = .returned (.tuple #[]) ∧ RfAt w' ib v (8 * ((p + 7) / 8)) ∧ Fr (oneB ib) w w' := by
  have f1 := freeOf 1 h
  have c1 := cellOf (o := 1) h rfl
  go_enter Try.func16, Try.ntmps16
  go_wp2_with (go_at_call 23; refine (refused_any _ _ _ _ h (by omega)).mono ?_; rintro e w' ⟨rfl, rfl⟩)
  go_end0
  rw [show (8 * (((p : Int) + 7) / 8)) = ((8 * ((p + 7) / 8) : Nat) : Int) from by omega]
  exact ⟨rfl, h.moved _, (Fr.refl _ _).setOne _ _⟩

set_option maxHeartbeats 400000 in
theorem refbytes_bad (ib : Nat) (n : Int) (w : World) (hn : n < 0) :
    Calls Try.prog 18 #[.pointer (some ⟨ib, 0, none⟩), .int .i64 n] w fun e w' => e = .returned (.tuple #[.slice none 0 0, .int .i64 10]) ∧ w' = w := by
  go_enter Try.func18, Try.ntmps18
  go_wp2
  go_ret2
  exact ⟨rfl, rfl⟩

set_option maxHeartbeats 400000 in
theorem refbytes_ends (ib : Nat) (v : Value) (B : List Nat) (p n : Nat) (w : World) (h : RfAt w ib v p) (hv : Bs w v B) (hp : p ≤ 8 * B.length) (hl : B.length ≤ 140737488355328) (hn : B.length < (p + 7) / 8 + n) :
    Calls Try.prog 18 #[.pointer (some ⟨ib, 0, none⟩), .int .i64 (n : Int)] w fun e w' => e = .returned (.tuple #[.slice none 0 0, .int .i64 11]) ∧ w' = w := by
  have c0 := cellOf (o := 0) h rfl
  obtain ⟨ao, cap, rfl, h1, h2, h4, h3⟩ := hv
  clear h3
  go_enter Try.func18, Try.ntmps18
  go_wp2_with (go_at_call 23; refine (refused_any _ _ _ _ h (by omega)).mono ?_; rintro e w' ⟨rfl, rfl⟩)
  go_ret2
  exact ⟨rfl, rfl⟩

end Go.Proofs.Ytokgolmioonbfaa
