/- The contracts of the document's own reader where it is the head of its state (made of RfT by mksrf.py). -/
import Derived.Test.YthgnhcdodfildaaDoorK08
import Derived.Test.YthgnhcdodfildaaDoorK25
namespace Go.Proofs.YthgnhcdodfildaaDoor
open Go.RowKit

/-- Block ib is the document's state: its reader over the slice v, at bit p; how much may be said, what was said, the error, the blocks. -/
def SfAt (mo : Int) (ov bv : Value) (er : Nat) (w : World) (ib : Nat) (v : Value) (p : Nat) : Prop := w.heap[ib]? = some (.cells #[v, .int .i64 (p : Int), .int .i64 mo, ov, .int .i64 (er : Int), bv] 57 (0, 0))
variable (mo : Int) (ov bv : Value) (er : Nat)
theorem bitN_zero (k : Nat) : bitN 0 k = 0 := by simp [bitN]
theorem refbit_num (x k : Nat) (_hx : x < 256) : (x : Int) / 2 ^ k % 4294967296 % 2 = ((bitN x k : Nat) : Int) := by
  have h3 : ((x : Int) / 2 ^ k) = ((x / 2 ^ k : Nat) : Int) := by simp
  have h4 : x / 2 ^ k ≤ x := Nat.div_le_self _ _
  rw [h3, bitN_eq]
  generalize x / 2 ^ k = y at *
  omega
set_option maxRecDepth 100000 in
set_option maxHeartbeats 400000 in
theorem bit_any (v : Value) (B : List Nat) (j : Int) (w : World) (hv : Bs w v B) (hB : ∀ x ∈ B, x < 256) (hl : B.length ≤ 140737488355328) (h0 : 0 ≤ j) (h9 : j ≤ 4611686018427387904) :
    Calls Tryd.prog 96 #[v, .int .i64 j] w fun e w' => e = .returned (.int .u32 ((bitN (B.getD (j.toNat / 8) 0) (j.toNat % 8) : Nat) : Int)) ∧ w' = w := by
  obtain ⟨i, rfl⟩ := Int.eq_ofNat_of_zero_le h0
  simp only [Int.toNat_natCast]
  obtain ⟨ao, cap, rfl, h1, h2, h4, h3⟩ := hv
  by_cases hi : i < 8 * B.length
  · rcases h3 with rfl | ⟨b, off, rfl, hb, hc⟩
    · simp at hi
    · have hi8 : i / 8 < B.length := by omega
      have hcell := hc (i / 8) hi8
      have hg : B.getD (i / 8) 0 = B[i / 8] := by simp [hi8]
      have hx := getD_lt hB (i / 8)
      rw [hg] at hx ⊢
      generalize B[i / 8] = x at *
      clear hc hg
      go_enter Tryd.func96, Tryd.ntmps96
      go_wp2
      go_ret
      exact ⟨ret_int (refbit_num x (i % 8) hx), rfl⟩
  · have hz : B.getD (i / 8) 0 = 0 := by
      have : ¬ i / 8 < B.length := by omega
      simp [this]
    rw [hz, bitN_zero]
    clear hz h3
    go_enter Tryd.func96, Tryd.ntmps96
    go_wp2
    go_ret
    exact ⟨rfl, rfl⟩
set_option maxRecDepth 100000 in
set_option maxHeartbeats 400000 in
theorem refleft_any (ib : Nat) (v : Value) (B : List Nat) (p : Nat) (w : World) (h : SfAt mo ov bv er w ib v p) (hv : Bs w v B) (hp : p ≤ 8 * B.length) (hl : B.length ≤ 140737488355328) :
    Calls Tryd.prog 80 #[.pointer (some ⟨ib, 0, none⟩)] w fun e w' => e = .returned (.int .i64 ((8 * B.length - p : Nat) : Int)) ∧ ∃ m, w' = w.drewN m := by
  have c0 := cellOf (o := 0) h rfl
  have c1 := cellOf (o := 1) h rfl
  obtain ⟨ao, cap, rfl, h1, h2, h4, h3⟩ := hv
  clear h3 h
  go_enter Tryd.func80, Tryd.ntmps80
  go_wp2
  go_quiet (fail)
  go_wp2
  go_ret
  exact ⟨ret_int (by omega), nq, rfl⟩
set_option maxRecDepth 100000 in
set_option maxHeartbeats 400000 in
theorem refused_any (ib : Nat) (v : Value) (p : Nat) (w : World) (h : SfAt mo ov bv er w ib v p) (hp : p ≤ 4611686018427387904) :
    Calls Tryd.prog 17 #[.pointer (some ⟨ib, 0, none⟩)] w fun e w' => e = .returned (.int .i64 (((p + 7) / 8 : Nat) : Int)) ∧ w' = w := by
  have c1 := cellOf (o := 1) h rfl
  clear h
  go_enter Tryd.func17, Tryd.ntmps17
  go_wp2
  go_ret
  exact ⟨ret_int (by omega), rfl⟩
set_option maxRecDepth 100000 in
set_option maxHeartbeats 800000 in
theorem refnumber_any (ib : Nat) (v : Value) (B : List Nat) (p n : Nat) (w : World) (h : SfAt mo ov bv er w ib v p) (hv : Bs w v B) (hB : ∀ x ∈ B, x < 256) (hp : p ≤ 8 * B.length) (hl : B.length ≤ 140737488355328) (hn : n ≤ 32) :
    Calls Tryd.prog 81 #[.pointer (some ⟨ib, 0, none⟩), .int .i64 (n : Int)] w fun e w' => e = .returned (.int .u32 ((numAt B p n : Nat) : Int)) ∧ ∃ m, w' = w.drewN m := by
  have c0 := cellOf (o := 0) h rfl
  have c1 := cellOf (o := 1) h rfl
  clear h
  go_enter Tryd.func81, Tryd.ntmps81
  go_wp2_with fail
  go_loopw [5, 6] (fun t i wr => ∃ k : Nat, k ≤ n ∧ i = .int .i64 (k : Int) ∧ t = .int .u32 ((numAt B p k : Nat) : Int) ∧ ∃ m, wr = w.drewN m) (fun _ i _ => n - (intOf i).toNat)
  case atStart => exact ⟨0, Nat.zero_le _, rfl, rfl, 0, rfl⟩
  case round =>
    obtain ⟨k, hk, rfl, rfl, hm⟩ := hrel
    have hvr : Bs wr v B := by obtain ⟨m, rfl⟩ := hm; exact hv
    have d0 : wr.cell? ⟨ib, 0, none⟩ = some v := by obtain ⟨m, rfl⟩ := hm; exact c0
    have d1 : wr.cell? ⟨ib, 1, none⟩ = some (.int .i64 (p : Int)) := by obtain ⟨m, rfl⟩ := hm; exact c1
    have HM : Hid (∃ m, wr = w.drewN m) := hm
    clear hm c0 c1 hv
    by_cases hlt : k < n
    · have hwrap : IntKind.i64.wrap ((p : Int) + (k : Int)) = (p : Int) + (k : Int) := by rw [IntKind.wrap_i64]; omega
      have HB := fun (q : Nat) (j : Int) h0 h9 => bit_any v B j (wr.drewN q) hvr hB hl h0 h9
      go_wp2_with fail
      go_quiet ((go_at_call 96; exact Calls.quiet_of_same (HB _ _ (by omega) (by omega))))
      go_wp2
      go_roundw
      case rel =>
        refine ⟨k + 1, by omega, by go_num, congrArg (Value.int .u32) (add_step _ _ k (numAt_lt _ _ _) (bitN_le _ _) (by omega)), ?_⟩
        obtain ⟨m, hm⟩ := HM.out
        exact ⟨m + nq, by rw [hm, World.drewN_drewN]⟩
      case measure => simp [intOf]; omega
    · go_wp2_with fail
      go_ret
      have : k = n := by omega
      subst this
      exact ⟨rfl, HM.out⟩
theorem SfAt.moved {mo : Int} {ov bv : Value} {er : Nat} {w : World} {ib p : Nat} {v : Value} (h : SfAt mo ov bv er w ib v p) (q : Nat) : SfAt mo ov bv er (w.setCell ⟨ib, 1, none⟩ (.int .i64 (q : Int))) ib v q := by
  have := setOf 1 (.int .i64 (q : Int)) h
  simpa [SfAt] using this
set_option maxRecDepth 100000 in
set_option maxHeartbeats 400000 in
theorem refbits_bad (ib : Nat) (n : Int) (w : World) (hn : n < 0 ∨ 32 < n) :
    Calls Tryd.prog 57 #[.pointer (some ⟨ib, 0, none⟩), .int .i64 n] w fun e w' => e = .returned (.tuple #[.int .u32 0, .int .i64 10]) ∧ w' = w := by
  by_cases h0 : n < 0
  · clear hn
    go_enter Tryd.func57, Tryd.ntmps57
    go_wp2
    go_ret2
    exact ⟨rfl, rfl⟩
  · have h3 : 32 < n := by omega
    clear hn
    go_enter Tryd.func57, Tryd.ntmps57
    go_wp2
    go_ret2
    exact ⟨rfl, rfl⟩
set_option maxRecDepth 100000 in
set_option maxHeartbeats 400000 in
theorem refbits_ends (ib : Nat) (v : Value) (B : List Nat) (p n : Nat) (w : World) (h : SfAt mo ov bv er w ib v p) (hv : Bs w v B) (hp : p ≤ 8 * B.length) (hl : B.length ≤ 140737488355328) (hn : n ≤ 32) (hlt : 8 * B.length < p + n) :
    Calls Tryd.prog 57 #[.pointer (some ⟨ib, 0, none⟩), .int .i64 (n : Int)] w fun e w' => e = .returned (.tuple #[.int .u32 0, .int .i64 11]) ∧ ∃ m, w' = w.drewN m := by
  go_enter Tryd.func57, Tryd.ntmps57
  go_wp2_with (go_at_call 80; refine (refleft_any mo ov bv er _ _ _ _ _ h hv hp hl).mono ?_; rintro e w' ⟨rfl, m, rfl⟩)
  go_ret2
  exact ⟨rfl, _, rfl⟩
set_option maxRecDepth 100000 in
set_option maxHeartbeats 400000 in
theorem refbits_good (ib : Nat) (v : Value) (B : List Nat) (p n : Nat) (w : World) (h : SfAt mo ov bv er w ib v p) (hv : Bs w v B) (hB : ∀ x ∈ B, x < 256) (hl : B.length ≤ 140737488355328) (hn : n ≤ 32) (hle : p + n ≤ 8 * B.length) :
    Calls Tryd.prog 57 #[.pointer (some ⟨ib, 0, none⟩), .int .i64 (n : Int)] w fun e w' => e = .returned (.tuple #[.int .u32 ((numAt B p n : Nat) : Int), .int .i64 0]) ∧ SfAt mo ov bv er w' ib v (p + n) ∧ Fr (oneB ib) w w' := by
  have c1 := cellOf (o := 1) h rfl
  have f1 := freeOf 1 h
  have hp : p ≤ 8 * B.length := by omega
  have HN := fun m => refnumber_any mo ov bv er ib v B p n (w.drewN m) h hv hB hp hl hn
  go_enter Tryd.func57, Tryd.ntmps57
  go_wp2_with (first | (go_at_call 80; refine (refleft_any mo ov bv er _ _ _ _ _ h hv hp hl).mono ?_; rintro e w' ⟨rfl, m, rfl⟩) | (go_at_call 81; refine (HN _).mono ?_; rintro e w' ⟨rfl, m2, rfl⟩))
  go_ret2
  rw [show ((p : Int) + (n : Int)) = ((p + n : Nat) : Int) from by omega]
  exact ⟨rfl, SfAt.moved (w := w.drewN _) h (p + n), ((Fr.refl _ _).drewN _).setOne _ _⟩
set_option maxRecDepth 100000 in
set_option maxHeartbeats 400000 in
theorem refalign_any (ib : Nat) (v : Value) (p : Nat) (w : World) (h : SfAt mo ov bv er w ib v p) (hp : p ≤ 1125899906842624) :
    Calls Tryd.prog 58 #[.pointer (some ⟨ib, 0, none⟩)] w fun e w' => e = .returned (.tuple #[]) ∧ SfAt mo ov bv er w' ib v (8 * ((p + 7) / 8)) ∧ Fr (oneB ib) w w' := by
  have f1 := freeOf 1 h
  have c1 := cellOf (o := 1) h rfl
  go_enter Tryd.func58, Tryd.ntmps58
  go_wp2_with (go_at_call 17; refine (refused_any mo ov bv er _ _ _ _ h (by omega)).mono ?_; rintro e w' ⟨rfl, rfl⟩)
  go_end0
  rw [show (8 * (((p : Int) + 7) / 8)) = ((8 * ((p + 7) / 8) : Nat) : Int) from by omega]
  exact ⟨rfl, h.moved _, (Fr.refl _ _).setOne _ _⟩
set_option maxRecDepth 100000 in
set_option maxHeartbeats 400000 in
theorem refbytes_bad (ib : Nat) (n : Int) (w : World) (hn : n < 0) :
    Calls Tryd.prog 59 #[.pointer (some ⟨ib, 0, none⟩), .int .i64 n] w fun e w' => e = .returned (.tuple #[.slice none 0 0, .int .i64 10]) ∧ w' = w := by
  go_enter Tryd.func59, Tryd.ntmps59
  go_wp2
  go_ret2
  exact ⟨rfl, rfl⟩
set_option maxRecDepth 100000 in
set_option maxHeartbeats 400000 in
theorem refbytes_ends (ib : Nat) (v : Value) (B : List Nat) (p n : Nat) (w : World) (h : SfAt mo ov bv er w ib v p) (hv : Bs w v B) (hp : p ≤ 8 * B.length) (hl : B.length ≤ 140737488355328) (hn : B.length < (p + 7) / 8 + n) :
    Calls Tryd.prog 59 #[.pointer (some ⟨ib, 0, none⟩), .int .i64 (n : Int)] w fun e w' => e = .returned (.tuple #[.slice none 0 0, .int .i64 11]) ∧ w' = w := by
  have c0 := cellOf (o := 0) h rfl
  obtain ⟨ao, cap, rfl, h1, h2, h4, h3⟩ := hv
  clear h3
  go_enter Tryd.func59, Tryd.ntmps59
  go_wp2_with (go_at_call 17; refine (refused_any mo ov bv er _ _ _ _ h (by omega)).mono ?_; rintro e w' ⟨rfl, rfl⟩)
  go_ret2
  exact ⟨rfl, rfl⟩
theorem reffin {mo : Int} {ov bv : Value} {er : Nat} {w w1 w2 : World} {ib p n q : Nat} {v u : Value} {cs : List Value} (h : SfAt mo ov bv er w ib v p) (hw1 : w1 = w.setCell ⟨ib, 1, none⟩ (.int .i64 (q : Int)))
    (hown : w2.ownsRow w1.heap.size 5 1 u (0 + n) ([] ++ cs)) (hg : w1.grownBy w2 (Value.slice none 0 0).ownBlock) :
    w2.ownsRow w.heap.size 5 1 u n cs ∧ SfAt mo ov bv er w2 ib v q ∧ Fr (oneB ib) w w2 := by
  subst hw1
  have hm := h.moved q
  have hf : Fr (oneB ib) w (w.setCell ⟨ib, 1, none⟩ (.int .i64 (q : Int))) := (Fr.refl _ _).setOne _ _
  have hf2 : Fr (oneB ib) w w2 := hf.grown hg (by simp [Value.ownBlock])
  have hsz : (w.setCell ⟨ib, 1, none⟩ (.int .i64 (q : Int))).heap.size = w.heap.size := by simp [World.setCell]
  rw [hsz] at hown
  refine ⟨by simpa using hown, ?_, hf2⟩
  exact (hg.block ib (by rw [hsz]; exact lt_of_block h) (by simp [Value.ownBlock])).trans hm
set_option maxRecDepth 100000 in
set_option maxHeartbeats 400000 in
theorem refbytes_good (hov : ∀ k i, ov ≠ .int k i) (hbv : ∀ k i, bv ≠ .int k i) (ib : Nat) (v : Value) (B : List Nat) (p n f : Nat) (w : World) (h : SfAt mo ov bv er w ib v p) (hv : Bs w v B) (hp : p ≤ 8 * B.length) (hl : B.length ≤ 140737488355328) (hf : f = (p + 7) / 8) (hn : f + n ≤ B.length) :
    Calls Tryd.prog 59 #[.pointer (some ⟨ib, 0, none⟩), .int .i64 (n : Int)] w fun e w' => ∃ u, e = .returned (.tuple #[u, .int .i64 0]) ∧ w'.ownsRow w.heap.size 5 1 u n (byteVals ((B.drop f).take n)) ∧ SfAt mo ov bv er w' ib v (8 * (f + n)) ∧ Fr (oneB ib) w w' := by
  have c0 := cellOf (o := 0) h rfl
  have f1 := freeOf 1 h
  have c1 := cellOf (o := 1) h rfl
  have HU := fun W hW => refused_any mo ov bv er ib v p W hW (by omega)
  rw [← hf] at HU
  clear hf
  obtain ⟨ao, cap, rfl, h1, h2, h4, h3⟩ := hv
  obtain ⟨i0, hi, hz0, hz1, hz2⟩ := info_parts Tryd.info5
  obtain ⟨cs, hcs⟩ : ∃ cs, cs = byteVals ((B.drop f).take n) := ⟨_, rfl⟩
  rw [← hcs]
  have hlen : cs.length = n := by rw [hcs]; simp; omega
  have hone : ∀ v ∈ cs, v.oneCell' = true := by rw [hcs]; exact byteVals_one _
  have hib := lt_of_block h
  have hl8 : (0 + n) * 1 ≤ 140737488355328 := by omega
  have hl63 : 0 + n ≤ maxLen := by unfold maxLen; omega
  obtain ⟨W1, hW1⟩ : ∃ W1, W1 = w.setCell ⟨ib, 1, none⟩ (.int .i64 (8 * ((f : Int) + (n : Int)))) := ⟨_, rfl⟩
  have hW1' : W1 = w.setCell ⟨ib, 1, none⟩ (.int .i64 ((8 * (f + n) : Nat) : Int)) := by rw [hW1, show ((8 * (f + n) : Nat) : Int) = 8 * ((f : Int) + (n : Int)) from by omega]
  have HFIN := fun (u : Value) (w2 : World) (h1 : w2.ownsRow W1.heap.size 5 1 u (0 + n) ([] ++ cs)) h2 => reffin (u := u) (w2 := w2) h hW1' h1 h2
  have hsrc : 0 < n → ∃ b off, ao = some ⟨b, off, none⟩ ∧ Src W1 (some ⟨b, off + f, none⟩) cs := by
    intro h0
    rcases h3 with rfl | ⟨b, off, rfl, hb, hc⟩
    · simp at hn; omega
    · refine ⟨b, off, rfl, ?_⟩
      rw [hcs]
      refine Src.of (Or.inr ⟨b, off + f, rfl, fun i hi => ?_⟩)
      have hi' : f + i < B.length := by simp at hi; omega
      have hcc := hc (f + i) hi'
      have hne : b ≠ ib := by
        rintro rfl
        have hh := h
        unfold SfAt at hh
        simp only [World.cell?, hh] at hcc
        generalize off + (f + i) = o at hcc
        match o, hcc with
        | 0, hcc => simp at hcc
        | 1, hcc => simp at hcc
        | 2, hcc => simp at hcc
        | 3, hcc => exact hov _ _ (by simpa using hcc)
        | 4, hcc => simp at hcc
        | 5, hcc => exact hbv _ _ (by simpa using hcc)
        | o + 6, hcc => simp at hcc
      rw [hW1, World.cell?_of_block (w := w) (a := ⟨b, off + f + i, none⟩) (Below.heap_setCell _ _ _ _ hne)]
      rw [Nat.add_assoc]
      simpa [hi'] using hcc
  have HCS : Hid (cs = byteVals ((B.drop f).take n)) := hcs
  have HL : Hid (cs.length = n) := hlen
  have HFI := Hid.out HFIN
  clear hcs hlen h3 hW1' HFIN
  by_cases h0 : n = 0
  · subst h0
    have hs0 : ∀ W sp, Src W sp cs := fun W sp => ⟨fun hh => by have := HL.out; omega⟩
    have hl0 : cs.length = 0 := HL.out
    clear hsrc
    cases ao with
    | none =>
      have hc0 := h4 rfl
      subst hc0
      have hB0 : B.length = 0 := by omega
      have hf0 : f = 0 := by omega
      subst hf0
      subst hW1
      obtain rfl : B = [] := List.eq_nil_of_length_eq_zero hB0
      simp only [List.length_nil] at h c0 HU HFI ⊢
      go_enter Tryd.func59, Tryd.ntmps59
      go_wp2_with (first | (go_at_call 17; refine (HU _ h).mono ?_; rintro e w' ⟨rfl, rfl⟩) | (at_builtin; refine wpList_append_src rfl (.tmp 28) (.tmp 37) 22 rfl _ 5 i0 (.int .u8 0) 1 Tryd.underlying22 hi hz0 hz1 hz2 rfl _ 0 [] rfl (World.ownsRow_nil _ _ _ _) _ 0 _ rfl (by simp) (by omega) cs HL.out (hs0 _ _) hone hl63 hl8 (Nat.le_refl _) ?_; intro u w2 hown hg))
      go_ret2
      exact ⟨_, rfl, HFI _ _ hown hg⟩
    | some x =>
      subst hW1
      by_cases hcf : cap = f
      · subst hcf
        go_enter Tryd.func59, Tryd.ntmps59
        go_wp2_with (first | (go_at_call 17; refine (HU _ h).mono ?_; rintro e w' ⟨rfl, rfl⟩) | (at_builtin; refine wpList_append_src rfl (.tmp 28) (.tmp 37) 22 rfl _ 5 i0 (.int .u8 0) 1 Tryd.underlying22 hi hz0 hz1 hz2 rfl _ 0 [] rfl (World.ownsRow_nil _ _ _ _) _ 0 _ rfl (by simp) (by omega) cs HL.out (hs0 _ _) hone hl63 hl8 (Nat.le_refl _) ?_; intro u w2 hown hg))
        go_ret2
        exact ⟨_, rfl, HFI _ _ hown hg⟩
      · have hcf' : f < cap := by omega
        go_enter Tryd.func59, Tryd.ntmps59
        go_wp2_with (first | (go_at_call 17; refine (HU _ h).mono ?_; rintro e w' ⟨rfl, rfl⟩) | (at_builtin; refine wpList_append_src rfl (.tmp 28) (.tmp 37) 22 rfl _ 5 i0 (.int .u8 0) 1 Tryd.underlying22 hi hz0 hz1 hz2 rfl _ 0 [] rfl (World.ownsRow_nil _ _ _ _) _ 0 _ rfl (by simp) (by omega) cs HL.out (hs0 _ _) hone hl63 hl8 (Nat.le_refl _) ?_; intro u w2 hown hg))
        go_ret2
        exact ⟨_, rfl, HFI _ _ hown hg⟩
  · obtain ⟨b, off, rfl, hs⟩ := hsrc (by omega)
    clear hsrc
    subst hW1
    have hadd := add_none b off f
    have HF : Hid (f + n - f = n) := by show f + n - f = n; omega
    have hcf' : f < cap := by omega
    go_enter Tryd.func59, Tryd.ntmps59
    go_wp2_with (first | (go_at_call 17; refine (HU _ h).mono ?_; rintro e w' ⟨rfl, rfl⟩) | (at_builtin; refine wpList_append_src rfl (.tmp 28) (.tmp 37) 22 rfl _ 5 i0 (.int .u8 0) 1 Tryd.underlying22 hi hz0 hz1 hz2 rfl _ 0 [] rfl (World.ownsRow_nil _ _ _ _) (some ⟨b, off + f, none⟩) (f + n - f) (cap - f) rfl (by simp) (by omega) cs (HL.out.trans HF.out.symm) hs hone (by omega) (by omega) (Nat.le_refl _) ?_; intro u w2 hown hg))
    go_ret2
    rw [HF.out] at hown
    exact ⟨_, rfl, HFI _ _ hown hg⟩
end Go.Proofs.YthgnhcdodfildaaDoor
/- The document's state: fail, bits, say. -/
namespace Go.Proofs.YthgnhcdodfildaaDoor
open Go.RowKit Go.Shelf
attribute [local go_sem ↓] Go.wp_at_zero Go.wp_at_succ

theorem SfAt.err {mo : Int} {ov bv : Value} {er : Nat} {w : World} {ib p : Nat} {v : Value} (h : SfAt mo ov bv er w ib v p) (e : Nat) : SfAt mo ov bv e (w.setCell ⟨ib, 4, none⟩ (.int .i64 (e : Int))) ib v p := by
  have := setOf 4 (.int .i64 (e : Int)) h
  simpa [SfAt] using this
/-- The first error stays. -/
def erA (er e : Nat) : Nat := if er = 0 then e else er
set_option maxRecDepth 100000 in
set_option maxHeartbeats 800000 in
theorem fail_any (mo : Int) (ov bv : Value) (er e : Nat) (ib : Nat) (v : Value) (p : Nat) (w : World) (h : SfAt mo ov bv er w ib v p) :
    Calls Tryd.prog 27 #[.pointer (some ⟨ib, 0, none⟩), .int .i64 (e : Int)] w fun x w' => x = .returned (.tuple #[]) ∧ SfAt mo ov bv (erA er e) w' ib v p ∧ Fr (oneB ib) w w' := by
  have c4 := cellOf (o := 4) h rfl
  have f4 := freeOf 4 h
  have HS : Hid (SfAt mo ov bv er w ib v p) := h
  unfold erA
  by_cases he : er = 0
  · subst he
    rw [if_pos rfl]
    clear h
    go_enter Tryd.func27, Tryd.ntmps27
    go_wp2_with fail
    go_end0
    exact ⟨rfl, HS.out.err e, (Fr.refl _ w).setOne _ _⟩
  · rw [if_neg he]
    have e1 : ((er : Int) == 0) = false := by simp; omega
    clear h
    go_enter Tryd.func27, Tryd.ntmps27
    go_wp2_with fail
    go_end0
    exact ⟨rfl, HS.out, Fr.refl _ w⟩
/-- The next bits, as the document reads them: what they are, the error, the place behind. -/
def rbA (B : List Nat) (er p n : Nat) : Nat × Nat × Nat := if er = 0 then bitA B p n else (0, er, p)
set_option maxRecDepth 100000 in
set_option maxHeartbeats 800000 in
theorem rbits_any (mo : Int) (ov bv : Value) (er : Nat) (ib : Nat) (v : Value) (B : List Nat) (p n : Nat) (w : World) (h : SfAt mo ov bv er w ib v p) (hv : Bs w v B) (hB : ∀ x ∈ B, x < 256) (hp : p ≤ 8 * B.length) (hl : B.length ≤ 140737488355328) (hn : n ≤ 32) :
    Calls Tryd.prog 39 #[.pointer (some ⟨ib, 0, none⟩), .int .i64 (n : Int)] w fun x w' => x = .returned (.int .i64 (((rbA B er p n).1 : Nat) : Int)) ∧ SfAt mo ov bv (rbA B er p n).2.1 w' ib v (rbA B er p n).2.2 ∧ Fr (oneB ib) w w' := by
  have c4 := cellOf (o := 4) h rfl
  have HS : Hid (SfAt mo ov bv er w ib v p) := h
  unfold rbA
  by_cases he : er = 0
  · subst he
    rw [if_pos rfl]
    unfold bitA
    by_cases hle : p + n ≤ 8 * B.length
    · rw [if_pos hle]
      have hlt : numAt B p n < 4294967296 := Nat.lt_of_lt_of_le (numAt_lt B p n) (Nat.pow_le_pow_right (n := 2) (by decide) hn)
      have C1 := refbits_good mo ov bv 0 ib v B p n w h hv hB hl hn hle
      clear h hv
      simp only
      generalize numAt B p n = x at *
      go_enter Tryd.func39, Tryd.ntmps39
      go_wp2_with (go_at_call 57; refine C1.mono ?_; rintro e w1 ⟨rfl, hS1, hF1⟩)
      go_ret
      exact ⟨rfl, hS1, hF1⟩
    · rw [if_neg hle]
      have C1 := refbits_ends mo ov bv 0 ib v B p n w h hv hp hl hn (by omega)
      have C2 := fun m => fail_any mo ov bv 0 33 ib v p (w.drewN m) h
      have HC2 : Hid _ := C2
      clear h hv C2
      go_enter Tryd.func39, Tryd.ntmps39
      go_wp2_with (go_at_call 57; refine C1.mono ?_; rintro e w1 ⟨rfl, m, rfl⟩)
      refine (HC2.out _).mono ?_
      rintro e w1 ⟨rfl, hS1, hF1⟩
      go_wp2_with fail
      go_ret
      exact ⟨rfl, hS1, ((Fr.refl _ w).drewN m).trans hF1⟩
  · rw [if_neg he]
    have e1 : ((er : Int) == 0) = false := by simp; omega
    have e2 : ((er : Int) != 0) = true := by simp; omega
    clear h hv
    go_enter Tryd.func39, Tryd.ntmps39
    go_wp2_with fail
    go_ret
    exact ⟨rfl, HS.out, Fr.refl _ w⟩
#print axioms rbits_any
end Go.Proofs.YthgnhcdodfildaaDoor
