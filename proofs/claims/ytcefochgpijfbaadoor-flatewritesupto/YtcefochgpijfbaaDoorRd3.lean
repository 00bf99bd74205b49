/- More contracts of the reader: Used, Bytes. -/
import Derived.Test.YtcefochgpijfbaaDoorRd2
namespace Go.Proofs.YtcefochgpijfbaaDoor
open Go.RowKit

set_option maxRecDepth 100000 in
set_option maxHeartbeats 400000 in
theorem whole_any (n : Nat) (w : World) (h : n ≤ 4611686018427387904) :
    Calls Tryd.prog 40 #[.int .i64 (n : Int)] w fun e w' => e = .returned (.int .i64 (((n + 7) / 8 : Nat) : Int)) ∧ w' = w := by
  go_enter Tryd.func40, Tryd.ntmps40
  go_wp2
  go_ret
  exact ⟨ret_int (by omega), rfl⟩
set_option maxRecDepth 100000 in
set_option maxHeartbeats 400000 in
theorem used_any (rb g n p : Nat) (w : World) (h : RdAt w rb g n p) (hp : p ≤ 8 * n) (hn : n ≤ 140737488355328) :
    Calls Tryd.prog 20 #[.pointer (some ⟨rb, 0, none⟩)] w fun e w' => e = .returned (.int .i64 (((p + 7) / 8 : Nat) : Int)) ∧ w' = w := by
  have c2 := cellOf (o := 2) h rfl
  go_enter Tryd.func20, Tryd.ntmps20
  go_wp2_with (first | (go_at_call 39; refine (ready_any _ _ _ _ _ h).mono ?_; rintro e w' ⟨rfl, rfl⟩) | (go_at_call 40; refine (whole_any _ _ (by omega)).mono ?_; rintro e w' ⟨rfl, rfl⟩))
  go_ret
  exact ⟨rfl, rfl⟩
set_option maxRecDepth 100000 in
set_option maxHeartbeats 400000 in
theorem bytes_bad (rb g l p : Nat) (n : Int) (w : World) (h : RdAt w rb g l p) (hn : n < 0) :
    Calls Tryd.prog 87 #[.pointer (some ⟨rb, 0, none⟩), .int .i64 n] w fun e w' => e = .returned (.tuple #[.slice none 0 0, .int .i64 10]) ∧ w' = w := by
  go_enter Tryd.func87, Tryd.ntmps87
  go_wp2_with (first | (go_at_call 39; refine (ready_any _ _ _ _ _ h).mono ?_; rintro e w' ⟨rfl, rfl⟩))
  go_ret2
  exact ⟨rfl, rfl⟩
set_option maxRecDepth 100000 in
set_option maxHeartbeats 400000 in
theorem bytes_ends (rb g l p n : Nat) (w : World) (h : RdAt w rb g l p) (hp : p ≤ 8 * l) (hl : l ≤ 140737488355328) (hn : l < (p + 7) / 8 + n) :
    Calls Tryd.prog 87 #[.pointer (some ⟨rb, 0, none⟩), .int .i64 (n : Int)] w fun e w' => e = .returned (.tuple #[.slice none 0 0, .int .i64 11]) ∧ w' = w := by
  have c1 := cellOf (o := 1) h rfl
  go_enter Tryd.func87, Tryd.ntmps87
  go_wp2_with (first | (go_at_call 39; refine (ready_any _ _ _ _ _ h).mono ?_; rintro e w' ⟨rfl, rfl⟩) | (go_at_call 20; refine (used_any _ _ _ _ _ h hp hl).mono ?_; rintro e w' ⟨rfl, rfl⟩))
  go_ret2
  exact ⟨rfl, rfl⟩
theorem bytes_fin {w w2 : World} {rb g l p n : Nat} (q : Nat) {cs cur : List Value} (h : RdAt w rb g l p) (hcl : cs.length = n) (hcur : cur.length = n) (hn : n ≤ maxLen)
    (HG : w2.heap[w.heap.size]? = some (.cells (splice cur 0 cs).toArray 5 (0, 0))) (hB : Below w.heap.size w w2) :
    (w2.setCell ⟨rb, 2, none⟩ (.int .i64 (q : Int))).ownsRow w.heap.size 5 1 (.slice (some ⟨w.heap.size, 0, none⟩) n n) n cs ∧ RdAt (w2.setCell ⟨rb, 2, none⟩ (.int .i64 (q : Int))) rb g l q ∧ Fr (oneB rb) w (w2.setCell ⟨rb, 2, none⟩ (.int .i64 (q : Int))) := by
  have hrb := lt_of_block h
  rw [splice_all _ _ (by omega)] at HG
  refine ⟨⟨by omega, Or.inr ⟨w.heap.size, n, cs.toArray, rfl, Nat.le_refl _, ?_, Nat.le_refl _, hn, by simp [hcl], by simp [← hcl]⟩⟩, ?_, ?_⟩
  · rw [Below.heap_setCell _ _ _ _ (by show w.heap.size ≠ rb; omega)]; exact HG
  · exact RdAt.moved ((Fr.ofBelow (S := noB) hB).obj h id) q
  · exact (Fr.ofBelow hB).setOne _ _
set_option maxRecDepth 100000 in
set_option maxHeartbeats 800000 in
theorem bytes_good (rb g p n f : Nat) (B : List Nat) (w : World) (hR : RdAt w rb g B.length p) (hr : RowAt w g B) (hp : p ≤ 8 * B.length) (hl : B.length ≤ 140737488355328) (hf : f = (p + 7) / 8) (hn : f + n ≤ B.length) :
    Calls Tryd.prog 87 #[.pointer (some ⟨rb, 0, none⟩), .int .i64 (n : Int)] w fun e w' => ∃ v, e = .returned (.tuple #[v, .int .i64 0]) ∧ w'.ownsRow w.heap.size 5 1 v n (byteVals ((B.drop f).take n)) ∧ RdAt w' rb g B.length (8 * (f + n)) ∧ Fr (oneB rb) w w' := by
  obtain ⟨i0, hi, hz0, hz1, hz2⟩ := info_parts Tryd.info5
  have c1 := cellOf (o := 1) hR rfl
  have HU := fun W hW => used_any rb g B.length p W hW hp hl
  rw [← hf] at HU
  clear hf
  go_enter Tryd.func87, Tryd.ntmps87
  go_wp2_with (first | (go_at_call 39; refine (ready_any _ _ _ _ _ hR).mono ?_; rintro e w' ⟨rfl, rfl⟩) | (go_at_call 20; refine (HU _ hR).mono ?_; rintro e w' ⟨rfl, rfl⟩) | (at_make; refine wpList_make_full _ rfl (.tmp 24) (.tmp 24) 22 rfl _ 5 i0 (.int .u8 0) 1 Tryd.underlying22 hi hz0 hz1 .i64 .i64 _ _ n rfl rfl rfl rfl (by rw [hz2]; omega) (by unfold maxLen; omega) (Nat.le_refl _) ?_))
  intro w1 hown hgrow
  obtain ⟨cur, hcur, hrow⟩ := row_of_made hown
  have hb1 : Below w'.heap.size w' w1 := (Below.refl _ _).grown hgrow (Nat.le_refl _) (by simp)
  have hr1 : RowAt w1 g B := (Fr.ofBelow (S := noB) hb1).obj hr id
  have d1 := cellOf (o := 1) ((Fr.ofBelow (S := noB) hb1).obj hR id) rfl
  obtain ⟨cs, hcs⟩ : ∃ cs, cs = byteVals ((B.drop f).take n) := ⟨_, rfl⟩
  have hlen : cs.length = n := by rw [hcs]; simp; omega
  have hmin : cs.length = Nat.min (B.length - f) n := by rw [hlen]; show n = min _ _; omega
  have hone : ∀ v ∈ cs, v.oneCell' = true := by rw [hcs]; exact byteVals_one _
  have hfit : 0 + cs.length ≤ cur.length := by omega
  have hsrc : Src w1 (some ⟨g, f, none⟩) cs := by
    rw [hcs]
    refine Src.of (Or.inr ⟨g, f, rfl, fun i hi => ?_⟩)
    have hi' : f + i < B.length := by simp at hi; omega
    have := rowCell hr1 (f + i) hi'
    simpa [hi'] using this
  have HCS : Hid (cs = byteVals ((B.drop f).take n)) := hcs
  have HL : Hid (cs.length = n) := hlen
  have HC : Hid (cur.length = n) := hcur
  have HR : Hid (w1.heap[w'.heap.size]? = some (.cells cur.toArray 5 (0, 0))) := hrow
  clear hcs hlen hcur hrow hown hgrow c1 HU hr1
  by_cases h0 : n = 0
  · subst h0
    have h00 : cs = [] := List.eq_nil_of_length_eq_zero HL.out
    by_cases hfl : f = B.length
    · subst hfl
      have hmin : cs.length = Nat.min 0 0 := by rw [h00]; rfl
      go_wp2_with (refine wpList_copy_splice rfl (.tmp 26) (.tmp 32) 22 22 rfl 5 Tryd.underlying22 Tryd.size5 _ _ _ _ _ _ rfl rfl w'.heap.size 0 cur 5 HR.out cs hmin (fun h0 => absurd h0 (by rw [h00]; simp)) hfit hone w'.heap.size w' hb1 (Nat.le_refl _) ?_; intro w2 HG2 hB2; have f2 : w2.frozen? ⟨rb, 2, none⟩ = false := freeOf 2 ((Fr.ofBelow (S := noB) hB2).obj hR id); have d2 := cellOf (o := 2) ((Fr.ofBelow (S := noB) hB2).obj hR id) rfl)
      go_ret2
      have hfin := bytes_fin (8 * B.length) hR HL.out HC.out (by unfold maxLen; omega) HG2.out hB2
      rw [HCS.out] at hfin
      exact ⟨_, rfl, by simpa using hfin⟩
    · have hfl' : f < B.length := by omega
      go_wp2_with (refine wpList_copy_splice rfl (.tmp 26) (.tmp 32) 22 22 rfl 5 Tryd.underlying22 Tryd.size5 _ _ _ _ _ _ rfl rfl w'.heap.size 0 cur 5 HR.out cs hmin (fun h0 => absurd h0 (by rw [h00]; simp)) hfit hone w'.heap.size w' hb1 (Nat.le_refl _) ?_; intro w2 HG2 hB2; have f2 : w2.frozen? ⟨rb, 2, none⟩ = false := freeOf 2 ((Fr.ofBelow (S := noB) hB2).obj hR id); have d2 := cellOf (o := 2) ((Fr.ofBelow (S := noB) hB2).obj hR id) rfl)
      go_ret2
      have hfin := bytes_fin (8 * (f + 0)) hR HL.out HC.out (by unfold maxLen; omega) HG2.out hB2
      rw [HCS.out] at hfin
      exact ⟨_, rfl, hfin⟩
  · go_wp2_with (refine wpList_copy_splice rfl (.tmp 26) (.tmp 32) 22 22 rfl 5 Tryd.underlying22 Tryd.size5 _ _ _ _ _ _ rfl rfl w'.heap.size 0 cur 5 HR.out cs hmin (fun h0 => ⟨rfl, hsrc.get h0⟩) hfit hone w'.heap.size w' hb1 (Nat.le_refl _) ?_; intro w2 HG2 hB2; have f2 : w2.frozen? ⟨rb, 2, none⟩ = false := freeOf 2 ((Fr.ofBelow (S := noB) hB2).obj hR id); have d2 := cellOf (o := 2) ((Fr.ofBelow (S := noB) hB2).obj hR id) rfl)
    go_ret2
    have hfin := bytes_fin (8 * (f + n)) hR HL.out HC.out (by unfold maxLen; omega) HG2.out hB2
    rw [HCS.out, show ((8 * (f + n) : Nat) : Int) = 8 * ((f : Int) + (n : Int)) from by omega] at hfin
    exact ⟨_, rfl, hfin⟩
end Go.Proofs.YtcefochgpijfbaaDoor
