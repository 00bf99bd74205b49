/- The contracts of bitio.NewReader and of the reader's Bytes. -/
import Derived.Test.YtcefochgpijfbaaDoorRd
namespace Go.Proofs.YtcefochgpijfbaaDoor
open Go.RowKit

theorem Tryd.info5 : (Tryd.prog.info? 5).map (fun i => (i.zero, i.size, i.bytes)) = some (some (.int .u8 0), 1, 1) := by kernel_rfl
theorem Tryd.size5 : (Tryd.prog.info? 5).map (·.size) = some 1 := by kernel_rfl

theorem row_of_made {w : World} {b n : Nat} {xs : List Value} (h : w.ownsRow b 5 1 (.slice (some ⟨b, 0, none⟩) n n) n xs) : ∃ cur : List Value, cur.length = n ∧ w.heap[b]? = some (.cells cur.toArray 5 (0, 0)) := by
  obtain ⟨_, h2⟩ := h
  rcases h2 with ⟨h2, _⟩ | ⟨g, cap, cur, hv, hg, hh, h3, h4, h5, h6⟩
  · cases h2
  · simp at hv
    obtain ⟨rfl, rfl⟩ := hv
    exact ⟨cur.toList, by simpa using h5, by simpa using hh⟩

theorem splice_all {α : Type} (L cs : List α) (h : cs.length = L.length) : splice L 0 cs = cs := by
  simp [splice, h]

set_option maxHeartbeats 800000 in
theorem newReader_any (v : Value) (B : List Nat) (w : World) (hv : Bs w v B) (hl : B.length ≤ 140737488355328) :
    Calls Tryd.prog 36 #[v] w fun e w' => ∃ rb g, e = .returned (.pointer (some ⟨rb, 0, none⟩)) ∧ w.heap.size ≤ rb ∧ w.heap.size ≤ g ∧ rb ≠ g ∧ RdAt w' rb g B.length 0 ∧ RowAt w' g B ∧ Fr noB w w' := by
  obtain ⟨i0, hi, hz0, hz1, hz2⟩ := info_parts Tryd.info5
  obtain ⟨ao, cap, rfl, h1, h2, _, h3⟩ := hv
  have hmin : (byteVals B).length = Nat.min B.length B.length := by simp
  go_enter Tryd.func36, Tryd.ntmps36
  go_wp2_with (at_make; refine wpList_make_full _ rfl (.tmp 5) (.tmp 5) 22 rfl w.heap.size 5 i0 (.int .u8 0) 1 Tryd.underlying22 hi hz0 hz1 .i64 .i64 _ _ B.length rfl rfl rfl rfl (by rw [hz2]; omega) (by unfold maxLen; omega) (Nat.le_refl _) ?_)
  intro w1 hown hgrow
  obtain ⟨cur, hcur, hrow⟩ := row_of_made hown
  have hb1 : Below w.heap.size w w1 := (Below.refl _ _).grown hgrow (Nat.le_refl _) (by simp)
  have hsrc : Src w1 ao (byteVals B) := Src.of (by
    rcases h3 with h3 | ⟨b, off, rfl, hb, hc⟩
    · exact Or.inl h3
    · exact Or.inr ⟨b, off, rfl, fun i hi => (hb1.cell (p := ⟨b, off + i, none⟩) hb).trans (hc i hi)⟩)
  clear hown hgrow h3
  have hfit : 0 + (byteVals B).length ≤ cur.length := by simp [hcur]
  have HC : Hid (cur.length = B.length) := hcur
  clear hcur
  have HR : Hid (w1.heap[w.heap.size]? = some (.cells cur.toArray 5 (0, 0))) := hrow
  clear hrow
  go_wp2_with (refine wpList_copy_splice rfl (.tmp 7) (.tmp 8) 22 22 rfl 5 Tryd.underlying22 Tryd.size5 _ _ _ _ _ _ rfl rfl w.heap.size 0 cur 5 HR.out (byteVals B) hmin (fun h0 => ⟨rfl, hsrc.get h0⟩) hfit (byteVals_one B) w.heap.size w hb1 (Nat.le_refl _) ?_; intro w2 HG2 hB2)
  go_ret
  have hlt := lt_of_block HG2.out
  have hrow : RowAt w2 w.heap.size B := by
    have h := HG2.out
    rw [splice_all _ _ (by simpa using HC.out.symm)] at h
    exact h
  exact ⟨w2.heap.size, w.heap.size, rfl, hB2.size, Nat.le_refl _, by omega, heap_alloc_new _ _, (Below.heap_alloc _ _ _ hlt).trans hrow, (Fr.ofBelow hB2).alloc _⟩

end Go.Proofs.YtcefochgpijfbaaDoor
