/- The contract of the document's reader's Bytes where there are so many; bytes.Equal. -/
import Derived.Test.YtokgolmioonbfaaRf
import Derived.Test.YtokgolmioonbfaaRd2
namespace Go.Proofs.Ytokgolmioonbfaa
open Go.RowKit

theorem reffin {w w1 w2 : World} {ib p n q : Nat} {v u : Value} {cs : List Value} (h : RfAt w ib v p) (hw1 : w1 = w.setCell ⟨ib, 1, none⟩ (.int .i64 (q : Int)))
    (hown : w2.ownsRow w1.heap.size 5 1 u (0 + n) ([] ++ cs)) (hg : w1.grownBy w2 (Value.slice none 0 0).ownBlock) :
    w2.ownsRow w.heap.size 5 1 u n cs ∧ RfAt w2 ib v q ∧ Fr (oneB ib) w w2 := by
  subst hw1
  have hm := h.moved q
  have hf : Fr (oneB ib) w (w.setCell ⟨ib, 1, none⟩ (.int .i64 (q : Int))) := (Fr.refl _ _).setOne _ _
  have hf2 : Fr (oneB ib) w w2 := hf.grown hg (by simp [Value.ownBlock])
  have hsz : (w.setCell ⟨ib, 1, none⟩ (.int .i64 (q : Int))).heap.size = w.heap.size := by simp [World.setCell]
  rw [hsz] at hown
  refine ⟨by simpa using hown, ?_, hf2⟩
  exact (hg.block ib (by rw [hsz]; exact lt_of_block h) (by simp [Value.ownBlock])).trans hm

set_option maxHeartbeats 400000 in
theorem refbytes_good (ib : Nat) (v : Value) (B : List Nat) (p n f : Nat) (w : World) (h : RfAt w ib v p) (hv : Bs w v B) (hp : p ≤ 8 * B.length) (hl : B.length ≤ 140737488355328) (hf : f = (p + 7) / 8) (hn : f + n ≤ B.length) :
    Calls Try.prog 18 #[.pointer (some ⟨ib, 0, none⟩), .int .i64 (n : Int)] w fun e w' => ∃ u, e = .returned (.tuple #[u, .int .i64 0]) ∧ w'.ownsRow w.heap.size 5 1 u n (byteVals ((B.drop f).take n)) ∧ RfAt w' ib v (8 * (f + n)) ∧ Fr (oneB ib) w w' := by
  have c0 := cellOf (o := 0) h rfl
  have f1 := freeOf 1 h
  have c1 := cellOf (o := 1) h rfl
  have HU := fun W hW => refused_any ib v p W hW (by omega)
  rw [← hf] at HU
  clear hf
  obtain ⟨ao, cap, rfl, h1, h2, h4, h3⟩ := hv
  obtain ⟨i0, hi, hz0, hz1, hz2⟩ := info_parts Try.info5
  obtain ⟨cs, hcs⟩ : ∃ cs, cs = byteVals ((B.drop f).take n) := ⟨_, rfl⟩
  rw [← hcs]
  have hlen : cs.length = n := by rw [hcs]; simp; omega
  have hone : ∀ v ∈ cs, v.oneCell' = true := by rw [hcs]; exact byteVals_one _
  have hib := lt_of_block h
  have hl8 : (0 + n) * 1 ≤ 140737488355328 := by omega
  have hl63 : 0 + n ≤ maxLen := by unfold maxLen; omega
  obtain ⟨W1, hW1⟩ : ∃ W1, W1 = w.setCell ⟨ib, 1, none⟩ (.int .i64 (8 * ((f : Int) + (n : Int)))) := ⟨_, rfl⟩
  have hW1' : W1 = w.setCell ⟨ib, 1, none⟩ (.int .i64 ((8 * (f + n) : Nat) : Int)) := by rw [hW1, show ((8 * (f + n) : Nat) : Int) = 8 * ((f : Int) + (n : Int)) from by omega]
  have HFIN := fun (u : Value) (w2 : World) (h1 : w2.ownsRow W1.heap.size 5 1 u (0 + n) ([] ++ cs)) h2 => reffin (u := u) (w2 := w2) h hW1' h1 h2
  have hsrc : 0 < n → ∃ b off, ao = some ⟨b, off, none⟩ ∧ Src W1 (some ⟨b, off + f, none⟩) cs := by
    intro h0
    rcases h3 with rfl | ⟨b, off, rfl, hb, hc⟩
    · simp at hn; omega
    · refine ⟨b, off, rfl, ?_⟩
      rw [hcs]
      refine Src.of (Or.inr ⟨b, off + f, rfl, fun i hi => ?_⟩)
      have hi' : f + i < B.length := by simp at hi; omega
      have hcc := hc (f + i) hi'
      have hne : b ≠ ib := by
        rintro rfl
        have hh := h
        unfold RfAt at hh
        simp only [World.cell?, hh] at hcc
        generalize off + (f + i) = o at hcc
        match o, hcc with
        | 0, hcc => simp at hcc
        | 1, hcc => simp at hcc
        | o + 2, hcc => simp at hcc
      rw [hW1, World.cell?_of_block (w := w) (a := ⟨b, off + f + i, none⟩) (Below.heap_setCell _ _ _ _ hne)]
      rw [Nat.add_assoc]
      simpa [hi'] using hcc
  have HCS : Hid (cs = byteVals ((B.drop f).take n)) := hcs
  have HL : Hid (cs.length = n) := hlen
  have HFI := Hid.out HFIN
  clear hcs hlen h3 hW1' HFIN
  by_cases h0 : n = 0
  · subst h0
    have hs0 : ∀ W sp, Src W sp cs := fun W sp => ⟨fun hh => by have := HL.out; omega⟩
    have hl0 : cs.length = 0 := HL.out
    clear hsrc
    cases ao with
    | none =>
      have hc0 := h4 rfl
      subst hc0
      have hB0 : B.length = 0 := by omega
      have hf0 : f = 0 := by omega
      subst hf0
      subst hW1
      obtain rfl : B = [] := List.eq_nil_of_length_eq_zero hB0
      simp only [List.length_nil] at h c0 HU HFI ⊢
      go_enter Try.func18, Try.ntmps18
      go_wp2_with (first | (go_at_call 23; refine (HU _ h).mono ?_; rintro e w' ⟨rfl, rfl⟩) | (at_builtin; refine wpList_append_src rfl (.tmp 28) (.tmp 37) 22 rfl _ 5 i0 (.int .u8 0) 1 Try.underlying22 hi hz0 hz1 hz2 rfl _ 0 [] rfl (World.ownsRow_nil _ _ _ _) _ 0 _ rfl (by simp) (by omega) cs HL.out (hs0 _ _) hone hl63 hl8 (Nat.le_refl _) ?_; intro u w2 hown hg))
      go_ret2
      exact ⟨_, rfl, HFI _ _ hown hg⟩
    | some x =>
      subst hW1
      by_cases hcf : cap = f
      · subst hcf
        go_enter Try.func18, Try.ntmps18
        go_wp2_with (first | (go_at_call 23; refine (HU _ h).mono ?_; rintro e w' ⟨rfl, rfl⟩) | (at_builtin; refine wpList_append_src rfl (.tmp 28) (.tmp 37) 22 rfl _ 5 i0 (.int .u8 0) 1 Try.underlying22 hi hz0 hz1 hz2 rfl _ 0 [] rfl (World.ownsRow_nil _ _ _ _) _ 0 _ rfl (by simp) (by omega) cs HL.out (hs0 _ _) hone hl63 hl8 (Nat.le_refl _) ?_; intro u w2 hown hg))
        go_ret2
        exact ⟨_, rfl, HFI _ _ hown hg⟩
      · have hcf' : f < cap := by omega
        go_enter Try.func18, Try.ntmps18
        go_wp2_with (first | (go_at_call 23; refine (HU _ h).mono ?_; rintro e w' ⟨rfl, rfl⟩) | (at_builtin; refine wpList_append_src rfl (.tmp 28) (.tmp 37) 22 rfl _ 5 i0 (.int .u8 0) 1 Try.underlying22 hi hz0 hz1 hz2 rfl _ 0 [] rfl (World.ownsRow_nil _ _ _ _) _ 0 _ rfl (by simp) (by omega) cs HL.out (hs0 _ _) hone hl63 hl8 (Nat.le_refl _) ?_; intro u w2 hown hg))
        go_ret2
        exact ⟨_, rfl, HFI _ _ hown hg⟩
  · obtain ⟨b, off, rfl, hs⟩ := hsrc (by omega)
    clear hsrc
    subst hW1
    have hadd := add_none b off f
    have HF : Hid (f + n - f = n) := by show f + n - f = n; omega
    have hcf' : f < cap := by omega
    go_enter Try.func18, Try.ntmps18
    go_wp2_with (first | (go_at_call 23; refine (HU _ h).mono ?_; rintro e w' ⟨rfl, rfl⟩) | (at_builtin; refine wpList_append_src rfl (.tmp 28) (.tmp 37) 22 rfl _ 5 i0 (.int .u8 0) 1 Try.underlying22 hi hz0 hz1 hz2 rfl _ 0 [] rfl (World.ownsRow_nil _ _ _ _) (some ⟨b, off + f, none⟩) (f + n - f) (cap - f) rfl (by simp) (by omega) cs (HL.out.trans HF.out.symm) hs hone (by omega) (by omega) (Nat.le_refl _) ?_; intro u w2 hown hg))
    go_ret2
    rw [HF.out] at hown
    exact ⟨_, rfl, HFI _ _ hown hg⟩
end Go.Proofs.Ytokgolmioonbfaa
