/- The contracts of the document's writer (gridironref01.Writer): bits in a list. -/
import Derived.Test.YtokgolmioonbfaaWrX2
import Derived.Test.YtokgolmioonbfaaRf
import Derived.Test.YtokgolmioonbfaaEq
import Derived.Deep.RegionHeld3
import Derived.Deep.AppendLies
import Derived.Deep.LoopGhost
namespace Go.Proofs.Ytokgolmioonbfaa
open Go.RowKit

/-- The bits as bytes of 0 and 1. -/
def ones (l : List Bool) : List Nat := l.map Bool.toNat
@[simp] theorem ones_length (l : List Bool) : (ones l).length = l.length := by simp [ones]
theorem ones_snoc (l : List Bool) (b : Bool) : ones (l ++ [b]) = ones l ++ [b.toNat] := by simp [ones]
theorem byteVals_snoc (B : List Nat) (x : Nat) : byteVals (B ++ [x]) = byteVals B ++ [.int .u8 (x : Int)] := by simp [byteVals]

/-- Block xb is the document's writer, over the slice lv, with the bits l. -/
def RwSt (w : World) (xb : Nat) (lv : Value) (l : List Bool) : Prop := w.heap[xb]? = some (.cells #[lv] 43 (0, 0)) ∧ w.ownsRow (xb + 1) 5 1 lv l.length (byteVals (ones l))

/-- What an append to the list, stored back, comes to. -/
theorem rw_step {w w1 : World} {xb g cap n : Nat} {lv : Value} {l : List Bool} {b : Bool} {O : Obj} (h : RwSt w xb lv l) (hn : n = l.length)
    (hown1 : w1.ownsRow (xb + 1) 5 1 (.slice (some ⟨g, 0, none⟩) (n + 1) cap) (n + 1) (byteVals (ones l) ++ [.int .u8 ((b.toNat : Nat) : Int)])) (hg0 : (w.alloc O).drew.grownBy w1 lv.ownBlock) (hat : lv.ownBlock = some g ∨ g = w.heap.size + 1) :
    RwSt (w1.setCell ⟨xb, 0, none⟩ (.slice (some ⟨g, 0, none⟩) (n + 1) cap)) xb (.slice (some ⟨g, 0, none⟩) (n + 1) cap) (l ++ [b]) ∧ WStep xb w lv (w1.setCell ⟨xb, 0, none⟩ (.slice (some ⟨g, 0, none⟩) (n + 1) cap)) (.slice (some ⟨g, 0, none⟩) (n + 1) cap) := by
  subst hn
  have hg1 : (w.alloc O).grownBy w1 lv.ownBlock := ⟨hg0.os, hg0.tape, hg0.output, hg0.size, hg0.block⟩
  have hxb := lt_of_block h.1
  have hne := own_ne h.2
  have hx1 : w1.heap[xb]? = some (.cells #[lv] 43 (0, 0)) := (hg1.block xb (by simp; omega) (fun e => hne e.symm)).trans ((Below.heap_alloc _ _ _ hxb).trans h.1)
  have hF1 : Fr (pS xb lv) w w1 := ((Fr.refl _ w).alloc O).grown hg1 (fun k hk => Or.inl (Or.inr hk))
  refine ⟨⟨?_, ?_⟩, ⟨hF1.setCell ⟨xb, 0, none⟩ (Or.inl (Or.inl rfl)) _, ?_⟩⟩
  · have := setOf 0 (.slice (some ⟨g, 0, none⟩) (l.length + 1) cap) hx1
    simpa using this
  · rw [ones_snoc, byteVals_snoc, List.length_append]
    exact own_setWr hown1 0 _
  · rcases hat with h' | h'
    · left; rw [h']; rfl
    · right; intro k hk; simp [Value.ownBlock] at hk; omega

theorem Try.info5y : (Try.prog.info? 5).map (fun i => (i.zero, i.size, i.bytes)) = some (some (.int .u8 0), 1, 1) := by kernel_rfl

set_option maxRecDepth 100000 in
set_option maxHeartbeats 3200000 in
theorem refwbits_good (xb v n : Nat) (lv : Value) (l : List Bool) (w : World) (h : RwSt w xb lv l) (hn : n ≤ 32) (hv : v < 2 ^ n) (hl : l.length ≤ 140737488355000) :
    Calls Try.prog 26 #[.pointer (some ⟨xb, 0, none⟩), .int .u32 (v : Int), .int .i64 (n : Int)] w fun e w' => e = .returned (.int .i64 0) ∧ ∃ lv', RwSt w' xb lv' (l ++ bitsN v n) ∧ WStep xb w lv w' lv' := by
  obtain ⟨i0, hi, hz0, hz1, hz2⟩ := info_parts Try.info5y
  have hv32 : v < 4294967296 := by have := pow_le_32 n hn; omega
  have hq : (v : Int) / 2 ^ n = 0 := by
    have h2 : ((v : Int) / 2 ^ n) = ((v / 2 ^ n : Nat) : Int) := by simp
    rw [h2, Nat.div_eq_of_lt hv]; rfl
  clear hv
  go_enter Try.func26, Try.ntmps26
  go_wp2_with fail
  all_goals
    go_loopw [7] (fun i wr => ∃ k : Nat, k ≤ n ∧ i = .int .i64 (k : Int) ∧ ∃ s', RwSt wr xb s' (l ++ bitsN v k) ∧ WStep xb w lv wr s') (fun i _ => n - (intOf i).toNat)
    case atStart => exact ⟨0, Nat.zero_le _, rfl, lv, by simpa [bitsN] using h, WStep.refl _ _ _⟩
    case round =>
      clear h hq
      obtain ⟨k, hk, rfl, s', hI, hF⟩ := hrel
      by_cases hlt : k < n
      · have hIs := hI
        obtain ⟨so, sl, sc, hsv⟩ : ∃ so sl sc, s' = .slice so sl sc := by
          obtain ⟨so, cap, h', _⟩ := own_slice hI.2
          exact ⟨so, _, cap, h'⟩
        subst hsv
        have c0 := cellOf (o := 0) hI.1 rfl
        have f0 := freeOf 0 hI.1
        have hxb := lt_of_block hI.1
        have hne := own_ne hI.2
        have hown := hI.2
        obtain ⟨N, hN⟩ : ∃ N, N = (l ++ bitsN v k).length := ⟨_, rfl⟩
        obtain ⟨cs, hcs⟩ : ∃ cs, cs = byteVals (ones (l ++ bitsN v k)) := ⟨_, rfl⟩
        have hNl : N ≤ 140737488355032 := by rw [hN]; simp; omega
        rw [← hN, ← hcs] at hown
        have hbit : (((IntKind.u8.wrap ((v : Int) / 2 ^ k)).tmod 2)) = (((v.testBit k).toNat : Nat) : Int) := by
          have h3 : ((v : Int) / 2 ^ k) = ((v / 2 ^ k : Nat) : Int) := by simp
          rw [h3, Nat.toNat_testBit, IntKind.wrap_u8']
          generalize v / 2 ^ k = y
          rw [Int.tmod_eq_emod_of_nonneg (by omega)]
          omega
        have HN : Hid (N = (l ++ bitsN v k).length) := hN
        have HC : Hid (cs = byteVals (ones (l ++ bitsN v k))) := hcs
        have HB : Hid ((((IntKind.u8.wrap ((v : Int) / 2 ^ k)).tmod 2)) = (((v.testBit k).toNat : Nat) : Int)) := hbit
        have HI : Hid (RwSt wr xb (.slice so sl sc) (l ++ bitsN v k)) := hIs
        have HF : Hid (WStep xb w lv wr (.slice so sl sc)) := hF
        clear hN hcs hbit hI hIs hF
        go_wp2_with fail
        go_region_law
          ((refine step_append_lies _ (by rfl) _ _ _ (by rfl) (xb + 1) 5 i0 (.int .u8 0) 1 1 Try.underlying22 hi hz0 hz1 hz2 rfl (by omega) (.slice so sl sc) N cs (by rfl) ((hown.alloc _).drew) ⟨wr.heap.size, 0, none⟩ 1 1 [.int .u8 ((IntKind.u8.wrap ((v : Int) / 2 ^ k)).tmod 2)] (by rfl) (by rfl) (World.news_of_block (cs := #[.int .u8 ((IntKind.u8.wrap ((v : Int) / 2 ^ k)).tmod 2)]) (t := 5) (fr := (0, 0)) (heap_alloc_new wr _)) (by simp [Value.oneCell']) (by omega) (by unfold maxLen; omega) (by omega) (by simp; omega) (wr.heap.size + 1) (by simp) ?_; intro g cap w1 hown1 hgrow hat hlt1; have f1 : w1.frozen? ⟨xb, 0, none⟩ = false := (hgrow.frozen_far _ (by simp; omega) (Ne.symm hne)).trans ((World.frozen?_of_block (Below.heap_alloc _ _ _ hxb)).trans f0); have c1 : w1.cell? ⟨xb, 0, none⟩ = some (.slice so sl sc) := (hgrow.cell_far _ (by simp; omega) (Ne.symm hne)).trans ((World.cell?_of_block (Below.heap_alloc _ _ _ hxb)).trans c0)))
        all_goals
          rw [HB.out, HC.out] at hown1
          have hst := rw_step HI.out HN.out hown1 hgrow hat
          clear hown1 hgrow hat f1 c1 c0 f0
          go_wp2_with fail
          go_roundw
          case rel => exact ⟨k + 1, by omega, by go_num, _, by rw [bitsN_succ, ← List.append_assoc]; exact hst.1, HF.out.trans hst.2⟩
          case measure => simp [intOf]; omega
      · go_wp2_with fail
        go_ret
        have : k = n := by omega
        subst this
        exact ⟨rfl, s', hI, hF⟩
end Go.Proofs.Ytokgolmioonbfaa
