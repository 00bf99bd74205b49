/- The document's writer, more: Bits that are refused, Align. -/
import Derived.Test.YtokgolmioonbfaaRw
namespace Go.Proofs.Ytokgolmioonbfaa
open Go.RowKit

set_option maxHeartbeats 400000 in
theorem refwbits_bad (xb : Nat) (v n : Int) (w : World) (hn : n < 0 ∨ 32 < n) :
    Calls Try.prog 26 #[.pointer (some ⟨xb, 0, none⟩), .int .u32 v, .int .i64 n] w fun e w' => e = .returned (.int .i64 10) ∧ w' = w := by
  by_cases h0 : n < 0
  · clear hn
    go_enter Try.func26, Try.ntmps26
    go_wp2
    go_ret
    exact ⟨rfl, rfl⟩
  · have h3 : 32 < n := by omega
    clear hn
    go_enter Try.func26, Try.ntmps26
    go_wp2
    go_ret
    exact ⟨rfl, rfl⟩

set_option maxHeartbeats 400000 in
theorem refwbits_much (xb v n : Nat) (w : World) (hn : n ≤ 32) (hv : v < 4294967296) (hb : 2 ^ n ≤ v) :
    Calls Try.prog 26 #[.pointer (some ⟨xb, 0, none⟩), .int .u32 (v : Int), .int .i64 (n : Int)] w fun e w' => e = .returned (.int .i64 10) ∧ w' = w := by
  have hn2 : n < 32 := by
    rcases Nat.lt_or_ge n 32 with h' | h'
    · exact h'
    · have : n = 32 := by omega
      subst this
      omega
  have hq : ((v : Int) / 2 ^ n != 0) = true := by
    have h1 : 0 < v / 2 ^ n := Nat.div_pos hb (Nat.pow_pos (by decide))
    have h2 : ((v : Int) / 2 ^ n) = ((v / 2 ^ n : Nat) : Int) := by simp
    rw [h2, bne_iff_ne]; omega
  clear hb
  go_enter Try.func26, Try.ntmps26
  go_wp2
  go_ret
  exact ⟨rfl, rfl⟩

theorem alignB_snoc (l : List Bool) (h : ¬ l.length % 8 = 0) : alignB (l ++ [false]) = alignB l := by
  unfold alignB
  rw [List.append_assoc]
  congr 1
  rw [show (8 - l.length % 8) % 8 = (8 - (l ++ [false]).length % 8) % 8 + 1 from by simp; omega]
  rfl
theorem alignB_whole (l : List Bool) (h : l.length % 8 = 0) : alignB l = l := by
  unfold alignB
  rw [show (8 - l.length % 8) % 8 = 0 from by omega]
  simp

set_option maxRecDepth 100000 in
set_option maxHeartbeats 1600000 in
theorem refwalign (xb : Nat) (lv : Value) (l : List Bool) (w : World) (h : RwSt w xb lv l) (hl : l.length ≤ 140737488355000) :
    Calls Try.prog 28 #[.pointer (some ⟨xb, 0, none⟩)] w fun e w' => e = .returned (.tuple #[]) ∧ ∃ lv', RwSt w' xb lv' (alignB l) ∧ WStep xb w lv w' lv' := by
  obtain ⟨i0, hi, hz0, hz1, hz2⟩ := info_parts Try.info5y
  have hone : ∀ u ∈ [Value.int .u8 0], u.oneCell' = true := by intro u hu; simp at hu; subst hu; rfl
  go_enter Try.func28, Try.ntmps28
  go_wp2_with fail
  go_loopg [] 8 (fun c wr => ∃ (s' : Value) (l' : List Bool), RwSt wr xb s' l' ∧ WStep xb w lv wr s' ∧ alignB l' = alignB l ∧ l'.length + c = l.length + 8)
  case atStart => exact ⟨lv, l, h, WStep.refl _ _ _, rfl, rfl⟩
  case round =>
    clear h
    obtain ⟨s', l', hI, hF, hA, hc⟩ := hrel
    obtain ⟨so, sc, rfl, p1, p2, p3, p4, p5⟩ := own_slice hI.2
    have c0 := cellOf (o := 0) hI.1 rfl
    have f0 := freeOf 0 hI.1
    have hxb := lt_of_block hI.1
    have hne := own_ne hI.2
    have hown := hI.2
    by_cases h8 : l'.length % 8 = 0
    · have hz8 : ((l'.length : Int) % 8 != 0) = false := by simp; omega
      clear p4 p5
      go_wp2_with fail
      go_end0
      exact ⟨rfl, _, by rw [← hA, alignB_whole l' h8]; exact hI, hF⟩
    · have hz8 : ((l'.length : Int) % 8 != 0) = true := by rw [bne_iff_ne]; omega
      have hle : l'.length ≤ 140737488355100 := by omega
      obtain ⟨N, hN⟩ : ∃ N, N = l'.length := ⟨_, rfl⟩
      obtain ⟨cs, hcs⟩ : ∃ cs, cs = byteVals (ones l') := ⟨_, rfl⟩
      have hal : (alignB l').length = (alignB l).length := by rw [hA]
      rw [alignB_length, alignB_length] at hal
      have hgk : 1 ≤ gk := by omega
      have HI : Hid (RwSt wr xb (.slice so l'.length sc) l') := hI
      have HF : Hid (WStep xb w lv wr (.slice so l'.length sc)) := hF
      have HA : Hid (alignB l' = alignB l) := hA
      have HC : Hid (l'.length + gk = l.length + 8) := hc
      rw [← hN] at hown hz8 hle HI HF c0 hne
      rw [← hcs] at hown
      have HN : Hid (N = l'.length) := hN
      have HCS : Hid (cs = byteVals (ones l')) := hcs
      have hnews : ∀ j u, [Value.int .u8 0][j]? = some u → (wr.alloc (.cells #[.int .u8 0] 5 (0, 0))).cell? ((⟨wr.heap.size, 0, none⟩ : Addr).add j) = some u := World.news_of_block (cs := #[.int .u8 0]) (t := 5) (fr := (0, 0)) (heap_alloc_new wr _)
      clear p1 p2 p3 p4 p5 hN hcs hI hF hA hc hal
      go_wp2_with (at_builtin; refine wpList_append_lies _ rfl (.tmp 13) (.tmp 14) 22 rfl (xb + 1) 5 i0 (.int .u8 0) 1 1 Try.underlying22 hi hz0 hz1 hz2 rfl (by omega) (.slice so N sc) N cs rfl (hown.alloc _) ⟨wr.heap.size, 0, none⟩ 1 1 [.int .u8 0] rfl rfl hnews hone (by omega) (by unfold maxLen; omega) (by omega) (by simp; omega) (wr.heap.size + 1) (by simp) ?_; intro g cap w1 hown1 hgrow hat hlt1; have f1 : w1.frozen? ⟨xb, 0, none⟩ = false := (hgrow.frozen_far _ (by simp; omega) (Ne.symm hne)).trans ((World.frozen?_of_block (Below.heap_alloc _ _ _ hxb)).trans f0); have c1 : w1.cell? ⟨xb, 0, none⟩ = some (.slice so N sc) := (hgrow.cell_far _ (by simp; omega) (Ne.symm hne)).trans ((World.cell?_of_block (Below.heap_alloc _ _ _ hxb)).trans c0))
      rw [HCS.out] at hown1
      have hst := rw_step (b := false) HI.out HN.out hown1 ⟨hgrow.os, hgrow.tape, hgrow.output, hgrow.size, hgrow.block⟩ hat
      go_roundg (gk - 1)
      case measure => omega
      case rel => exact ⟨_, l' ++ [false], hst.1, HF.out.trans hst.2, by rw [alignB_snoc l' h8]; exact HA.out, by have := HC.out; simp; omega⟩
end Go.Proofs.Ytokgolmioonbfaa
