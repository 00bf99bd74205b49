/- The contract of bitio.Writer's put. -/
import Derived.Test.YthgnhcdodfildaaDoorK06
import Derived.Test.YthgnhcdodfildaaDoorFrame
import Derived.BigRegion
import Derived.Deep.CutRange
namespace Go.Proofs.YthgnhcdodfildaaDoor
open Go.RowKit

/-- The blocks that a writer at block wb may turn: its own, and rows of bytes behind it. -/
def wS (w : World) (wb : Nat) : Nat → Prop := fun k => k = wb ∨ (wb < k ∧ ∃ cs fr, w.heap[k]? = some (.cells cs 5 fr))

theorem wtrans {a b c : World} {wb : Nat} (h : Fr (wS a wb) a b) (k : Fr (wS b wb) b c) : Fr (wS a wb) a c :=
  ⟨k.os.trans h.os, k.tape.trans h.tape, k.output.trans h.output, Nat.le_trans h.size k.size, fun i hi hn => by
    have e := h.block i hi hn
    refine (k.block i (Nat.lt_of_lt_of_le hi h.size) (fun hs => ?_)).trans e
    rcases hs with rfl | ⟨hl, cs, fr, hc⟩
    · exact hn (Or.inl rfl)
    · exact hn (Or.inr ⟨hl, cs, fr, e.symm.trans hc⟩)⟩

/-- Block wb is a writer that NewWriter made, over the slice sv, with nb bits. -/
def WrAt (w : World) (wb : Nat) (sv : Value) (nb : Nat) : Prop := w.heap[wb]? = some (.cells #[.bool true, sv, .int .i64 (nb : Int)] 91 (0, 0))

theorem Tryd.info5' : (Tryd.prog.info? 5).map (fun i => (i.zero, i.size, i.bytes)) = some (some (.int .u8 0), 1, 1) := by kernel_rfl

theorem own_row {w : World} {base n : Nat} {v : Value} {xs : List Value} (h : w.ownsRow base 5 1 v n xs) (hn : 0 < n) :
    ∃ g cap cur, v = .slice (some ⟨g, 0, none⟩) n cap ∧ base ≤ g ∧ w.heap[g]? = some (.cells cur 5 (0, 0)) ∧ n ≤ cap ∧ cap ≤ maxLen ∧ cur.size = cap ∧ cur.toList.take n = xs := by
  obtain ⟨h1, h2⟩ := h
  rcases h2 with ⟨_, h2⟩ | ⟨g, cap, cur, hv, hg, hh, a, b, c, d⟩
  · omega
  · exact ⟨g, cap, cur, hv, hg, hh, a, b, by simpa using c, by simpa using d⟩

theorem or_u8 (x b j : Nat) (hx : x < 2 ^ j) (hb : b ≤ 1) (hj : j < 8) : bits .or .u8 (x : Int) ((b : Int) * 2 ^ j % 256) = ((x + b * 2 ^ j : Nat) : Int) := by
  have h1 : 2 ^ j ≤ 128 := by
    have : 2 ^ j ≤ 2 ^ 7 := Nat.pow_le_pow_right (by decide) (by omega)
    omega
  have h2 := bit_mul_le b j hb
  have h3 : ((b : Int) * 2 ^ j) = ((b * 2 ^ j : Nat) : Int) := by simp
  have h4 : ((b * 2 ^ j : Nat) : Int) % 256 = ((b * 2 ^ j : Nat) : Int) := by omega
  rw [h3, h4, u8_or_nat _ _ (by omega) (by omega), Nat.or_comm, nat_join j (b * 2 ^ j) x (by simp) hx, Nat.add_comm]

theorem byteVals_set (B : List Nat) (i y : Nat) : (byteVals B).set i (.int .u8 (y : Int)) = byteVals (B.set i y) := by
  simp [byteVals, List.map_set]

theorem put_fin {w W2 : World} {wb g n cap nb i y : Nat} {cur : Array Value} {B : List Nat} (hW2 : WrAt W2 wb (.slice (some ⟨g, 0, none⟩) n cap) nb) (hg : wb + 1 ≤ g) (hrow : W2.heap[g]? = some (.cells cur 5 (0, 0)))
    (hn : n ≤ cap) (hm : cap ≤ maxLen) (hc : cur.size = cap) (ht : cur.toList.take n = byteVals B) (hf : Fr (wS w wb) w W2) :
    WrAt ((W2.setCell ⟨g, i, none⟩ (.int .u8 (y : Int))).setCell ⟨wb, 2, none⟩ (.int .i64 ((nb + 1 : Nat) : Int))) wb (.slice (some ⟨g, 0, none⟩) n cap) (nb + 1) ∧
    ((W2.setCell ⟨g, i, none⟩ (.int .u8 (y : Int))).setCell ⟨wb, 2, none⟩ (.int .i64 ((nb + 1 : Nat) : Int))).ownsRow (wb + 1) 5 1 (.slice (some ⟨g, 0, none⟩) n cap) n (byteVals (B.set i y)) ∧
    Fr (wS w wb) w ((W2.setCell ⟨g, i, none⟩ (.int .u8 (y : Int))).setCell ⟨wb, 2, none⟩ (.int .i64 ((nb + 1 : Nat) : Int))) := by
  have hSg : wS w wb g ∨ w.heap.size ≤ g := by
    rcases Nat.lt_or_ge g w.heap.size with h' | h'
    · left
      by_cases hs : wS w wb g
      · exact hs
      · exact Or.inr ⟨hg, cur, _, (hf.block g h' hs).symm.trans hrow⟩
    · exact Or.inr h'
  have hlen : (byteVals B).length = n := by rw [← ht]; simp; omega
  refine ⟨?_, ⟨by simpa using hlen, Or.inr ⟨g, cap, cur.setIfInBounds i (.int .u8 (y : Int)), rfl, hg, ?_, hn, hm, by simpa using hc, ?_⟩⟩, ?_⟩
  · have h1 : (W2.setCell ⟨g, i, none⟩ (.int .u8 (y : Int))).heap[wb]? = some (.cells #[.bool true, .slice (some ⟨g, 0, none⟩) n cap, .int .i64 (nb : Int)] 91 (0, 0)) := by
      rw [Below.heap_setCell _ _ _ _ (show wb ≠ g by omega)]; exact hW2
    have h2 := setOf 2 (.int .i64 ((nb + 1 : Nat) : Int)) h1
    simpa [WrAt] using h2
  · rw [Below.heap_setCell _ _ _ _ (show g ≠ wb by omega)]
    exact setOf i _ hrow
  · have : (cur.setIfInBounds i (.int .u8 (y : Int))).toList.take (n * 1) = (cur.toList.take n).set i (.int .u8 (y : Int)) := by
      simp [List.take_set]
    rw [this, ht, byteVals_set]
  · exact (hf.setCell ⟨g, i, none⟩ hSg _).setCell ⟨wb, 2, none⟩ (Or.inl (Or.inl rfl)) _

set_option maxHeartbeats 800000 in
theorem put_stay (wb nb b g n cap x : Nat) (cur : Array Value) (B : List Nat) (w : World) (hW2 : WrAt w wb (.slice (some ⟨g, 0, none⟩) n cap) nb) (hg : wb + 1 ≤ g) (hrow : w.heap[g]? = some (.cells cur 5 (0, 0)))
    (hn : n ≤ cap) (hm : cap ≤ maxLen) (hc : cur.size = cap) (ht : cur.toList.take n = byteVals B) (hb : b ≤ 1) (h8 : ¬ nb % 8 = 0) (hnb : nb / 8 < n) (hx : cur[nb / 8]? = some (.int .u8 (x : Int))) (hx2 : x < 2 ^ (nb % 8)) (hl : nb ≤ 4611686018427387904) :
    Calls Tryd.prog 66 #[.pointer (some ⟨wb, 0, none⟩), .int .u32 (b : Int)] w fun e w' => e = .returned (.tuple #[]) ∧ WrAt w' wb (.slice (some ⟨g, 0, none⟩) n cap) (nb + 1) ∧ w'.ownsRow (wb + 1) 5 1 (.slice (some ⟨g, 0, none⟩) n cap) n (byteVals (B.set (nb / 8) (x + b * 2 ^ (nb % 8)))) ∧ Fr (wS w wb) w w' := by
  have hz8 : ((nb : Int) % 8 == 0) = false := by simp; omega
  have hgw : ¬ g = wb := by omega
  have d1 := cellOf (o := 1) hW2 rfl
  have d2 := cellOf (o := 2) hW2 rfl
  have f2 := freeOf 2 hW2
  have dx : w.cell? ⟨g, nb / 8, none⟩ = some (.int .u8 (x : Int)) := cellOf hrow hx
  have fx := freeOf (nb / 8) hrow
  have hlt : (nb : Int) / 8 < (n : Int) := by omega
  have hx256 : x < 256 := by
    have : 2 ^ (nb % 8) ≤ 2 ^ 8 := Nat.pow_le_pow_right (by decide) (by omega)
    omega
  have HX := or_u8 x b (nb % 8) hx2 hb (by omega)
  have HX' : Hid _ := HX
  clear HX hx2
  go_enter Tryd.func66, Tryd.ntmps66
  go_wp2_with fail
  go_region
  go_wp2
  go_end0
  rw [HX'.out, show ((nb : Int) + 1) = ((nb + 1 : Nat) : Int) from by omega]
  have hfin := put_fin (w := w) (i := nb / 8) (y := x + b * 2 ^ (nb % 8)) hW2 hg hrow hn hm hc ht (Fr.refl _ _)
  exact ⟨rfl, hfin.1, hfin.2.1, hfin.2.2.drew⟩

set_option maxHeartbeats 800000 in
theorem put_grow (wb nb b : Nat) (sv : Value) (B : List Nat) (w : World) (h : WrAt w wb sv nb) (hown : w.ownsRow (wb + 1) 5 1 sv B.length (byteVals B)) (hb : b ≤ 1) (h8 : nb % 8 = 0) (hnb : B.length = nb / 8) (hl : B.length + 1 ≤ 140737488355328) :
    Calls Tryd.prog 66 #[.pointer (some ⟨wb, 0, none⟩), .int .u32 (b : Int)] w fun e w' => e = .returned (.tuple #[]) ∧ ∃ sv', WrAt w' wb sv' (nb + 1) ∧ w'.ownsRow (wb + 1) 5 1 sv' (B.length + 1) (byteVals (B ++ [b])) ∧ Fr (wS w wb) w w' := by
  obtain ⟨i0, hi, hz0, hz1, hz2⟩ := info_parts Tryd.info5'
  have c1 := cellOf (o := 1) h rfl
  have c2 := cellOf (o := 2) h rfl
  have hwb := lt_of_block h
  have hz8 : ((nb : Int) % 8 == 0) = true := by simp; omega
  have hsrc : Src (w.alloc (.cells #[.int .u8 0] 5 (0, 0))) (some ⟨w.heap.size, 0, none⟩) [.int .u8 0] :=
    ⟨fun _ => ⟨_, rfl, fun j v hj => by
      match j, hj with
      | 0, hj => simp at hj; subst hj; simp [Addr.add]⟩⟩
  have hone : ∀ u ∈ [Value.int .u8 0], u.oneCell' = true := by intro u hu; simp at hu; subst hu; rfl
  have hmx : B.length + 1 ≤ maxLen := by unfold maxLen; omega
  obtain ⟨so, sl, sc, hsv⟩ : ∃ so sl sc, sv = .slice so sl sc := by
    obtain ⟨_, h2⟩ := hown
    rcases h2 with ⟨h2, _⟩ | ⟨g, cap, cur, hv, _⟩
    · exact ⟨_, _, _, h2⟩
    · exact ⟨_, _, _, hv⟩
  subst hsv
  have hob : ∀ k, (Value.slice so sl sc).ownBlock = some k → wS w wb k := by
    intro k hk
    obtain ⟨_, h2⟩ := hown
    rcases h2 with ⟨h2, _⟩ | ⟨g, cap, cur, hv, hg, hh, _⟩
    · rw [h2] at hk; simp [Value.ownBlock] at hk
    · rw [hv] at hk
      simp [Value.ownBlock] at hk
      subst hk
      exact Or.inr ⟨hg, cur, _, hh⟩
  have hob' : (Value.slice so sl sc).ownBlock ≠ some wb := by
    intro hk
    obtain ⟨_, h2⟩ := hown
    rcases h2 with ⟨h2, _⟩ | ⟨g, cap, cur, hv, hg, hh, _⟩
    · rw [h2] at hk; simp [Value.ownBlock] at hk
    · rw [hv] at hk
      simp [Value.ownBlock] at hk
      omega
  have HN : Hid (B.length = nb / 8) := hnb
  have hnb2 : nb ≤ 1125899906842631 := by omega
  have hlt : (nb : Int) / 8 < ((B.length : Int) + 1) := by omega
  clear hnb
  go_enter Tryd.func66, Tryd.ntmps66
  go_wp2_with (at_builtin; refine wpList_append_src rfl (.tmp 14) (.tmp 15) 22 rfl (wb + 1) 5 i0 (.int .u8 0) 1 Tryd.underlying22 hi hz0 hz1 hz2 rfl _ B.length (byteVals B) rfl (hown.alloc _) _ 1 1 rfl (by simp) (by omega) [.int .u8 0] rfl hsrc hone hmx (by omega) (by simp; omega) ?_)
  intro v' w1 hown1 hg1
  obtain ⟨g, cap, cur, hv', hg, hrow, hn, hm, hc, ht⟩ := own_row hown1 (by omega)
  rw [hv']
  have hF1 : Fr (wS w wb) w w1 := ((Fr.refl (wS w wb) w).alloc _).grown hg1 (fun k hk => Or.inl (hob k hk))
  have hW1 : WrAt w1 wb (.slice so sl sc) nb := (hg1.block wb (by simp; omega) (fun e => hob' e.symm)).trans ((Below.heap_alloc _ _ _ hwb).trans h)
  have hgw : ¬ g = wb := by omega
  have d1 := cellOf (o := 1) hW1 rfl
  have d2 := cellOf (o := 2) hW1 rfl
  have f1 := freeOf 1 hW1
  have f2 := freeOf 2 hW1
  have hx : cur[nb / 8]? = some (.int .u8 ((0 : Nat) : Int)) := by
    have h1 : (cur.toList.take (B.length + 1))[nb / 8]? = some (.int .u8 ((0 : Nat) : Int)) := by
      rw [ht, ← HN.out, List.getElem?_append_right (by simp)]
      simp
    rw [List.getElem?_take_of_lt (by have := HN.out; omega)] at h1
    simpa using h1
  have dx : w1.cell? ⟨g, nb / 8, none⟩ = some (.int .u8 0) := cellOf hrow hx
  have fx := freeOf (nb / 8) hrow
  have HT : Hid (cur.toList.take (B.length + 1) = byteVals B ++ [.int .u8 0]) := ht
  have HR : Hid (w1.heap[g]? = some (.cells cur 5 (0, 0))) := hrow
  have HF : Hid (Fr (wS w wb) w w1) := hF1
  have HW : Hid (WrAt w1 wb (.slice so sl sc) nb) := hW1
  clear ht hrow hF1 hx hown1 hg1 hsrc hone c1 c2 hW1 hob hob'
  go_wp2_with fail
  go_region
  go_wp2
  go_end0
  have hor : bits .or .u8 0 ((b : Int) % 256) = ((b : Nat) : Int) := by simpa using or_u8 0 b 0 (by decide) hb (by decide)
  rw [hor, show ((nb : Int) + 1) = ((nb + 1 : Nat) : Int) from by omega]
  have hW2 : WrAt (w1.setCell ⟨wb, 1, none⟩ (.slice (some ⟨g, 0, none⟩) (B.length + 1) cap)) wb (.slice (some ⟨g, 0, none⟩) (B.length + 1) cap) nb := by
    have := setOf 1 (.slice (some ⟨g, 0, none⟩) (B.length + 1) cap) HW.out
    simpa [WrAt] using this
  have hrow2 : (w1.setCell ⟨wb, 1, none⟩ (.slice (some ⟨g, 0, none⟩) (B.length + 1) cap)).heap[g]? = some (.cells cur 5 (0, 0)) := by
    rw [Below.heap_setCell _ _ _ _ (show g ≠ wb by omega)]; exact HR.out
  have ht : cur.toList.take (B.length + 1) = byteVals (B ++ [0]) := by rw [HT.out]; simp [byteVals]
  have hfin := put_fin (w := w) (i := nb / 8) (y := b) hW2 hg hrow2 hn hm hc ht (HF.out.setCell ⟨wb, 1, none⟩ (Or.inl (Or.inl rfl)) _)
  have hset : (B ++ [0]).set (nb / 8) b = B ++ [b] := by rw [← HN.out]; simp
  rw [hset] at hfin
  exact ⟨rfl, _, hfin.1, hfin.2.1, hfin.2.2.drew⟩
end Go.Proofs.YthgnhcdodfildaaDoor
