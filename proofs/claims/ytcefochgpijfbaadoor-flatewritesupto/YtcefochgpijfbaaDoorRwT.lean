/- The contracts of the document's own writer. -/
import Derived.Test.YtcefochgpijfbaaDoorWr2
import Derived.Test.YtcefochgpijfbaaDoorEq
import Derived.Maps.AppendAt
import Derived.Deep.RegionHeld3
import Derived.Deep.AppendLies
import Derived.Deep.LoopGhost
import Derived.BigRegion
namespace Go.Proofs.YtcefochgpijfbaaDoor
open Go.RowKit

/-- The writer's own block, and its row. -/
def pS (wb : Nat) (sv : Value) : Nat → Prop := fun k => k = wb ∨ sv.ownBlock = some k
/-- One step of a writer: nothing else turns; the row stays, or is new. -/
structure WStep (wb : Nat) (w : World) (sv : Value) (w' : World) (sv' : Value) : Prop where
  fr : Fr (pS wb sv) w w'
  at' : sv'.ownBlock = sv.ownBlock ∨ ∀ k, sv'.ownBlock = some k → w.heap.size ≤ k
theorem WStep.refl (wb : Nat) (w : World) (sv : Value) : WStep wb w sv w sv := ⟨Fr.refl _ _, Or.inl rfl⟩
theorem WStep.trans {wb : Nat} {a b c : World} {s0 s1 s2 : Value} (h : WStep wb a s0 b s1) (k : WStep wb b s1 c s2) : WStep wb a s0 c s2 := by
  refine ⟨⟨k.fr.os.trans h.fr.os, k.fr.tape.trans h.fr.tape, k.fr.output.trans h.fr.output, Nat.le_trans h.fr.size k.fr.size, fun i hi hn => ?_⟩, ?_⟩
  · refine (k.fr.block i (Nat.lt_of_lt_of_le hi h.fr.size) (fun hs => ?_)).trans (h.fr.block i hi hn)
    rcases hs with hs | hs
    · exact hn (Or.inl hs)
    · rcases h.at' with e | e
      · rw [e] at hs; exact hn (Or.inr hs)
      · have := e i hs; omega
  · rcases k.at' with e | e
    · rcases h.at' with e' | e'
      · exact Or.inl (e.trans e')
      · right; rw [e]; exact e'
    · right
      intro j hj
      have := e j hj
      have := h.fr.size
      omega
/-- The bits as bytes of 0 and 1. -/
def ones (l : List Bool) : List Nat := l.map Bool.toNat
@[simp] theorem ones_length (l : List Bool) : (ones l).length = l.length := by simp [ones]
theorem ones_snoc (l : List Bool) (b : Bool) : ones (l ++ [b]) = ones l ++ [b.toNat] := by simp [ones]
theorem byteVals_snoc (B : List Nat) (x : Nat) : byteVals (B ++ [x]) = byteVals B ++ [.int .u8 (x : Int)] := by simp [byteVals]
/-- Block xb is the document's writer, over the slice lv, with the bits l. -/
def RwSt (w : World) (xb : Nat) (lv : Value) (l : List Bool) : Prop := w.heap[xb]? = some (.cells #[lv] 74 (0, 0)) ∧ w.ownsRow (xb + 1) 5 1 lv l.length (byteVals (ones l))
/-- What an append to the list, stored back, comes to. -/
theorem rw_step {w w1 : World} {xb g cap n : Nat} {lv : Value} {l : List Bool} {b : Bool} {O : Obj} (h : RwSt w xb lv l) (hn : n = l.length)
    (hown1 : w1.ownsRow (xb + 1) 5 1 (.slice (some ⟨g, 0, none⟩) (n + 1) cap) (n + 1) (byteVals (ones l) ++ [.int .u8 ((b.toNat : Nat) : Int)])) (hg0 : (w.alloc O).drew.grownBy w1 lv.ownBlock) (hat : lv.ownBlock = some g ∨ g = w.heap.size + 1) :
    RwSt (w1.setCell ⟨xb, 0, none⟩ (.slice (some ⟨g, 0, none⟩) (n + 1) cap)) xb (.slice (some ⟨g, 0, none⟩) (n + 1) cap) (l ++ [b]) ∧ WStep xb w lv (w1.setCell ⟨xb, 0, none⟩ (.slice (some ⟨g, 0, none⟩) (n + 1) cap)) (.slice (some ⟨g, 0, none⟩) (n + 1) cap) := by
  subst hn
  have hg1 : (w.alloc O).grownBy w1 lv.ownBlock := ⟨hg0.os, hg0.tape, hg0.output, hg0.size, hg0.block⟩
  have hxb := lt_of_block h.1
  have hne := own_ne h.2
  have hx1 : w1.heap[xb]? = some (.cells #[lv] 74 (0, 0)) := (hg1.block xb (by simp; omega) (fun e => hne e.symm)).trans ((Below.heap_alloc _ _ _ hxb).trans h.1)
  have hF1 : Fr (pS xb lv) w w1 := ((Fr.refl _ w).alloc O).grown hg1 (fun k hk => Or.inl (Or.inr hk))
  refine ⟨⟨?_, ?_⟩, ⟨hF1.setCell ⟨xb, 0, none⟩ (Or.inl (Or.inl rfl)) _, ?_⟩⟩
  · have := setOf 0 (.slice (some ⟨g, 0, none⟩) (l.length + 1) cap) hx1
    simpa using this
  · rw [ones_snoc, byteVals_snoc, List.length_append]
    exact own_setWr hown1 0 _
  · rcases hat with h' | h'
    · left; rw [h']; rfl
    · right; intro k hk; simp [Value.ownBlock] at hk; omega
theorem Tryd.info5y : (Tryd.prog.info? 5).map (fun i => (i.zero, i.size, i.bytes)) = some (some (.int .u8 0), 1, 1) := by kernel_rfl
set_option maxRecDepth 100000 in
set_option maxHeartbeats 3200000 in
theorem refwbits_good (xb v n : Nat) (lv : Value) (l : List Bool) (w : World) (h : RwSt w xb lv l) (hn : n ≤ 32) (hv : v < 2 ^ n) (hl : l.length ≤ 140737488355000) :
    Calls Tryd.prog 33 #[.pointer (some ⟨xb, 0, none⟩), .int .u32 (v : Int), .int .i64 (n : Int)] w fun e w' => e = .returned (.int .i64 0) ∧ ∃ lv', RwSt w' xb lv' (l ++ bitsN v n) ∧ WStep xb w lv w' lv' := by
  obtain ⟨i0, hi, hz0, hz1, hz2⟩ := info_parts Tryd.info5y
  have hv32 : v < 4294967296 := by have := pow_le_32 n hn; omega
  have hq : (v : Int) / 2 ^ n = 0 := by
    have h2 : ((v : Int) / 2 ^ n) = ((v / 2 ^ n : Nat) : Int) := by simp
    rw [h2, Nat.div_eq_of_lt hv]; rfl
  clear hv
  go_enter Tryd.func33, Tryd.ntmps33
  go_wp2_with fail
  all_goals
    go_loopw [7] (fun i wr => ∃ k : Nat, k ≤ n ∧ i = .int .i64 (k : Int) ∧ ∃ s', RwSt wr xb s' (l ++ bitsN v k) ∧ WStep xb w lv wr s') (fun i _ => n - (intOf i).toNat)
    case atStart => exact ⟨0, Nat.zero_le _, rfl, lv, by simpa [bitsN] using h, WStep.refl _ _ _⟩
    case round =>
      clear h hq
      obtain ⟨k, hk, rfl, s', hI, hF⟩ := hrel
      by_cases hlt : k < n
      · have hIs := hI
        obtain ⟨so, sl, sc, hsv⟩ : ∃ so sl sc, s' = .slice so sl sc := by
          obtain ⟨so, cap, h', _⟩ := own_slice hI.2
          exact ⟨so, _, cap, h'⟩
        subst hsv
        have c0 := cellOf (o := 0) hI.1 rfl
        have f0 := freeOf 0 hI.1
        have hxb := lt_of_block hI.1
        have hne := own_ne hI.2
        have hown := hI.2
        obtain ⟨N, hN⟩ : ∃ N, N = (l ++ bitsN v k).length := ⟨_, rfl⟩
        obtain ⟨cs, hcs⟩ : ∃ cs, cs = byteVals (ones (l ++ bitsN v k)) := ⟨_, rfl⟩
        have hNl : N ≤ 140737488355032 := by rw [hN]; simp; omega
        rw [← hN, ← hcs] at hown
        have hbit : (((IntKind.u8.wrap ((v : Int) / 2 ^ k)).tmod 2)) = (((v.testBit k).toNat : Nat) : Int) := by
          have h3 : ((v : Int) / 2 ^ k) = ((v / 2 ^ k : Nat) : Int) := by simp
          rw [h3, Nat.toNat_testBit, IntKind.wrap_u8']
          generalize v / 2 ^ k = y
          rw [Int.tmod_eq_emod_of_nonneg (by omega)]
          omega
        have HN : Hid (N = (l ++ bitsN v k).length) := hN
        have HC : Hid (cs = byteVals (ones (l ++ bitsN v k))) := hcs
        have HB : Hid ((((IntKind.u8.wrap ((v : Int) / 2 ^ k)).tmod 2)) = (((v.testBit k).toNat : Nat) : Int)) := hbit
        have HI : Hid (RwSt wr xb (.slice so sl sc) (l ++ bitsN v k)) := hIs
        have HF : Hid (WStep xb w lv wr (.slice so sl sc)) := hF
        clear hN hcs hbit hI hIs hF
        go_wp2_with fail
        go_region_law
          ((refine step_append_lies _ (by rfl) _ _ _ (by rfl) (xb + 1) 5 i0 (.int .u8 0) 1 1 Tryd.underlying22 hi hz0 hz1 hz2 rfl (by omega) (.slice so sl sc) N cs (by rfl) ((hown.alloc _).drew) ⟨wr.heap.size, 0, none⟩ 1 1 [.int .u8 ((IntKind.u8.wrap ((v : Int) / 2 ^ k)).tmod 2)] (by rfl) (by rfl) (World.news_of_block (cs := #[.int .u8 ((IntKind.u8.wrap ((v : Int) / 2 ^ k)).tmod 2)]) (t := 5) (fr := (0, 0)) (heap_alloc_new wr _)) (by simp [Value.oneCell']) (by omega) (by unfold maxLen; omega) (by omega) (by simp; omega) (wr.heap.size + 1) (by simp) ?_; intro g cap w1 hown1 hgrow hat hlt1; have f1 : w1.frozen? ⟨xb, 0, none⟩ = false := (hgrow.frozen_far _ (by simp; omega) (Ne.symm hne)).trans ((World.frozen?_of_block (Below.heap_alloc _ _ _ hxb)).trans f0); have c1 : w1.cell? ⟨xb, 0, none⟩ = some (.slice so sl sc) := (hgrow.cell_far _ (by simp; omega) (Ne.symm hne)).trans ((World.cell?_of_block (Below.heap_alloc _ _ _ hxb)).trans c0)))
        all_goals
          rw [HB.out, HC.out] at hown1
          have hst := rw_step HI.out HN.out hown1 hgrow hat
          clear hown1 hgrow hat f1 c1 c0 f0
          go_wp2_with fail
          go_roundw
          case rel => exact ⟨k + 1, by omega, by go_num, _, by rw [bitsN_succ, ← List.append_assoc]; exact hst.1, HF.out.trans hst.2⟩
          case measure => simp [intOf]; omega
      · go_wp2_with fail
        go_ret
        have : k = n := by omega
        subst this
        exact ⟨rfl, s', hI, hF⟩
theorem add_u8 (x b j : Nat) (hx : x < 2 ^ j) (hb : b ≤ 1) (hj : j < 8) : ((x : Int) + (b : Int) * 2 ^ j) % 256 = ((x + b * 2 ^ j : Nat) : Int) := by
  have h1 : 2 ^ j ≤ 128 := by
    have : 2 ^ j ≤ 2 ^ 7 := Nat.pow_le_pow_right (by decide) (by omega)
    omega
  have h2 := bit_mul_le b j hb
  have h3 : ((b : Int) * 2 ^ j) = ((b * 2 ^ j : Nat) : Int) := by simp
  rw [h3]
  omega
theorem out_fin {w W : World} {g n cap i y : Nat} {cur : Array Value} {B : List Nat} (hg : w.heap.size ≤ g) (hrow : W.heap[g]? = some (.cells cur 5 (0, 0)))
    (hn : n ≤ cap) (hm : cap ≤ maxLen) (hc : cur.size = cap) (ht : cur.toList.take n = byteVals B) (hf : Fr noB w W) :
    (W.setCell ⟨g, i, none⟩ (.int .u8 (y : Int))).ownsRow w.heap.size 5 1 (.slice (some ⟨g, 0, none⟩) n cap) n (byteVals (B.set i y)) ∧ Fr noB w (W.setCell ⟨g, i, none⟩ (.int .u8 (y : Int))) := by
  have hlen : (byteVals B).length = n := by rw [← ht]; simp; omega
  refine ⟨⟨by simpa using hlen, Or.inr ⟨g, cap, cur.setIfInBounds i (.int .u8 (y : Int)), rfl, hg, setOf i _ hrow, hn, hm, by simpa using hc, ?_⟩⟩, hf.setCell ⟨g, i, none⟩ (Or.inr hg) _⟩
  have : (cur.setIfInBounds i (.int .u8 (y : Int))).toList.take (n * 1) = (cur.toList.take n).set i (.int .u8 (y : Int)) := by
    simp [List.take_set]
  rw [this, ht, byteVals_set]
theorem pack_stay (l : List Bool) (k : Nat) (hk : k < l.length) (h8 : ¬ k % 8 = 0) : packB (l.take (k + 1)) = (packB (l.take k)).set (k / 8) (byteOf (l.take k) (k / 8) + (l[k]).toNat * 2 ^ (k % 8)) := by
  have htk : (l.take k).length = k := by simp; omega
  rw [List.take_succ_eq_append_getElem hk, packB_stay _ _ (by rw [htk]; exact h8), htk]
theorem pack_grow (l : List Bool) (k : Nat) (hk : k < l.length) (h8 : k % 8 = 0) : packB (l.take (k + 1)) = packB (l.take k) ++ [(l[k]).toNat] := by
  have htk : (l.take k).length = k := by simp; omega
  rw [List.take_succ_eq_append_getElem hk, packB_grow _ _ (by rw [htk]; exact h8)]
theorem take_snoc_b (l : List Bool) (k : Nat) (hk : k < l.length) : l.take (k + 1) = l.take k ++ [l[k]] := List.take_succ_eq_append_getElem hk
set_option maxRecDepth 100000 in
set_option maxHeartbeats 3200000 in
theorem refwout (xb : Nat) (lv : Value) (l : List Bool) (w : World) (h : RwSt w xb lv l) (hl : l.length ≤ 140737488355000) :
    Calls Tryd.prog 35 #[.pointer (some ⟨xb, 0, none⟩)] w fun e w' => ∃ v, e = .returned v ∧ w'.ownsRow w.heap.size 5 1 v (packB l).length (byteVals (packB l)) ∧ Fr noB w w' := by
  obtain ⟨i0, hi, hz0, hz1, hz2⟩ := info_parts Tryd.info5y
  have hone : ∀ u ∈ [Value.int .u8 0], u.oneCell' = true := by intro u hu; simp at hu; subst hu; rfl
  obtain ⟨lo, lc, rfl, q1, q2, q3, q4, q5⟩ := own_slice h.2
  have hlown := h.2
  have hxb := lt_of_block h.1
  obtain ⟨L, hL⟩ : ∃ L, L = l.length := ⟨_, rfl⟩
  have HL : Hid (L = l.length) := hL
  rw [← hL] at h hl q1 hlown
  clear hL q4 q5
  go_enter Tryd.func35, Tryd.ntmps35
  go_wp2_with fail
  go_loopw [3, 4] (fun ov i wr => ∃ k : Nat, k ≤ L ∧ i = .int .i64 (k : Int) ∧ wr.ownsRow w.heap.size 5 1 ov (packB (l.take k)).length (byteVals (packB (l.take k))) ∧ Fr noB w wr) (fun _ i _ => L - (intOf i).toNat)
  case atStart => exact ⟨0, Nat.zero_le _, rfl, by simpa [packB, byteVals] using World.ownsRow_nil w w.heap.size 5 1, Fr.refl _ _⟩
  case round =>
    obtain ⟨k, hk, rfl, hown, hF⟩ := hrel
    have hx1 := hF.obj h.1 id
    have c0 := cellOf (o := 0) hx1 rfl
    by_cases hlt : k < L
    · have hkl : k < l.length := by have := HL.out; omega
      obtain ⟨gl, c, cur0, hle, hgl, hlr, r1, r2, r3, r4⟩ := own_row hlown (by omega)
      simp at hle
      obtain ⟨rfl, rfl⟩ := hle
      have hgls := lt_of_block hlr
      have hlrr := hF.obj hlr id
      obtain ⟨b, hb⟩ : ∃ b, b = (l[k]).toNat := ⟨_, rfl⟩
      have hb1 : b ≤ 1 := by rw [hb]; cases l[k] <;> simp
      have hcl : cur0[k]? = some (.int .u8 (b : Int)) := by
        have h1 : (cur0.toList.take L)[k]? = some (.int .u8 (b : Int)) := by
          rw [r4, byteVals_get _ _ (by simpa using hkl), hb]
          simp [ones]
        rw [List.getElem?_take_of_lt hlt] at h1
        simpa using h1
      have cl : wr.cell? ⟨gl, k, none⟩ = some (.int .u8 (b : Int)) := cellOf hlrr hcl
      have htk : (l.take k).length = k := by simp; omega
      have HB : Hid (b = (l[k]).toNat) := hb
      have h0 := h.1
      clear hb r1 r2 r3 r4 hlown h
      by_cases h8 : k % 8 = 0
      · have hz8 : ((k : Int) % 8 == 0) = true := by simp; omega
        obtain ⟨N, hN⟩ : ∃ N, N = (packB (l.take k)).length := ⟨_, rfl⟩
        obtain ⟨cs, hcs⟩ : ∃ cs, cs = byteVals (packB (l.take k)) := ⟨_, rfl⟩
        have hNk : N = k / 8 := by rw [hN]; simp [htk]; omega
        have hNl : N ≤ 140737488355000 := by omega
        have hu3 : ∀ k', u3.ownBlock = some k' → w.heap.size ≤ k' := by
          obtain ⟨_, _, _, _, _, _, _, ho⟩ := own_slice hown
          exact fun k' hk' => (ho k' hk').1
        rw [← hN, ← hcs] at hown
        have HN : Hid (N = (packB (l.take k)).length) := hN
        have HCS : Hid (cs = byteVals (packB (l.take k))) := hcs
        have HNK : Hid (N = k / 8) := hNk
        have hlti : (k : Int) / 8 < (N : Int) + 1 := by omega
        have hkL : (k : Int) < (L : Int) := by omega
        have hnews : ∀ j u, [Value.int .u8 0][j]? = some u → (wr.alloc (.cells #[.int .u8 0] 5 (0, 0))).cell? ((⟨wr.heap.size, 0, none⟩ : Addr).add j) = some u := World.news_of_block (cs := #[.int .u8 0]) (t := 5) (fr := (0, 0)) (heap_alloc_new wr _)
        have hwsz := hF.size
        clear hN hcs hNk htk
        go_wp2_with (at_builtin; refine wpList_append_lies _ rfl (.tmp 17) (.tmp 18) 22 rfl w.heap.size 5 i0 (.int .u8 0) 1 1 Tryd.underlying22 hi hz0 hz1 hz2 rfl (by omega) _ N cs rfl (hown.alloc _) ⟨wr.heap.size, 0, none⟩ 1 1 [.int .u8 0] rfl rfl hnews hone (by omega) (by unfold maxLen; omega) (by omega) (by simp; omega) (wr.heap.size + 1) (by simp) ?_)
        intro g cap w1 hown1 hgrow hat hlt1
        have hF1 : Fr noB w w1 := (hF.alloc _).grown hgrow (fun k' hk' => Or.inr (hu3 k' hk'))
        obtain ⟨g', cap', cur, hov, hg, hrow, hn, hm, hc, ht⟩ := own_row hown1 (by omega)
        simp at hov
        obtain ⟨rfl, rfl⟩ := hov
        have hx : cur[k / 8]? = some (.int .u8 ((0 : Nat) : Int)) := by
          have h1 : (cur.toList.take (N + 1))[k / 8]? = some (.int .u8 ((0 : Nat) : Int)) := by
            rw [ht, HCS.out, ← HNK.out, List.getElem?_append_right (by simp [← HN.out])]
            simp [← HN.out]
          rw [List.getElem?_take_of_lt (by have := HNK.out; omega)] at h1
          simpa using h1
        have dx : w1.cell? ⟨g, k / 8, none⟩ = some (.int .u8 0) := cellOf hrow hx
        have fx := freeOf (k / 8) hrow
        have n1 : ¬ g = xb := by omega
        have n2 : ¬ g = gl := by omega
        have cx1 : w1.cell? ⟨xb, 0, none⟩ = some (.slice (some ⟨gl, 0, none⟩) L lc) := cellOf (hF1.obj h0 id) rfl
        have cl1 : w1.cell? ⟨gl, k, none⟩ = some (.int .u8 (b : Int)) := cellOf (hF1.obj hlr id) hcl
        have ht' : cur.toList.take (N + 1) = byteVals (packB (l.take k) ++ [0]) := by rw [ht, HCS.out]; simp [byteVals]
        have hst := out_fin (i := k / 8) (y := b) hg hrow hn hm hc ht' hF1
        have HS : Hid _ := hst
        have HADD : Hid ((b : Int) % 256 = (b : Int)) := by show (b : Int) % 256 = (b : Int); omega
        clear hst ht ht' hrow hx hown hown1 hgrow hat hF hF1 c0 cl hu3 hlr hcl h0
        go_wp2_with fail
        go_region
        go_wp2_with fail
        go_roundw
        case rel =>
          have hpk := pack_grow l k hkl h8
          rw [← HB.out] at hpk
          have hset : (packB (l.take k) ++ [0]).set (k / 8) b = packB (l.take k) ++ [b] := by
            rw [← HNK.out, HN.out]; simp
          have hpl : (packB (l.take (k + 1))).length = N + 1 := by rw [hpk, List.length_append, ← HN.out]; rfl
          have hS := HS.out
          rw [hset] at hS
          rw [HADD.out]
          refine ⟨k + 1, by omega, by go_num, ?_, hS.2.drew⟩
          rw [hpl, hpk]
          exact hS.1
        case measure => simp [intOf]; omega
      · have hz8 : ((k : Int) % 8 == 0) = false := by simp; omega
        obtain ⟨g, cap, cur, hov, hg, hrow, hn, hm, hc, ht⟩ := own_row hown (by simp [htk]; omega)
        have hi8 : k / 8 < (k + 7) / 8 := by omega
        have hx : cur[k / 8]? = some (.int .u8 ((byteOf (l.take k) (k / 8) : Nat) : Int)) := by
          have h1 : (cur.toList.take (packB (l.take k)).length)[k / 8]? = some (.int .u8 ((byteOf (l.take k) (k / 8) : Nat) : Int)) := by
            rw [ht, byteVals_get _ _ (by simp [htk]; omega), packB_get _ _ (by rw [htk]; omega)]
          rw [List.getElem?_take_of_lt (by simp [htk]; omega)] at h1
          simpa using h1
        have hxl := byteOf_last (l.take k)
        rw [htk] at hxl
        obtain ⟨x, hxe⟩ : ∃ x, x = byteOf (l.take k) (k / 8) := ⟨_, rfl⟩
        obtain ⟨N, hN⟩ : ∃ N, N = (packB (l.take k)).length := ⟨_, rfl⟩
        have hNk : N = (k + 7) / 8 := by rw [hN]; simp [htk]
        rw [← hxe] at hx hxl
        rw [← hN] at hov hn ht
        have hx256 : x < 256 := by rw [hxe]; exact byteOf_lt _ _
        have dx : wr.cell? ⟨g, k / 8, none⟩ = some (.int .u8 (x : Int)) := cellOf hrow hx
        have fx := freeOf (k / 8) hrow
        have hlti : (k : Int) / 8 < (N : Int) := by omega
        have hkL : (k : Int) < (L : Int) := by omega
        have n1 : ¬ g = xb := by omega
        have n2 : ¬ g = gl := by omega
        have hst := out_fin (i := k / 8) (y := x + b * 2 ^ (k % 8)) hg hrow hn hm hc ht hF
        have hadd := add_u8 x b (k % 8) hxl hb1 (by omega)
        have HADD : Hid (((x : Int) + (b : Int) * 2 ^ (k % 8)) % 256 = ((x + b * 2 ^ (k % 8) : Nat) : Int)) := hadd
        have HST := Hid.out hst
        have HS : Hid _ := HST
        have HK : Hid (N = (k + 7) / 8) := hNk
        have HX : Hid (x = byteOf (l.take k) (k / 8)) := hxe
        have HN : Hid (N = (packB (l.take k)).length) := hN
        rw [hov]
        clear hst HST hadd hown hrow ht hx hxl hxe hN hNk hov htk hlr hcl h0
        go_wp2_with fail
        go_region
        go_wp2_with fail
        go_roundw
        case rel =>
          have hpk := pack_stay l k hkl h8
          rw [← HX.out, ← HB.out] at hpk
          have hpl : (packB (l.take (k + 1))).length = N := by rw [hpk, List.length_set]; exact HN.out.symm
          rw [HADD.out]
          refine ⟨k + 1, by omega, by go_num, ?_, HS.out.2.drew⟩
          rw [hpl, hpk]
          exact HS.out.1
        case measure => simp [intOf]; omega
    · go_wp2_with fail
      go_ret
      have : k = l.length := by have := HL.out; omega
      subst this
      rw [List.take_length] at hown
      exact ⟨_, rfl, hown, hF⟩
end Go.Proofs.YtcefochgpijfbaaDoor
