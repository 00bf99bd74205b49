/- The document's writer, more: Out. -/
import Derived.Test.YtokgolmioonbfaaRw3
import Derived.BigRegion
namespace Go.Proofs.Ytokgolmioonbfaa
open Go.RowKit

theorem add_u8 (x b j : Nat) (hx : x < 2 ^ j) (hb : b ≤ 1) (hj : j < 8) : ((x : Int) + (b : Int) * 2 ^ j) % 256 = ((x + b * 2 ^ j : Nat) : Int) := by
  have h1 : 2 ^ j ≤ 128 := by
    have : 2 ^ j ≤ 2 ^ 7 := Nat.pow_le_pow_right (by decide) (by omega)
    omega
  have h2 := bit_mul_le b j hb
  have h3 : ((b : Int) * 2 ^ j) = ((b * 2 ^ j : Nat) : Int) := by simp
  rw [h3]
  omega

theorem out_fin {w W : World} {g n cap i y : Nat} {cur : Array Value} {B : List Nat} (hg : w.heap.size ≤ g) (hrow : W.heap[g]? = some (.cells cur 5 (0, 0)))
    (hn : n ≤ cap) (hm : cap ≤ maxLen) (hc : cur.size = cap) (ht : cur.toList.take n = byteVals B) (hf : Fr noB w W) :
    (W.setCell ⟨g, i, none⟩ (.int .u8 (y : Int))).ownsRow w.heap.size 5 1 (.slice (some ⟨g, 0, none⟩) n cap) n (byteVals (B.set i y)) ∧ Fr noB w (W.setCell ⟨g, i, none⟩ (.int .u8 (y : Int))) := by
  have hlen : (byteVals B).length = n := by rw [← ht]; simp; omega
  refine ⟨⟨by simpa using hlen, Or.inr ⟨g, cap, cur.setIfInBounds i (.int .u8 (y : Int)), rfl, hg, setOf i _ hrow, hn, hm, by simpa using hc, ?_⟩⟩, hf.setCell ⟨g, i, none⟩ (Or.inr hg) _⟩
  have : (cur.setIfInBounds i (.int .u8 (y : Int))).toList.take (n * 1) = (cur.toList.take n).set i (.int .u8 (y : Int)) := by
    simp [List.take_set]
  rw [this, ht, byteVals_set]

theorem pack_stay (l : List Bool) (k : Nat) (hk : k < l.length) (h8 : ¬ k % 8 = 0) : packB (l.take (k + 1)) = (packB (l.take k)).set (k / 8) (byteOf (l.take k) (k / 8) + (l[k]).toNat * 2 ^ (k % 8)) := by
  have htk : (l.take k).length = k := by simp; omega
  rw [List.take_succ_eq_append_getElem hk, packB_stay _ _ (by rw [htk]; exact h8), htk]
theorem pack_grow (l : List Bool) (k : Nat) (hk : k < l.length) (h8 : k % 8 = 0) : packB (l.take (k + 1)) = packB (l.take k) ++ [(l[k]).toNat] := by
  have htk : (l.take k).length = k := by simp; omega
  rw [List.take_succ_eq_append_getElem hk, packB_grow _ _ (by rw [htk]; exact h8)]
theorem take_snoc_b (l : List Bool) (k : Nat) (hk : k < l.length) : l.take (k + 1) = l.take k ++ [l[k]] := List.take_succ_eq_append_getElem hk

set_option maxRecDepth 100000 in
set_option maxHeartbeats 3200000 in
theorem refwout (xb : Nat) (lv : Value) (l : List Bool) (w : World) (h : RwSt w xb lv l) (hl : l.length ≤ 140737488355000) :
    Calls Try.prog 32 #[.pointer (some ⟨xb, 0, none⟩)] w fun e w' => ∃ v, e = .returned v ∧ w'.ownsRow w.heap.size 5 1 v (packB l).length (byteVals (packB l)) ∧ Fr noB w w' := by
  obtain ⟨i0, hi, hz0, hz1, hz2⟩ := info_parts Try.info5y
  have hone : ∀ u ∈ [Value.int .u8 0], u.oneCell' = true := by intro u hu; simp at hu; subst hu; rfl
  obtain ⟨lo, lc, rfl, q1, q2, q3, q4, q5⟩ := own_slice h.2
  have hlown := h.2
  have hxb := lt_of_block h.1
  obtain ⟨L, hL⟩ : ∃ L, L = l.length := ⟨_, rfl⟩
  have HL : Hid (L = l.length) := hL
  rw [← hL] at h hl q1 hlown
  clear hL q4 q5
  go_enter Try.func32, Try.ntmps32
  go_wp2_with fail
  go_loopw [3, 4] (fun ov i wr => ∃ k : Nat, k ≤ L ∧ i = .int .i64 (k : Int) ∧ wr.ownsRow w.heap.size 5 1 ov (packB (l.take k)).length (byteVals (packB (l.take k))) ∧ Fr noB w wr) (fun _ i _ => L - (intOf i).toNat)
  case atStart => exact ⟨0, Nat.zero_le _, rfl, by simpa [packB, byteVals] using World.ownsRow_nil w w.heap.size 5 1, Fr.refl _ _⟩
  case round =>
    obtain ⟨k, hk, rfl, hown, hF⟩ := hrel
    have hx1 := hF.obj h.1 id
    have c0 := cellOf (o := 0) hx1 rfl
    by_cases hlt : k < L
    · have hkl : k < l.length := by have := HL.out; omega
      obtain ⟨gl, c, cur0, hle, hgl, hlr, r1, r2, r3, r4⟩ := own_row hlown (by omega)
      simp at hle
      obtain ⟨rfl, rfl⟩ := hle
      have hgls := lt_of_block hlr
      have hlrr := hF.obj hlr id
      obtain ⟨b, hb⟩ : ∃ b, b = (l[k]).toNat := ⟨_, rfl⟩
      have hb1 : b ≤ 1 := by rw [hb]; cases l[k] <;> simp
      have hcl : cur0[k]? = some (.int .u8 (b : Int)) := by
        have h1 : (cur0.toList.take L)[k]? = some (.int .u8 (b : Int)) := by
          rw [r4, byteVals_get _ _ (by simpa using hkl), hb]
          simp [ones]
        rw [List.getElem?_take_of_lt hlt] at h1
        simpa using h1
      have cl : wr.cell? ⟨gl, k, none⟩ = some (.int .u8 (b : Int)) := cellOf hlrr hcl
      have htk : (l.take k).length = k := by simp; omega
      have HB : Hid (b = (l[k]).toNat) := hb
      have h0 := h.1
      clear hb r1 r2 r3 r4 hlown h
      by_cases h8 : k % 8 = 0
      · have hz8 : ((k : Int) % 8 == 0) = true := by simp; omega
        obtain ⟨N, hN⟩ : ∃ N, N = (packB (l.take k)).length := ⟨_, rfl⟩
        obtain ⟨cs, hcs⟩ : ∃ cs, cs = byteVals (packB (l.take k)) := ⟨_, rfl⟩
        have hNk : N = k / 8 := by rw [hN]; simp [htk]; omega
        have hNl : N ≤ 140737488355000 := by omega
        have hu3 : ∀ k', u3.ownBlock = some k' → w.heap.size ≤ k' := by
          obtain ⟨_, _, _, _, _, _, _, ho⟩ := own_slice hown
          exact fun k' hk' => (ho k' hk').1
        rw [← hN, ← hcs] at hown
        have HN : Hid (N = (packB (l.take k)).length) := hN
        have HCS : Hid (cs = byteVals (packB (l.take k))) := hcs
        have HNK : Hid (N = k / 8) := hNk
        have hlti : (k : Int) / 8 < (N : Int) + 1 := by omega
        have hkL : (k : Int) < (L : Int) := by omega
        have hnews : ∀ j u, [Value.int .u8 0][j]? = some u → (wr.alloc (.cells #[.int .u8 0] 5 (0, 0))).cell? ((⟨wr.heap.size, 0, none⟩ : Addr).add j) = some u := World.news_of_block (cs := #[.int .u8 0]) (t := 5) (fr := (0, 0)) (heap_alloc_new wr _)
        have hwsz := hF.size
        clear hN hcs hNk htk
        go_wp2_with (at_builtin; refine wpList_append_lies _ rfl (.tmp 17) (.tmp 18) 22 rfl w.heap.size 5 i0 (.int .u8 0) 1 1 Try.underlying22 hi hz0 hz1 hz2 rfl (by omega) _ N cs rfl (hown.alloc _) ⟨wr.heap.size, 0, none⟩ 1 1 [.int .u8 0] rfl rfl hnews hone (by omega) (by unfold maxLen; omega) (by omega) (by simp; omega) (wr.heap.size + 1) (by simp) ?_)
        intro g cap w1 hown1 hgrow hat hlt1
        have hF1 : Fr noB w w1 := (hF.alloc _).grown hgrow (fun k' hk' => Or.inr (hu3 k' hk'))
        obtain ⟨g', cap', cur, hov, hg, hrow, hn, hm, hc, ht⟩ := own_row hown1 (by omega)
        simp at hov
        obtain ⟨rfl, rfl⟩ := hov
        have hx : cur[k / 8]? = some (.int .u8 ((0 : Nat) : Int)) := by
          have h1 : (cur.toList.take (N + 1))[k / 8]? = some (.int .u8 ((0 : Nat) : Int)) := by
            rw [ht, HCS.out, ← HNK.out, List.getElem?_append_right (by simp [← HN.out])]
            simp [← HN.out]
          rw [List.getElem?_take_of_lt (by have := HNK.out; omega)] at h1
          simpa using h1
        have dx : w1.cell? ⟨g, k / 8, none⟩ = some (.int .u8 0) := cellOf hrow hx
        have fx := freeOf (k / 8) hrow
        have n1 : ¬ g = xb := by omega
        have n2 : ¬ g = gl := by omega
        have cx1 : w1.cell? ⟨xb, 0, none⟩ = some (.slice (some ⟨gl, 0, none⟩) L lc) := cellOf (hF1.obj h0 id) rfl
        have cl1 : w1.cell? ⟨gl, k, none⟩ = some (.int .u8 (b : Int)) := cellOf (hF1.obj hlr id) hcl
        have ht' : cur.toList.take (N + 1) = byteVals (packB (l.take k) ++ [0]) := by rw [ht, HCS.out]; simp [byteVals]
        have hst := out_fin (i := k / 8) (y := b) hg hrow hn hm hc ht' hF1
        have HS : Hid _ := hst
        have HADD : Hid ((b : Int) % 256 = (b : Int)) := by show (b : Int) % 256 = (b : Int); omega
        clear hst ht ht' hrow hx hown hown1 hgrow hat hF hF1 c0 cl hu3 hlr hcl h0
        go_wp2_with fail
        go_region
        go_wp2_with fail
        go_roundw
        case rel =>
          have hpk := pack_grow l k hkl h8
          rw [← HB.out] at hpk
          have hset : (packB (l.take k) ++ [0]).set (k / 8) b = packB (l.take k) ++ [b] := by
            rw [← HNK.out, HN.out]; simp
          have hpl : (packB (l.take (k + 1))).length = N + 1 := by rw [hpk, List.length_append, ← HN.out]; rfl
          have hS := HS.out
          rw [hset] at hS
          rw [HADD.out]
          refine ⟨k + 1, by omega, by go_num, ?_, hS.2.drew⟩
          rw [hpl, hpk]
          exact hS.1
        case measure => simp [intOf]; omega
      · have hz8 : ((k : Int) % 8 == 0) = false := by simp; omega
        obtain ⟨g, cap, cur, hov, hg, hrow, hn, hm, hc, ht⟩ := own_row hown (by simp [htk]; omega)
        have hi8 : k / 8 < (k + 7) / 8 := by omega
        have hx : cur[k / 8]? = some (.int .u8 ((byteOf (l.take k) (k / 8) : Nat) : Int)) := by
          have h1 : (cur.toList.take (packB (l.take k)).length)[k / 8]? = some (.int .u8 ((byteOf (l.take k) (k / 8) : Nat) : Int)) := by
            rw [ht, byteVals_get _ _ (by simp [htk]; omega), packB_get _ _ (by rw [htk]; omega)]
          rw [List.getElem?_take_of_lt (by simp [htk]; omega)] at h1
          simpa using h1
        have hxl := byteOf_last (l.take k)
        rw [htk] at hxl
        obtain ⟨x, hxe⟩ : ∃ x, x = byteOf (l.take k) (k / 8) := ⟨_, rfl⟩
        obtain ⟨N, hN⟩ : ∃ N, N = (packB (l.take k)).length := ⟨_, rfl⟩
        have hNk : N = (k + 7) / 8 := by rw [hN]; simp [htk]
        rw [← hxe] at hx hxl
        rw [← hN] at hov hn ht
        have hx256 : x < 256 := by rw [hxe]; exact byteOf_lt _ _
        have dx : wr.cell? ⟨g, k / 8, none⟩ = some (.int .u8 (x : Int)) := cellOf hrow hx
        have fx := freeOf (k / 8) hrow
        have hlti : (k : Int) / 8 < (N : Int) := by omega
        have hkL : (k : Int) < (L : Int) := by omega
        have n1 : ¬ g = xb := by omega
        have n2 : ¬ g = gl := by omega
        have hst := out_fin (i := k / 8) (y := x + b * 2 ^ (k % 8)) hg hrow hn hm hc ht hF
        have hadd := add_u8 x b (k % 8) hxl hb1 (by omega)
        have HADD : Hid (((x : Int) + (b : Int) * 2 ^ (k % 8)) % 256 = ((x + b * 2 ^ (k % 8) : Nat) : Int)) := hadd
        have HST := Hid.out hst
        have HS : Hid _ := HST
        have HK : Hid (N = (k + 7) / 8) := hNk
        have HX : Hid (x = byteOf (l.take k) (k / 8)) := hxe
        have HN : Hid (N = (packB (l.take k)).length) := hN
        rw [hov]
        clear hst HST hadd hown hrow ht hx hxl hxe hN hNk hov htk hlr hcl h0
        go_wp2_with fail
        go_region
        go_wp2_with fail
        go_roundw
        case rel =>
          have hpk := pack_stay l k hkl h8
          rw [← HX.out, ← HB.out] at hpk
          have hpl : (packB (l.take (k + 1))).length = N := by rw [hpk, List.length_set]; exact HN.out.symm
          rw [HADD.out]
          refine ⟨k + 1, by omega, by go_num, ?_, HS.out.2.drew⟩
          rw [hpl, hpk]
          exact HS.out.1
        case measure => simp [intOf]; omega
    · go_wp2_with fail
      go_ret
      have : k = l.length := by have := HL.out; omega
      subst this
      rw [List.take_length] at hown
      exact ⟨_, rfl, hown, hF⟩
end Go.Proofs.Ytokgolmioonbfaa
