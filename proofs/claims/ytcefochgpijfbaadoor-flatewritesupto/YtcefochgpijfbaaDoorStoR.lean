/- The contract of the document's Stored. -/
import Derived.Test.YtcefochgpijfbaaDoorSto2
import Derived.Laws.AppendOwn
import Derived.Deep.DeepCutAuto
namespace Go.Proofs.YtcefochgpijfbaaDoor
open Go.RowKit

theorem own_base' {base n : Nat} {w : World} {v : Value} {xs : List Value} (h : w.ownsRow base 5 1 v n xs) : ∀ b, v.ownBlock = some b → base ≤ b := by
  intro b e
  obtain ⟨_, h2⟩ := h
  rcases h2 with ⟨h2, _⟩ | ⟨g, cap, cur, hv, hg, hh, _⟩
  · rw [h2] at e; simp [Value.ownBlock] at e
  · rw [hv] at e
    simp [Value.ownBlock] at e
    omega
theorem five_src (w : World) (a b c d e : Nat) (A B C D E : Int) (hA : A = (a : Int)) (hB : B = (b : Int)) (hC : C = (c : Int)) (hD : D = (d : Int)) (hE : E = (e : Int)) : Src (w.alloc (.cells #[.int .u8 A, .int .u8 B, .int .u8 C, .int .u8 D, .int .u8 E] 5 (0, 0))) (some ⟨w.heap.size, 0, none⟩) (byteVals [a, b, c, d, e]) := by
  subst hA hB hC hD hE
  refine Src.of (Or.inr ⟨w.heap.size, 0, rfl, fun i hi => ?_⟩)
  rw [Nat.zero_add]
  refine cellOf (heap_alloc_new w _) ?_
  match i, hi with
  | 0, _ => rfl
  | 1, _ => rfl
  | 2, _ => rfl
  | 3, _ => rfl
  | 4, _ => rfl

set_option maxRecDepth 100000 in
set_option maxHeartbeats 1600000 in
theorem refstored_any (v : Value) (D : List Nat) (w : World) (hv : Bs w v D) (hD : ∀ x ∈ D, x < 256) (hDl : D.length ≤ 1073741824) :
    Calls Tryd.prog 15 #[v] w fun e w' => ∃ u, e = .returned u ∧ w'.ownsRow w.heap.size 5 1 u (storedF 1 D).length (byteVals (storedF 1 D)) ∧ Fr noB w w' := by
  obtain ⟨i0, hi, hz0, hz1, hz2⟩ := info_parts Tryd.info5'
  have HSl : Hid ((storedF 1 D).length ≤ 4294967296) := by
    have := storedF_len 1 D
    show (storedF 1 D).length ≤ 4294967296
    omega
  have HD : Hid (∀ x ∈ D, x < 256) := hD
  have H0 : Hid (BsLow w.heap.size w v D) := BsLow.of hv
  obtain ⟨ao, cap, rfl, b1, b2, b4, _⟩ := hv
  clear hD
  go_enter Tryd.func15, Tryd.ntmps15
  go_wp2_with fail
  go_loopg [0, 3] D.length (fun gh bv lv wr => ∃ (E X : List Nat), gh = E.length ∧ E.length ≤ D.length ∧ BsLow w.heap.size wr bv E ∧ wr.ownsRow w.heap.size 5 1 lv X.length (byteVals X) ∧ Hid (X ++ storedF 1 E = storedF 1 D) ∧ Fr noB w wr)
  case atStart => exact ⟨D, [], rfl, Nat.le_refl _, H0.out, World.ownsRow_nil _ _ _ _, rfl, Fr.refl _ _⟩
  case round =>
    obtain ⟨E, X, rfl, hEl, hE, hX, HX, hF⟩ := hrel
    have hXl : X.length ≤ 4294967296 := by
      have e := congrArg List.length HX.out
      have := HSl.out
      simp only [List.length_append] at e
      omega
    have HBs : Hid (BsLow w.heap.size wr _ E) := hE
    obtain ⟨eo, ecap, rfl, e1, e2, e4, e3⟩ := hE.1
    obtain ⟨xo, xcap, rfl, -⟩ := own_slice hX
    have HO : Hid (wr.ownsRow w.heap.size 5 1 (.slice xo X.length xcap) X.length (byteVals X)) := hX
    unfold maxLen at e2
    have hsz := hF.size
    clear hE hX
    by_cases hlt : 65535 < E.length
    · obtain ⟨n, hn⟩ : ∃ n : Nat, n = 65535 := ⟨_, rfl⟩
      have HN : Hid (n = 65535) := hn
      have hn1 : n ≤ 65535 := by omega
      have hn2 : n < E.length := by omega
      have i1 : min (E.length : Int) 65535 = (n : Int) := by omega
      have i2 : ((n : Int) == (E.length : Int)) = false := by simp; omega
      have i0' : 0 < n := by omega
      have HLt : Hid (65535 < E.length) := hlt
      clear hn hlt
      go_upto_region 2 with fail
      go_cut [4] (fun nv wc => nv = .int .i64 (n : Int) ∧ wc = wr)
      case first =>
        go_wp2_with fail
        all_goals go_meet
        all_goals exact ⟨by rw [HN.out]; rfl, rfl⟩
      obtain ⟨rfl, hwc⟩ := hcut
      have hwc' := hwc.symm
      subst hwc'
      go_wp2_with (at_builtin; refine wpList_append_src rfl (.tmp 13) (.tmp 29) 22 rfl w.heap.size 5 i0 (.int .u8 0) 1 Tryd.underlying22 hi hz0 hz1 hz2 rfl _ X.length (byteVals X) rfl (HO.out.alloc _) (some ⟨wr.heap.size, 0, none⟩) 5 5 rfl (by simp) (Nat.le_refl _) (byteVals [0, n % 256, n / 256, 255 - n % 256, 255 - n / 256]) (by simp) (five_src wr _ _ _ _ _ _ _ _ _ _ (by omega) (by omega) (by omega) (by omega) (by omega)) (byteVals_one _) (by unfold maxLen; omega) (by omega) (by simp; omega) ?_)
      intro v1 w1 hO1 hg1
      have hF1 : Fr noB w w1 := (hF.alloc _).grown hg1 (fun b hb => Or.inr (own_base' HO.out b hb))
      have HO1 : Hid (w1.ownsRow w.heap.size 5 1 v1 (X.length + 5) (byteVals (X ++ [0, n % 256, n / 256, 255 - n % 256, 255 - n / 256]))) := by
        have e : byteVals (X ++ [0, n % 256, n / 256, 255 - n % 256, 255 - n / 256]) = byteVals X ++ byteVals [0, n % 256, n / 256, 255 - n % 256, 255 - n / 256] := by simp [byteVals]
        rw [e]
        exact hO1
      obtain ⟨so1, sc1, rfl, -⟩ := own_slice HO1.out
      have hB1 : BsLow w.heap.size w1 (.slice eo E.length ecap) E := HBs.out.fr (S := fun k => w.heap.size ≤ k) (((Fr.refl _ wr).alloc _).grown hg1 (fun b hb => Or.inl (own_base' HO.out b hb))) (fun k hk h => by omega)
      have hne : E ≠ [] := by intro e; rw [e] at hn2; simp at hn2
      rcases e3 with e3 | ⟨b, off, rfl, hb, hc⟩
      · exact absurd e3 hne
      clear hc i1 i2
      have HS : Hid (Src w1 (some ⟨b, off, none⟩) (byteVals (E.take n))) := by
        obtain ⟨⟨ao', cap', e, _, _, _, h3⟩, _⟩ := hB1.take (k := n) (by omega)
        simp at e
        rcases h3 with h3 | ⟨b', o', e', _, h3⟩
        · exact Src.of (Or.inl h3)
        · rw [← e.1] at e'
          exact Src.of (Or.inr ⟨b', o', e', h3⟩)
      have HBk : Hid (blkB 0 (E.take n) = [0, n % 256, n / 256, 255 - n % 256, 255 - n / 256] ++ E.take n) := by
        have hl : (E.take n).length = n := by simp; omega
        show blkB 0 (E.take n) = [0, n % 256, n / 256, 255 - n % 256, 255 - n / 256] ++ E.take n
        unfold blkB
        rw [hl]
      have i3 : (E.length : Int) ≤ (ecap : Int) := by omega
      have i4 : ¬ ecap - n = 0 := by omega
      have i5 : (n : Int) ≤ (ecap : Int) := by omega
      have i6 : (n : Int) ≤ (E.length : Int) := by omega
      clear hO1 hg1
      have hsz1 := hF1.size
      go_wp2_with (at_builtin; refine wpList_append_src rfl (.tmp 31) (.tmp 34) 22 rfl w.heap.size 5 i0 (.int .u8 0) 1 Tryd.underlying22 hi hz0 hz1 hz2 rfl _ (X.length + 5) (byteVals (X ++ [0, n % 256, n / 256, 255 - n % 256, 255 - n / 256])) rfl HO1.out (some ⟨b, off, none⟩) n ecap rfl e4 (by omega) (byteVals (E.take n)) (by simp; omega) HS.out (byteVals_one _) (by unfold maxLen; omega) (by omega) hsz1 ?_)
      intro v2 w2 hO2 hg2
      have hF2 : Fr noB w w2 := hF1.grown hg2 (fun b hb => Or.inr (own_base' HO1.out b hb))
      have HO2 : Hid (w2.ownsRow w.heap.size 5 1 v2 (X ++ blkB 0 (E.take n)).length (byteVals (X ++ blkB 0 (E.take n)))) := by
        have e : byteVals (X ++ blkB 0 (E.take n)) = byteVals (X ++ [0, n % 256, n / 256, 255 - n % 256, 255 - n / 256]) ++ byteVals (E.take n) := by rw [HBk.out]; simp [byteVals]
        rw [e, HBk.out]
        have e2 : (X ++ ([0, n % 256, n / 256, 255 - n % 256, 255 - n / 256] ++ (E.take n))).length = X.length + 5 + n := by simp; omega
        rw [e2]
        exact hO2
      obtain ⟨so2, sc2, hv2, -⟩ := own_slice HO2.out
      subst hv2
      have hB2 : BsLow w.heap.size w2 (.slice (some ⟨b, off, none⟩) E.length ecap) E := hB1.fr (S := fun k => w.heap.size ≤ k) ((Fr.refl _ w1).grown hg2 (fun b hb => Or.inl (own_base' HO1.out b hb))) (fun k hk h => by omega)
      have HB2 : Hid (BsLow w.heap.size w2 (.slice (some ⟨b, off, none⟩) E.length ecap) E) := hB2
      clear hO2 hg2 hB1 hB2
      have HX2 : Hid ((X ++ blkB 0 (E.take n)) ++ storedF 1 (E.drop n) = storedF 1 D) := by
        show (X ++ blkB 0 (E.take n)) ++ storedF 1 (E.drop n) = storedF 1 D
        rw [← HX.out, storedF_more 1 E HLt.out, List.append_assoc, HN.out]
      have HB3 : Hid (BsLow w.heap.size w2 (.slice (some ⟨b, off + n, none⟩) (E.length - n) (ecap - n)) (E.drop n)) := HB2.out.drop (k := n) (by omega) hne
      go_wp2_with fail
      go_roundg (E.length - n)
      case measure => omega
      case rel => exact ⟨E.drop n, X ++ blkB 0 (E.take n), by simp, by simp; omega, HB3.out, HO2.out, HX2.out, hF2⟩
    · obtain ⟨n, hn⟩ : ∃ n, E.length = n := ⟨_, rfl⟩
      have HN : Hid (E.length = n) := hn
      have hnl : n ≤ 65535 := by omega
      rw [hn] at e1 hEl ⊢
      rw [hn] at HBs
      clear hn hlt
      have i1 : min (n : Int) 65535 = (n : Int) := by omega
      have i2 : ((n : Int) == (n : Int)) = true := by simp
      go_wp2_with (at_builtin; refine wpList_append_src rfl (.tmp 13) (.tmp 29) 22 rfl w.heap.size 5 i0 (.int .u8 0) 1 Tryd.underlying22 hi hz0 hz1 hz2 rfl _ X.length (byteVals X) rfl (HO.out.alloc _) (some ⟨wr.heap.size, 0, none⟩) 5 5 rfl (by simp) (Nat.le_refl _) (byteVals [1, n % 256, n / 256, 255 - n % 256, 255 - n / 256]) (by simp) (five_src wr _ _ _ _ _ _ _ _ _ _ (by omega) (by omega) (by omega) (by omega) (by omega)) (byteVals_one _) (by unfold maxLen; omega) (by omega) (by simp; omega) ?_)
      intro v1 w1 hO1 hg1
      have hF1 : Fr noB w w1 := (hF.alloc _).grown hg1 (fun b hb => Or.inr (own_base' HO.out b hb))
      have HO1 : Hid (w1.ownsRow w.heap.size 5 1 v1 (X.length + 5) (byteVals (X ++ [1, n % 256, n / 256, 255 - n % 256, 255 - n / 256]))) := by
        have e : byteVals (X ++ [1, n % 256, n / 256, 255 - n % 256, 255 - n / 256]) = byteVals X ++ byteVals [1, n % 256, n / 256, 255 - n % 256, 255 - n / 256] := by simp [byteVals]
        rw [e]
        exact hO1
      obtain ⟨so1, sc1, rfl, -⟩ := own_slice HO1.out
      have hB1 : BsLow w.heap.size w1 (.slice eo n ecap) E := HBs.out.fr (S := fun k => w.heap.size ≤ k) (((Fr.refl _ wr).alloc _).grown hg1 (fun b hb => Or.inl (own_base' HO.out b hb))) (fun k hk h => by omega)
      have HS : Hid (Src w1 eo (byteVals E)) := by
        obtain ⟨⟨ao', cap', e, _, _, _, h3⟩, _⟩ := hB1
        simp at e
        rcases h3 with h3 | ⟨b', o', e', _, h3⟩
        · exact Src.of (Or.inl h3)
        · rw [← e.1] at e'
          exact Src.of (Or.inr ⟨b', o', e', h3⟩)
      have HBk : Hid (blkB 1 E = [1, n % 256, n / 256, 255 - n % 256, 255 - n / 256] ++ E) := by
        show blkB 1 E = [1, n % 256, n / 256, 255 - n % 256, 255 - n / 256] ++ E
        unfold blkB
        rw [HN.out]
      have i3 : (n : Int) ≤ (ecap : Int) := by omega
      clear hO1 hg1
      have hsz1 := hF1.size
      go_wp2_with (at_builtin; refine wpList_append_src rfl (.tmp 31) (.tmp 34) 22 rfl w.heap.size 5 i0 (.int .u8 0) 1 Tryd.underlying22 hi hz0 hz1 hz2 rfl _ (X.length + 5) (byteVals (X ++ [1, n % 256, n / 256, 255 - n % 256, 255 - n / 256])) rfl HO1.out eo n ecap rfl e4 (by omega) (byteVals E) (by simp; exact HN.out) HS.out (byteVals_one _) (by unfold maxLen; omega) (by omega) hsz1 ?_)
      intro v2 w2 hO2 hg2
      have hF2 : Fr noB w w2 := hF1.grown hg2 (fun b hb => Or.inr (own_base' HO1.out b hb))
      have HO2 : Hid (w2.ownsRow w.heap.size 5 1 v2 (X ++ blkB 1 E).length (byteVals (X ++ blkB 1 E))) := by
        have e : byteVals (X ++ blkB 1 E) = byteVals (X ++ [1, n % 256, n / 256, 255 - n % 256, 255 - n / 256]) ++ byteVals E := by rw [HBk.out]; simp [byteVals]
        rw [e, HBk.out]
        have e2 : (X ++ ([1, n % 256, n / 256, 255 - n % 256, 255 - n / 256] ++ E)).length = X.length + 5 + n := by simp; have := HN.out; omega
        rw [e2]
        exact hO2
      obtain ⟨so2, sc2, hv2, -⟩ := own_slice HO2.out
      subst hv2
      have hB2 : BsLow w.heap.size w2 (.slice eo n ecap) E := hB1.fr (S := fun k => w.heap.size ≤ k) ((Fr.refl _ w1).grown hg2 (fun b hb => Or.inl (own_base' HO1.out b hb))) (fun k hk h => by omega)
      have HB2 : Hid (BsLow w.heap.size w2 (.slice eo n ecap) E) := hB2
      clear hO2 hg2 hB1 hB2
      have HX2 : Hid (X ++ blkB 1 E = storedF 1 D) := by
        show X ++ blkB 1 E = storedF 1 D
        rw [← HX.out, storedF_last 1 E (by have := HN.out; omega)]
      have HFin : Hid (w2.ownsRow w.heap.size 5 1 (.slice so2 (X ++ blkB 1 E).length sc2) (storedF 1 D).length (byteVals (storedF 1 D))) := by
        have e : X ++ blkB 1 E = storedF 1 D := HX2.out
        rw [← e]
        exact HO2.out
      rcases Nat.lt_or_ge n ecap with hcc | hcc
      · have i4 : ¬ ecap - n = 0 := by omega
        go_wp2_with fail
        go_ret
        exact ⟨_, rfl, HFin.out, hF2⟩
      · have i4 : ecap - n = 0 := by omega
        go_wp2_with fail
        go_ret
        exact ⟨_, rfl, HFin.out, hF2⟩
#print axioms refstored_any
end Go.Proofs.YtcefochgpijfbaaDoor
