/- The contracts of Fixed and of the document's Fixed. -/
import Derived.Test.YtcefochgpijfbaaDoorFix2
import Derived.Test.YtcefochgpijfbaaDoorRwT
import Derived.Test.YtcefochgpijfbaaDoorRevT
namespace Go.Proofs.YtcefochgpijfbaaDoor
open Go.RowKit

/-- The bits of a symbol of the fixed code. -/
def fixB (x : Nat) : List Bool := bitsN (revN (codeN fixLit x) (fixL x)) (fixL x)
/-- The bits of bytes. -/
def fixBits (D : List Nat) : List Bool := D.flatMap fixB
/-- The bits of one block of the fixed codes, byte by byte. -/
def fixAll (D : List Nat) : List Bool := bitsN 3 3 ++ fixBits D ++ bitsN 0 7
theorem fixBits_snoc (D : List Nat) (k : Nat) (h : k < D.length) : fixBits (D.take (k + 1)) = fixBits (D.take k) ++ fixB D[k] := by
  unfold fixBits
  rw [List.take_succ_eq_append_getElem h, List.flatMap_append]
  simp
theorem fixL_le (x : Nat) : fixL x ≤ 9 := by unfold fixL; split <;> (try split) <;> (try split) <;> omega
theorem fixBits_len (D : List Nat) : (fixBits D).length ≤ 9 * D.length := by
  induction D with
  | nil => simp [fixBits]
  | cons x D ih =>
    have e : fixBits (x :: D) = fixB x ++ fixBits D := by simp [fixBits]
    have := fixL_le x
    rw [e, List.length_append, List.length_cons]
    simp only [fixB, bitsN_length]
    omega
theorem code_ne {w : World} {cb wb : Nat} {cs : Array Value} (h : w.heap[cb]? = some (.cells cs 69 (0, 0))) (hne : cb ≠ wb) : ¬ wS w wb cb := by
  intro e
  rcases e with e | ⟨_, cs', fr, e⟩
  · exact hne e
  · rw [h] at e
    simp at e
theorem head_fix : bitsN true.toNat 1 ++ bitsN 1 2 = bitsN 3 3 := by decide
theorem end_fix : fixB 256 = bitsN 0 7 := by
  have e := fix_codes ⟨256, by decide⟩
  simp only at e
  have e2 : fixL 256 = 7 := by decide
  unfold fixB
  rw [e, e2]
  decide

set_option maxRecDepth 100000 in
set_option maxHeartbeats 1600000 in
theorem fixed_any (v : Value) (D : List Nat) (w : World) (hv : Bs w v D) (hD : ∀ x ∈ D, x < 256) (hDl : D.length ≤ 1073741824) :
    Calls Tryd.prog 16 #[v] w fun e w' => ∃ u, e = .returned u ∧ w'.ownsRow w.heap.size 5 1 u (packB (fixAll D)).length (byteVals (packB (fixAll D))) ∧ Fr noB w w' := by
  have HV : Hid (BsLow w.heap.size w v D) := BsLow.of hv
  have HD : Hid (∀ x ∈ D, x < 256) := hD
  obtain ⟨ao, cap, rfl, b1, b2, b4, _⟩ := hv
  unfold maxLen at b2
  have HBl : Hid (∀ k, (fixBits (D.take k)).length ≤ 9663676416) := fun k => by
    have h1 := fixBits_len (D.take k)
    have h2 := List.length_take_le' k D
    omega
  clear hD
  go_enter Tryd.func16, Tryd.ntmps16
  go_wp2_with fail
  refine (newWriter_any w).mono ?_
  rintro e w1 ⟨rfl, hW1, hF1, hs1⟩
  go_wp2_with fail
  refine (putHead_any w.heap.size 1 true [] w1 hW1 (by decide) (by decide)).mono ?_
  rintro e w2 ⟨rfl, hW2, hF2⟩
  rw [List.nil_append, head_fix] at hW2
  go_wp2_with fail
  refine (fixLens_any w2).mono ?_
  rintro e w3 ⟨g, rfl, hg, hr3, hF3⟩
  have hW3 := hW2.stay hF3 (fun _ _ h => h)
  go_wp2_with fail
  refine (newCode_fix g w3 hr3).mono ?_
  rintro e w4 ⟨g2, rfl, hg2, hr4, hF4⟩
  have hW4 := hW3.stay hF4 (fun _ _ h => h)
  have hr3' := hr3.keep hF4 id
  obtain ⟨wb, hwb⟩ : ∃ wb, w.heap.size = wb := ⟨_, rfl⟩
  have HWB : Hid (w.heap.size = wb) := hwb
  have hs2 : wb < w2.heap.size := by have := hF2.size; omega
  have hs3 := hF3.size
  have hs4 := hF4.size
  have hFw4 : Fr noB w w4 := ((hF1.then hF2 (fun k hk => Or.inr (by rcases hk with e | ⟨e, _⟩ <;> omega))).trans hF3).trans hF4
  obtain ⟨w5, hw5⟩ : ∃ w5, w4.alloc (.cells #[.slice (some ⟨g, 0, none⟩) 288 288, .slice (some ⟨g2, 0, none⟩) 288 288] 69 (0, 0)) = w5 := ⟨_, rfl⟩
  have hF5 : Fr noB w4 w5 := by rw [← hw5]; exact (Fr.refl noB w4).alloc _
  have hcb : w5.heap[w4.heap.size]? = some (.cells #[.slice (some ⟨g, 0, none⟩) 288 288, .slice (some ⟨g2, 0, none⟩) 288 288] 69 (0, 0)) := by rw [← hw5]; exact heap_alloc_new _ _
  have H5 : Hid (WrIs w5 wb (bitsN 3 3 ++ fixBits (D.take 0)) ∧ RowN w5 g 3 .i64 fixLit ∧ RowN w5 g2 76 .u32 (codesN fixLit) ∧ w5.heap[w4.heap.size]? = some (.cells #[.slice (some ⟨g, 0, none⟩) 288 288, .slice (some ⟨g2, 0, none⟩) 288 288] 69 (0, 0)) ∧ BsLow wb w5 (.slice ao D.length cap) D) := by
    refine ⟨?_, hr3'.keep hF5 id, hr4.keep hF5 id, hcb, ?_⟩
    · have := hW4.stay hF5 (fun _ _ h => h)
      rw [hwb] at this
      simpa [fixBits] using this
    · have := HV.out.fr (hFw4.trans hF5) (fun _ _ h => h)
      rw [hwb] at this
      exact this
  have hgn : g ≠ wb := by omega
  have hgn2 : g2 ≠ wb := by omega
  obtain ⟨cb, hcb'⟩ : ∃ cb, w4.heap.size = cb := ⟨_, rfl⟩
  have hcw : cb ≠ wb := by omega
  have hFw5 : Fr noB w w5 := hFw4.trans hF5
  rw [hwb]
  rw [hcb'] at H5
  clear hcb hW1 hW2 hW3 hW4 hr3 hr3' hr4 hwb hs1 hs2 hs3 hs4
  go_wp2_with fail
  try rw [hw5]
  try rw [hcb']
  clear hcb' hw5
  go_loopg [14] D.length (fun gh kv wr => ∃ k : Nat, k ≤ D.length ∧ gh = D.length - k ∧ kv = .int .i64 (k : Int) ∧ WrIs wr wb (bitsN 3 3 ++ fixBits (D.take k)) ∧ RowN wr g 3 .i64 fixLit ∧ RowN wr g2 76 .u32 (codesN fixLit) ∧ wr.heap[cb]? = some (.cells #[.slice (some ⟨g, 0, none⟩) 288 288, .slice (some ⟨g2, 0, none⟩) 288 288] 69 (0, 0)) ∧ BsLow wb wr (.slice ao D.length cap) D ∧ Fr noB w wr)
  case atStart => exact ⟨0, by omega, rfl, rfl, H5.out.1, H5.out.2.1, H5.out.2.2.1, H5.out.2.2.2.1, H5.out.2.2.2.2, hFw5⟩
  case round =>
    obtain ⟨k, hk, rfl, rfl, hW, r1, r2, hcb, hB, hF⟩ := hrel
    have hbl := HBl.out k
    have c0 := cellOf (o := 0) hcb rfl
    have c1 := cellOf (o := 1) hcb rfl
    by_cases hlt : k < D.length
    · have hB' := hB
      obtain ⟨⟨ao', cap', e, _, _, _, h3⟩, _⟩ := hB'
      simp at e
      obtain ⟨rfl, rfl⟩ := e
      rcases h3 with h3 | ⟨b, off, rfl, hb, hc⟩
      · rw [h3] at hlt; simp at hlt
      have hcell := hc k hlt
      have hx := HD.out _ (List.getElem_mem hlt)
      have HSn : Hid (fixBits (D.take (k + 1)) = fixBits (D.take k) ++ fixB D[k]) := fixBits_snoc D k hlt
      generalize D[k] = x at *
      have HP := codePut_fix wb g g2 x (bitsN 3 3 ++ fixBits (D.take k)) wr hW r1 r2 hgn hgn2 (by omega) (by simp; omega)
      have hk0 : (0 : Int) ≤ (k : Int) := by omega
      have hk1 : (k : Int) < (D.length : Int) := by omega
      have HB : Hid (BsLow wb wr (.slice (some ⟨b, off, none⟩) D.length cap) D) := hB
      clear hc
      go_wp2_with fail
      refine HP.mono ?_
      rintro e w6 ⟨rfl, hW6, hF6⟩
      have HW6 : Hid (WrIs w6 wb (bitsN 3 3 ++ fixBits (D.take (k + 1)))) := by
        show WrIs w6 wb (bitsN 3 3 ++ fixBits (D.take (k + 1)))
        rw [HSn.out, ← List.append_assoc]
        exact hW6
      have hcb6 := hF6.obj hcb (fun e => code_ne hcb hcw e)
      have h1' := r1.wr (by decide) hgn hF6
      have h2' := r2.wr (by decide) hgn2 hF6
      have hF7 : Fr noB w w6 := hF.then hF6 (fun j hj => Or.inr (by have := HWB.out; rcases hj with e | ⟨e, _⟩ <;> omega))
      have HB6 : Hid (BsLow wb w6 (.slice (some ⟨b, off, none⟩) D.length cap) D) := HB.out.wr hF6
      clear hW6 HP hB
      go_wp2_with fail
      go_roundg (D.length - (k + 1))
      case measure => omega
      case rel => exact ⟨k + 1, by omega, rfl, by go_num, HW6.out, h1', h2', hcb6, HB6.out, hF7⟩
    · obtain rfl : k = D.length := by omega
      have HP := codePut_fix wb g g2 256 (bitsN 3 3 ++ fixBits (D.take D.length)) wr hW r1 r2 hgn hgn2 (by decide) (by simp; rw [List.take_length] at hbl; omega)
      have HAll : Hid (bitsN 3 3 ++ fixBits (D.take D.length) ++ bitsN (revN (codeN fixLit 256) (fixL 256)) (fixL 256) = fixAll D) := by
        have e : bitsN (revN (codeN fixLit 256) (fixL 256)) (fixL 256) = bitsN 0 7 := end_fix
        show _ = fixAll D
        rw [e, List.take_length]
        rfl
      have hi1 : ¬ (D.length : Int) < (D.length : Int) := by omega
      go_wp2_with fail
      refine HP.mono ?_
      rintro e w6 ⟨rfl, hW6, hF6⟩
      rw [HAll.out] at hW6
      have hF7 : Fr noB w w6 := hF.then hF6 (fun j hj => Or.inr (by have := HWB.out; rcases hj with e | ⟨e, _⟩ <;> omega))
      have hal : (fixAll D).length ≤ 1125899906842000 := by
        have := HBl.out D.length
        rw [List.take_length] at this
        simp [fixAll]
        omega
      have HO := wout_any wb (fixAll D) w6 hW6 hal
      obtain ⟨PB, hPB⟩ : ∃ PB, packB (fixAll D) = PB := ⟨_, rfl⟩
      have HPB : Hid (packB (fixAll D) = PB) := hPB
      rw [hPB] at HO
      clear HP hB hPB
      go_wp2_with fail
      refine HO.mono ?_
      rintro e w7 ⟨u, rfl, hown, hF8⟩
      obtain ⟨so, sc, rfl, -⟩ := own_slice hown
      have HO7 : Hid (w7.ownsRow w6.heap.size 5 1 (.slice so PB.length sc) PB.length (byteVals PB)) := hown
      clear hown HO
      go_wp2_with fail
      go_ret
      refine ⟨_, rfl, ?_, hF7.trans hF8⟩
      rw [HPB.out]
      obtain ⟨o1, o2⟩ := HO7.out
      refine ⟨o1, ?_⟩
      rcases o2 with o2 | ⟨g', cap', cur', k1, k2, k3, k4⟩
      · exact Or.inl o2
      · exact Or.inr ⟨g', cap', cur', k1, by have := hF7.size; have := HWB.out; omega, k3, k4⟩

theorem BsLow.wstep {xb : Nat} {lv : Value} {w w' : World} {v : Value} {D : List Nat} (h : BsLow xb w v D) (hF : Fr (pS xb lv) w w') (ho : ∀ k, lv.ownBlock = some k → xb + 1 ≤ k) : BsLow xb w' v D :=
  h.fr hF (fun k hk hs => by
    rcases hs with e | e
    · omega
    · have := ho k e; omega)
theorem RwSt.own {w : World} {xb : Nat} {lv : Value} {l : List Bool} (h : RwSt w xb lv l) : ∀ k, lv.ownBlock = some k → xb + 1 ≤ k := fun k hk => by
  obtain ⟨_, h2⟩ := h.2
  rcases h2 with ⟨h2, _⟩ | ⟨g, cap, cur, hv, hg, _⟩
  · rw [h2] at hk; simp [Value.ownBlock] at hk
  · rw [hv] at hk
    simp [Value.ownBlock] at hk
    omega

set_option maxRecDepth 100000 in
set_option maxHeartbeats 1600000 in
theorem reffixed_any (v : Value) (D : List Nat) (w : World) (hv : Bs w v D) (hD : ∀ x ∈ D, x < 256) (hDl : D.length ≤ 1073741824) :
    Calls Tryd.prog 17 #[v] w fun e w' => ∃ u, e = .returned u ∧ w'.ownsRow w.heap.size 5 1 u (packB (fixAll D)).length (byteVals (packB (fixAll D))) ∧ Fr noB w w' := by
  have HV : Hid (BsLow w.heap.size w v D) := BsLow.of hv
  have HD : Hid (∀ x ∈ D, x < 256) := hD
  obtain ⟨ao, cap, rfl, b1, b2, b4, _⟩ := hv
  unfold maxLen at b2
  have HBl : Hid (∀ k, (fixBits (D.take k)).length ≤ 9663676416) := fun k => by
    have h1 := fixBits_len (D.take k)
    have h2 := List.length_take_le' k D
    omega
  clear hD
  obtain ⟨xb, hxb⟩ : ∃ xb, w.heap.size = xb := ⟨_, rfl⟩
  have HXB : Hid (w.heap.size = xb) := hxb
  obtain ⟨w1, hw1⟩ : ∃ w1, w.alloc (.cells #[.slice none 0 0] 74 (0, 0)) = w1 := ⟨_, rfl⟩
  have hF1 : Fr noB w w1 := by rw [← hw1]; exact (Fr.refl noB w).alloc _
  have hst : RwSt w1 xb (.slice none 0 0) [] := by
    refine ⟨?_, World.ownsRow_nil _ _ _ _⟩
    rw [← hw1, ← hxb]
    exact heap_alloc_new _ _
  have H3 := refwbits_good xb 3 3 (.slice none 0 0) [] w1 hst (by decide) (by decide) (by decide)
  rw [← hw1, ← hxb] at H3
  have HW1 : Hid (w.alloc (.cells #[.slice none 0 0] 74 (0, 0)) = w1) := hw1
  have hB1 : BsLow xb w1 (.slice ao D.length cap) D := by
    have := HV.out.fr hF1 (fun _ _ h => h)
    rw [hxb] at this
    exact this
  have HB1 : Hid (BsLow xb w1 (.slice ao D.length cap) D ∧ RwSt w1 xb (.slice none 0 0) []) := ⟨hB1, hst⟩
  clear hxb hw1 hst hB1
  go_enter Tryd.func17, Tryd.ntmps17
  go_wp2_with fail
  refine H3.mono ?_
  rintro e w2 ⟨rfl, lv, hW2, hS2⟩
  rw [HW1.out, HXB.out] at hS2
  rw [HXB.out] at hW2 ⊢
  have hF2 : Fr noB w w2 := hF1.then hS2.fr (fun k hk => Or.inr (by
    have := HXB.out
    rcases hk with e | e
    · omega
    · have := HB1.out.2.own k e; omega))
  have hB2 : BsLow xb w2 (.slice ao D.length cap) D := HB1.out.1.wstep hS2.fr HB1.out.2.own
  have H2 : Hid (RwSt w2 xb lv (bitsN 3 3 ++ fixBits (D.take 0)) ∧ BsLow xb w2 (.slice ao D.length cap) D) := ⟨by simpa [fixBits] using hW2, hB2⟩
  clear hW2 hS2 H3 hB2
  go_wp2_with fail
  go_loopg [4] D.length (fun gh kv wr => ∃ (k : Nat) (lv : Value), k ≤ D.length ∧ gh = D.length - k ∧ kv = .int .i64 (k : Int) ∧ RwSt wr xb lv (bitsN 3 3 ++ fixBits (D.take k)) ∧ BsLow xb wr (.slice ao D.length cap) D ∧ Fr noB w wr)
  case atStart => exact ⟨0, lv, by omega, rfl, rfl, H2.out.1, H2.out.2, hF2⟩
  case round =>
    clear hF2
    obtain ⟨k, lv, hk, rfl, rfl, hW, hB, hF⟩ := hrel
    have hbl := HBl.out k
    by_cases hlt : k < D.length
    · have hB' := hB
      obtain ⟨⟨ao', cap', e, _, _, _, h3⟩, _⟩ := hB'
      simp at e
      obtain ⟨rfl, rfl⟩ := e
      rcases h3 with h3 | ⟨b, off, rfl, hb, hc⟩
      · rw [h3] at hlt; simp at hlt
      have hcell := hc k hlt
      have hx := HD.out _ (List.getElem_mem hlt)
      have HSn : Hid (fixBits (D.take (k + 1)) = fixBits (D.take k) ++ fixB D[k]) := fixBits_snoc D k hlt
      generalize D[k] = x at *
      have HCd : Hid (codeN fixLit x = if x < 144 then 48 + x else if x < 256 then 256 + x else 0) := fix_codes ⟨x, by omega⟩
      have hk0 : (0 : Int) ≤ (k : Int) := by omega
      have hk1 : (k : Int) < (D.length : Int) := by omega
      have HB : Hid (BsLow xb wr (.slice (some ⟨b, off, none⟩) D.length cap) D) := hB
      have HW : Hid (RwSt wr xb lv (bitsN 3 3 ++ fixBits (D.take k))) := hW
      clear hc hB hW
      by_cases h144 : x < 144
      · have hI : (x : Int) < 144 := by omega
        have HRv := refrev_yes (48 + x) 8 wr (by decide)
        have HPt := refwbits_good xb (revN (48 + x) 8) 8 lv (bitsN 3 3 ++ fixBits (D.take k)) wr HW.out (by decide) (ofB_lt _ _) (by simp; omega)
        have e : fixB x = bitsN (revN (48 + x) 8) 8 := by
          have e2 : fixL x = 8 := by unfold fixL; rw [if_pos h144]
          unfold fixB
          rw [HCd.out, if_pos h144, e2]
        rw [e] at HSn
        rw [show (((48 + x : Nat)) : Int) = 48 + (x : Int) from by omega] at HRv
        clear e
        go_wp2_with fail
        refine HRv.mono ?_
        rintro e wx ⟨rfl, hwx⟩
        have hwx' := hwx.symm
        subst hwx'
        go_wp2_with fail
        refine HPt.mono ?_
        rintro e w3 ⟨rfl, lv3, hW3, hS3⟩
        have HW3 : Hid (RwSt w3 xb lv3 (bitsN 3 3 ++ fixBits (D.take (k + 1)))) := by
          show RwSt w3 xb lv3 (bitsN 3 3 ++ fixBits (D.take (k + 1)))
          rw [HSn.out, ← List.append_assoc]
          exact hW3
        have HB3 : Hid (BsLow xb w3 (.slice (some ⟨b, off, none⟩) D.length cap) D) := HB.out.wstep hS3.fr HW.out.own
        have hF3 : Fr noB w w3 := hF.then hS3.fr (fun j hj => Or.inr (by
          have := HXB.out
          rcases hj with e | e
          · omega
          · have := HW.out.own j e; omega))
        clear hW3 hS3 HRv HPt
        go_wp2_with fail
        go_roundg (D.length - (k + 1))
        case measure => omega
        case rel => exact ⟨k + 1, lv3, by omega, rfl, by go_num, HW3.out, HB3.out, hF3⟩
      · have hI : ¬ (x : Int) < 144 := by omega
        have HRv := refrev_yes (256 + x) 9 wr (by decide)
        have HPt := refwbits_good xb (revN (256 + x) 9) 9 lv (bitsN 3 3 ++ fixBits (D.take k)) wr HW.out (by decide) (ofB_lt _ _) (by simp; omega)
        have e : fixB x = bitsN (revN (256 + x) 9) 9 := by
          have e2 : fixL x = 9 := by unfold fixL; rw [if_neg h144, if_pos (by omega)]
          unfold fixB
          rw [HCd.out, if_neg h144, if_pos (by omega), e2]
        rw [e] at HSn
        rw [show (((256 + x : Nat)) : Int) = 400 + (x : Int) - 144 from by omega] at HRv
        clear e
        go_wp2_with fail
        refine HRv.mono ?_
        rintro e wx ⟨rfl, hwx⟩
        have hwx' := hwx.symm
        subst hwx'
        go_wp2_with fail
        refine HPt.mono ?_
        rintro e w3 ⟨rfl, lv3, hW3, hS3⟩
        have HW3 : Hid (RwSt w3 xb lv3 (bitsN 3 3 ++ fixBits (D.take (k + 1)))) := by
          show RwSt w3 xb lv3 (bitsN 3 3 ++ fixBits (D.take (k + 1)))
          rw [HSn.out, ← List.append_assoc]
          exact hW3
        have HB3 : Hid (BsLow xb w3 (.slice (some ⟨b, off, none⟩) D.length cap) D) := HB.out.wstep hS3.fr HW.out.own
        have hF3 : Fr noB w w3 := hF.then hS3.fr (fun j hj => Or.inr (by
          have := HXB.out
          rcases hj with e | e
          · omega
          · have := HW.out.own j e; omega))
        clear hW3 hS3 HRv HPt
        go_wp2_with fail
        go_roundg (D.length - (k + 1))
        case measure => omega
        case rel => exact ⟨k + 1, lv3, by omega, rfl, by go_num, HW3.out, HB3.out, hF3⟩
    · obtain rfl : k = D.length := by omega
      rw [List.take_length] at hW hbl
      have HP := refwbits_good xb 0 7 lv (bitsN 3 3 ++ fixBits D) wr hW (by decide) (by decide) (by simp; omega)
      have HAll : Hid (bitsN 3 3 ++ fixBits D ++ bitsN 0 7 = fixAll D) := rfl
      have HW : Hid (RwSt wr xb lv (bitsN 3 3 ++ fixBits D)) := hW
      have hi1 : ¬ (D.length : Int) < (D.length : Int) := by omega
      clear hW hB
      go_wp2_with fail
      refine HP.mono ?_
      rintro e w6 ⟨rfl, lv6, hW6, hS6⟩
      rw [HAll.out] at hW6
      have hF7 : Fr noB w w6 := hF.then hS6.fr (fun j hj => Or.inr (by
        have := HXB.out
        rcases hj with e | e
        · omega
        · have := HW.out.own j e; omega))
      have hal : (fixAll D).length ≤ 140737488355000 := by
        simp [fixAll]
        omega
      have HO := refwout xb lv6 (fixAll D) w6 hW6 hal
      obtain ⟨PB, hPB⟩ : ∃ PB, packB (fixAll D) = PB := ⟨_, rfl⟩
      have HPB : Hid (packB (fixAll D) = PB) := hPB
      rw [hPB] at HO
      clear HP hPB
      go_wp2_with fail
      refine HO.mono ?_
      rintro e w7 ⟨u, rfl, hown, hF8⟩
      obtain ⟨so, sc, rfl, -⟩ := own_slice hown
      have HO7 : Hid (w7.ownsRow w6.heap.size 5 1 (.slice so PB.length sc) PB.length (byteVals PB)) := hown
      clear hown HO
      go_wp2_with fail
      go_ret
      refine ⟨_, rfl, ?_, hF7.trans hF8⟩
      rw [HPB.out]
      obtain ⟨o1, o2⟩ := HO7.out
      refine ⟨o1, ?_⟩
      rcases o2 with o2 | ⟨g', cap', cur', k1, k2, k3, k4⟩
      · exact Or.inl o2
      · exact Or.inr ⟨g', cap', cur', k1, by have := hF7.size; omega, k3, k4⟩
#print axioms fixed_any
#print axioms reffixed_any
end Go.Proofs.YtcefochgpijfbaaDoor
