/- The contract of Lengths. -/
import Derived.Test.YtcefochgpijfbaaChp
namespace Go.Proofs.Ytcefochgpijfbaa
open Go.RowKit

/-- How often each of the first n symbols stands in packages, and in symbols behind them. -/
def tabP (n : Nat) (Q : List Pk) (s : List Nat) : List Nat := (List.range n).map fun i => occP i Q + s.count i
@[simp] theorem tabP_len (n : Nat) (Q : List Pk) (s : List Nat) : (tabP n Q s).length = n := by simp [tabP]
theorem tabP_get (n : Nat) (Q : List Pk) (s : List Nat) (i : Nat) (h : i < (tabP n Q s).length) : (tabP n Q s)[i] = occP i Q + s.count i := by simp [tabP]
theorem tabP_zero (n : Nat) : tabP n [] [] = List.replicate n 0 := by
  apply List.ext_getElem
  · simp
  · intro i h1 h2; rw [tabP_get]; simp [occP]
theorem tabP_pack (n : Nat) (Q : List Pk) (j : Nat) (h : j < Q.length) : tabP n (Q.take j) Q[j].s = tabP n (Q.take (j + 1)) [] := by
  apply List.ext_getElem
  · simp
  · intro i h1 h2
    rw [tabP_get, tabP_get, List.take_succ_eq_append_getElem h, occP_append]
    simp [occP]
theorem tabP_inc (n : Nat) (Q : List Pk) (s : List Nat) (t : Nat) (h : t < s.length) : (tabP n Q (s.take t)).set s[t] (occP s[t] Q + (s.take t).count s[t] + 1) = tabP n Q (s.take (t + 1)) := by
  apply List.ext_getElem
  · simp
  · intro i h1 h2
    rw [List.getElem_set, tabP_get, tabP_get, List.take_succ_eq_append_getElem h, List.count_append, List.count_singleton]
    by_cases e : s[t] = i
    · subst e; simp; omega
    · rw [if_neg e]
      have : (s[t] == i) = false := by simpa using e
      simp [this]
theorem tabP_lens (C : List Nat) (L : List Pk) (most : Nat) : tabP C.length (chosen L most) [] = lensP C L most := by
  unfold tabP lensP
  simp
theorem Apart.of {w : World} {D : List PV} {Q : List Pk} (h : RepL w D Q) (g : Nat) (hg : w.heap.size ≤ g) : Apart g D := by
  induction h with
  | nil => intro p hp; simp at hp
  | cons hp _ ih =>
    intro q hq e
    rcases List.mem_cons.1 hq with rfl | hq
    · obtain ⟨b, cap, cs, h1, h2, h3, h4, h5, h6⟩ := hp.2
      rw [h1] at e
      simp [Value.ownBlock] at e
      subst e
      have := lt_of_block h5
      omega
    · exact ih q hq e
theorem pow_most (most : Nat) (h : most ≤ 15) : (2 : Int) ^ most ≤ 32768 ∧ (0 : Int) < 2 ^ most := by
  have h1 : (2 : Nat) ^ most ≤ 2 ^ 15 := Nat.pow_le_pow_right (by decide) h
  have h2 : (0 : Nat) < 2 ^ most := Nat.pow_pos (by decide)
  have e : ((2 ^ most : Nat) : Int) = (2 : Int) ^ most := by simp
  omega
theorem occP_le (i m : Nat) (l : List Pk) (h : ∀ p ∈ l, p.s.length ≤ m) : occP i l ≤ l.length * m := by
  induction l with
  | nil => simp [occP]
  | cons p l ih =>
    have h1 := ih (fun q hq => h q (by simp [hq]))
    have h2 := h p (by simp)
    have h3 := List.count_le_length (a := i) (l := p.s)
    simp only [occP, List.length_cons, Nat.succ_mul]
    omega
theorem occ_1022 (i : Nat) (l : List Pk) (h : ∀ p ∈ l, p.s.length ≤ 524288) (hl : l.length ≤ 1022) : occP i l ≤ 535822336 := by
  have := occP_le i 524288 l h
  omega
theorem lev_lt {C : List Nat} {L : List Pk} (h : LeafOk C L) (k : Nat) : ∀ p ∈ levP L k, ∀ s ∈ p.s, s < C.length :=
  levP_syms (fun s => s < C.length) (fun q hq s hsq => by
    obtain ⟨j, hj, rfl, _⟩ := h.mem q hq
    simp at hsq
    subst hsq
    exact hj) k
theorem Sy.cellAt {w : World} {v : Value} {s : List Nat} (h : Sy w v s) : ∃ b cap, v = .slice (some ⟨b, 0, none⟩) s.length cap ∧ b < w.heap.size ∧ ∀ i (h : i < s.length), w.cell? ⟨b, i, none⟩ = some (.int .i64 ((s[i] : Nat) : Int)) := by
  obtain ⟨b, cap, cs, h1, h2, h3, h4, h5, h6⟩ := h
  exact ⟨b, cap, h1, lt_of_block h5, fun i hi => cellOf h5 (h6 i hi)⟩

set_option maxRecDepth 100000 in
set_option maxHeartbeats 1600000 in
theorem lengths_many (v : Value) (C : List Nat) (most : Nat) (w : World) (hv : Ns .i64 w v (up C)) (hC : C.length ≤ 512) (hn : numsB (up C) = true) (hm1 : 1 ≤ most) (hm2 : most ≤ 15) (h2 : 2 ≤ (leavesP 0 C).length) (hNm : (leavesP 0 C).length ≤ 2 ^ most) :
    Calls Try.prog 4 #[v, .int .i64 (most : Int)] w fun e w' => ∃ g L, e = .returned (.tuple #[.slice (some ⟨g, 0, none⟩) C.length C.length, .int .i64 0]) ∧ w.heap.size ≤ g ∧ LeafOk C L ∧ RowN w' g 3 .i64 (lensP C L most) ∧ Fr noB w w' := by
  have HAll := allNumbers_any v (up C) w hv
  rw [hn] at HAll
  have HSing := singles_any v C w hv hC
  obtain ⟨i0, hi, hz0, hz1, hz2⟩ := info_parts Try.infoI
  have hmax : ∀ c ∈ C, c ≤ 2147483648 := by
    intro c hc
    obtain ⟨j, hj, rfl⟩ := List.getElem_of_mem hc
    have := numsB_get hn j (by simpa using hj)
    rw [up_get C j hj] at this
    omega
  obtain ⟨ao, cap, hvv, h1, hc2, h4, h3⟩ := hv
  clear h3 h4
  rw [length_up] at h1 hvv
  subst hvv
  have HNl : Hid ((leavesP 0 C).length ≤ 2 ^ most) := hNm
  obtain ⟨n, hn'⟩ : ∃ n, C.length = n := ⟨_, rfl⟩
  have HN : Hid (C.length = n) := hn'
  rw [hn'] at hC h1 HAll HSing ⊢
  have hp := pow_most most hm2
  have hp' : (((leavesP 0 C).length : Nat) : Int) ≤ 2 ^ most := by
    have e : ((2 ^ most : Nat) : Int) = (2 : Int) ^ most := by simp
    omega
  have hmI : (1 : Int) ≤ (most : Int) := by omega
  have hmI2 : (most : Int) ≤ 15 := by omega
  unfold maxLen at hc2
  have b1 : decide ((512 : Int) < (n : Int)) = false := by simp; omega
  have b2 : decide ((most : Int) < 1) = false := by simp; omega
  have b3 : decide ((15 : Int) < (most : Int)) = false := by simp; omega
  clear hn' hn hNm
  go_enter Try.func4, Try.ntmps4
  go_wp2_with fail
  refine HAll.mono ?_
  rintro e w0 ⟨rfl, hw0⟩
  have hw0' := hw0.symm
  subst hw0'
  go_wp2_with fail
  refine HSing.mono ?_
  rintro e w1 ⟨lv, D, rfl, hO, hR, hF1⟩
  have hDl := hR.length
  obtain ⟨g, cg, rfl, hg, hcg1, hcg2, hP⟩ := hO.row (by omega)
  obtain ⟨N, hN⟩ : ∃ N, D.length = N := ⟨_, rfl⟩
  rw [hN] at hcg1 hDl ⊢
  rw [← hDl] at hp' h2
  have HDN : Hid (D.length = N ∧ N = (leavesP 0 C).length) := ⟨hN, hDl⟩
  have hN512 : N ≤ 512 := by have := leaves_len C 0; have := HN.out; omega
  have HP : Hid (PRow w1 g D ∧ RepL w1 D (leavesP 0 C)) := ⟨hP, hR⟩
  unfold maxLen at hcg2
  have hN1 : ((N : Int) == 1) = false := by simp; omega
  have b4 : decide ((2 : Int) ^ most < (N : Int)) = false := by simp; omega
  clear hDl hN hR hO hP HAll HSing
  go_wp2_with (at_make; refine wpList_make_full _ rfl (.tmp 34) (.tmp 34) 22 rfl w1.heap.size 3 i0 (.int .i64 0) 1 Try.underlying22 hi hz0 hz1 .i64 .i64 _ _ n rfl rfl rfl rfl (by rw [hz2]; omega) (by unfold maxLen; omega) (Nat.le_refl _) ?_)
  intro w2 hown2 hgr2
  have hF12 : Fr noB w1 w2 := (Fr.refl noB w1).grown hgr2 (by simp)
  have hF2 : Fr noB w w2 := hF1.trans hF12
  have hrow2 := made_nums hown2
  have hglt : g < w1.heap.size := by obtain ⟨_, hh⟩ := HP.out.1; exact lt_of_block hh
  have hgl2 : w1.heap.size < w2.heap.size := lt_of_block hrow2
  have hAp : Apart w1.heap.size D := Apart.of HP.out.2 _ (Nat.le_refl _)
  have hw1 : w.heap.size ≤ w1.heap.size := hF1.size
  generalize w1.heap.size = gl at *
  have HCh := cheapest_any g cg N most D C w2 (HP.out.1.keep hF12 id) (HP.out.2.keep hF12 (fun _ _ _ h => h)) HDN.out.1 h2 hN512 hcg1 (by unfold maxLen; omega) hmax hm1 hm2 (by rw [HDN.out.2]; exact HNl.out)
  have HRow2 : Hid (RowN w2 gl 3 .i64 (List.replicate n 0)) := hrow2
  have HAp : Hid (Apart gl D) := hAp
  clear hown2 hgr2 hrow2 hAp
  go_wp2_with fail
  refine HCh.mono ?_
  rintro e w3 ⟨gq, cq, F, L, rfl, hPF, hLf, hLN, hRF, hcq, hApF, hF3⟩
  have HLf : Hid (LeafOk C L) := hLf
  have hrow3 : RowN w3 gl 3 .i64 (tabP n ((levP L (most - 1)).take 0) []) := by
    have := HRow2.out.keep hF3 (by show ¬ gl = g; omega)
    rw [List.take_zero, tabP_zero]
    exact this
  have hFw3 : Fr noB w w3 := hF2.then hF3 (fun i hi => Or.inr (by have : i = g := hi; omega))
  have hApF' : Apart gl F := hApF gl hgl2 HAp.out
  have hen : 2 * N - 2 ≤ (levP L (most - 1)).length := by
    have := enough L (most - 1) (by rw [hLN, show most - 1 + 1 = most by omega, HDN.out.2]; exact HNl.out)
    rw [hLN] at this
    exact this
  have HB : Hid (∀ q ∈ levP L (most - 1), q.w ≤ 1125899906842624 ∧ q.s.length ≤ 524288) := lev_bound hLf hmax (most - 1) (by omega)
  have HLt : Hid (∀ p ∈ levP L (most - 1), ∀ s ∈ p.s, s < n) := by rw [← HN.out]; exact lev_lt hLf _
  have HTab : Hid (tabP n ((levP L (most - 1)).take (2 * N - 2)) [] = lensP C L most) := by
    have := tabP_lens C L most
    unfold chosen at this
    rw [HN.out, hLN] at this
    exact this
  generalize levP L (most - 1) = Q at *
  have HFl : Hid (F.length = Q.length) := hRF.length
  have HPF : Hid (PRow w3 gq F ∧ RepL w3 F Q ∧ Apart gl F) := ⟨hPF, hRF, hApF'⟩
  have hgq : gq ≠ gl := by
    intro e
    obtain ⟨rest, hh⟩ := hPF
    have := hrow3
    unfold RowN at this
    rw [e, this] at hh
    simp at hh
  have HRow3 : Hid (RowN w3 gl 3 .i64 (tabP n (Q.take 0) [])) := hrow3
  have HEn : Hid _ := hen
  obtain ⟨M, hM⟩ : ∃ M, 2 * N - 2 = M := ⟨_, rfl⟩
  have HM : Hid (2 * N - 2 = M) := hM
  have hM2 : M ≤ 1022 := by omega
  rw [hM] at hcq ⊢
  clear hM hPF hLf hRF hApF hApF' hrow3 hen HCh hLN
  go_wp2_with fail
  go_loopg [52] M (fun gh iv wr => ∃ j : Nat, j ≤ M ∧ gh = M - j ∧ iv = .int .i64 (j : Int) ∧ RowN wr gl 3 .i64 (tabP n (Q.take j) []) ∧ Fr (oneB gl) w3 wr)
  case atStart => exact ⟨0, by omega, rfl, rfl, HRow3.out, Fr.refl _ _⟩
  case round =>
    obtain ⟨j, hj, rfl, rfl, hrow, hF⟩ := hrel
    by_cases hlt : j < M
    · have hjQ : j < Q.length := by have := HEn.out; have := HM.out; omega
      have hPr : PRow wr gq F := HPF.out.1.keep hF hgq
      obtain ⟨a1, l1, q1, e1, c11, c12⟩ := hPr.two HPF.out.2.1.sl j (by rw [HFl.out]; exact hjQ)
      have hSy := (HPF.out.2.1.get j hjQ).2
      rw [e1] at hSy
      obtain ⟨b, cp, e2, hb, hcell⟩ := hSy.cellAt
      injection e2 with e2 e3 e4
      subst e2 e3 e4
      have hbgl : b ≠ gl := by
        intro e
        refine HPF.out.2.2 (at_ F j) ?_ ?_
        · rw [at_get F j (by rw [HFl.out]; exact hjQ)]; exact List.getElem_mem _
        · rw [e1, e]; rfl
      have hsl : Q[j].s.length ≤ 524288 := (HB.out _ (List.getElem_mem hjQ)).2
      have HLs : Hid (∀ t (ht : t < Q[j].s.length), Q[j].s[t] < n) := fun t ht => HLt.out _ (List.getElem_mem hjQ) _ (List.getElem_mem ht)
      have HTp : Hid (tabP n (Q.take j) Q[j].s = tabP n (Q.take (j + 1)) []) := tabP_pack n Q j hjQ
      have HOc : Hid (∀ i, occP i (Q.take j) ≤ 535822336) := fun i => occ_1022 i (Q.take j) (fun p hp => (HB.out p (List.mem_of_mem_take hp)).2) (Nat.le_trans (List.length_take_le _ _) (by omega))
      have hgq3 : gq < wr.heap.size := by obtain ⟨_, hh⟩ := hPr; exact lt_of_block hh
      generalize (at_ F j).1 = x1 at *
      generalize Q[j].s = ss at *
      have HCell : Hid _ := hcell
      have HRow : Hid (RowN wr gl 3 .i64 (tabP n (Q.take j) [])) := hrow
      obtain ⟨m, hm⟩ : ∃ m, ss.length = m := ⟨_, rfl⟩
      have HMs : Hid (ss.length = m) := hm
      rw [hm] at hsl c12
      clear hcell hrow e1 hSy hm
      go_wp2_with fail
      go_loopg [59] m (fun gh iv wx => ∃ t : Nat, t ≤ m ∧ gh = m - t ∧ iv = .int .i64 (t : Int) ∧ RowN wx gl 3 .i64 (tabP n (Q.take j) (ss.take t)) ∧ Fr (oneB gl) w3 wx)
      case atStart => exact ⟨0, by omega, rfl, rfl, by rw [List.take_zero]; exact HRow.out.keep ((Fr.refl noB wr).alloc _) id, hF.alloc _⟩
      case round =>
        rename_i wx gh iv
        clear hF
        obtain ⟨t, ht, rfl, rfl, hrow, hF⟩ := hrel
        by_cases htl : t < m
        · have hts : t < ss.length := by rw [HMs.out]; exact htl
          have hc := (hF.cell (a := ⟨b, t, none⟩) hb hbgl).trans (HCell.out t hts)
          have hsn := HLs.out t hts
          have HInc : Hid _ := tabP_inc n (Q.take j) ss t hts
          have hcl := hrow.cell ss[t] (by simpa using hsn)
          rw [tabP_get] at hcl
          have hfree := freeOf (o := ss[t]) (w := wr) (b := gl) hrow
          have hoc := HOc.out ss[t]
          have hcn : (ss.take t).count ss[t] ≤ 524288 := Nat.le_trans List.count_le_length (Nat.le_trans (List.length_take_le _ _) (by omega))
          obtain ⟨y, hy⟩ : ∃ y, occP ss[t] (Q.take j) + (ss.take t).count ss[t] = y := ⟨_, rfl⟩
          have hyb : y ≤ 1100000000 := by omega
          rw [hy] at hcl HInc
          obtain ⟨z, hz⟩ : ∃ z, ss[t] = z := ⟨_, rfl⟩
          rw [hz] at hcl HInc hc hsn hfree
          have HRw : Hid (RowN wr gl 3 .i64 (tabP n (Q.take j) (ss.take t))) := hrow
          have hz1 : (0 : Int) ≤ (z : Int) := by omega
          have hz2' : (z : Int) < (n : Int) := by omega
          clear hy hz hoc hcn hrow hts
          go_wp2_with fail
          have hset := HRw.out.set z (y + 1)
          rw [HInc.out] at hset
          go_roundg (m - (t + 1))
          case measure => omega
          case rel => exact ⟨t + 1, by omega, rfl, by go_num, by have e : (((y + 1 : Nat)) : Int) = (y : Int) + 1 := by omega
                                                                 rw [e] at hset; exact hset, hF.setOne _ _⟩
        · obtain rfl : t = m := by omega
          have HRw : Hid (RowN wr gl 3 .i64 (tabP n (Q.take (j + 1)) [])) := by
            have := hrow
            have e : ss.take t = ss := List.take_of_length_le (by rw [HMs.out]; exact Nat.le_refl _)
            rw [e, HTp.out] at this
            exact this
          clear hrow
          go_wp2_with fail
          go_roundg (M - (j + 1))
          case measure => omega
          case rel => exact ⟨j + 1, by omega, rfl, by go_num, HRw.out, hF⟩
    · obtain rfl : j = M := by omega
      have HRw : Hid (RowN wr gl 3 .i64 (lensP C L most)) := by
        have := hrow
        rw [← HM.out, HTab.out] at this
        exact this
      clear hrow
      go_wp2_with fail
      go_ret2
      exact ⟨gl, L, rfl, hw1, HLf.out, HRw.out, hFw3.then hF (fun i hi => Or.inr (by have : i = gl := hi; omega))⟩
#print axioms lengths_many
end Go.Proofs.Ytcefochgpijfbaa
