/- The document's code: begins; its symbol. -/
import Derived.Test.YthgnhcdodfildaaDoorK31
import Derived.Test.YthgnhcdodfildaaDoorRRdM
namespace Go.Proofs.YthgnhcdodfildaaDoor
open Go.RowKit Go.Shelf
attribute [local go_sem ↓] Go.wp_at_zero Go.wp_at_succ

theorem longM_iff {M : List Nat} (h15 : ∀ x ∈ M, x ≤ 15) (n : Nat) : (¬ longM M ≤ n) ↔ ∃ i, i < M.length ∧ n < M.getD i 0 := by
  constructor
  · intro h
    obtain ⟨i, hi, e⟩ := long_ex (M := M) (by omega)
    exact ⟨i, hi, by rw [getD_get M i hi]; omega⟩
  · rintro ⟨i, hi, h⟩
    rw [getD_get M i hi] at h
    have := long_ge h15 i hi
    omega
set_option maxRecDepth 100000 in
set_option maxHeartbeats 800000 in
theorem begins_any (v : Value) (M : List Nat) (n : Nat) (w : World) (hv : Ns .i64 w v (up M)) (h15 : ∀ x ∈ M, x ≤ 15) (hms : M.length ≤ 65536) :
    Calls Tryd.prog 82 #[.agg #[v], .int .i64 (n : Int)] w fun e w' => e = .returned (.bool (decide (¬ longM M ≤ n))) ∧ Fr noB w w' := by
  have hF0 : Fr noB w (w.alloc (.cells #[v] 86 (0, 0))) := (Fr.refl noB w).alloc _
  have hv0 := hv.keep hF0
  have c0 : (w.alloc (.cells #[v] 86 (0, 0))).cell? ⟨w.heap.size, 0, none⟩ = some v := cellOf (heap_alloc_new w _) rfl
  obtain ⟨w0, hw0⟩ : ∃ w0, w.alloc (.cells #[v] 86 (0, 0)) = w0 := ⟨_, rfl⟩
  rw [hw0] at hF0 hv0 c0
  go_enter Tryd.func82, Tryd.ntmps82
  obtain ⟨ao, cap, rfl, a1, a2, a4, a3⟩ := hv0
  have hat : NsAt .i64 w0 ao (up M) := a3
  simp only [length_up] at a1 c0 hw0 ⊢
  have HF0 : Hid (Fr noB w w0) := hF0
  have HW0 : Hid _ := hw0
  clear a3 hv hF0 hw0
  go_wp2_with fail
  go_loopg [5] M.length (fun gh iv wr => ∃ j : Nat, j ≤ M.length ∧ gh = M.length - j ∧ iv = .int .i64 (j : Int) ∧ (∀ i, i < j → M.getD i 0 ≤ n) ∧ ∃ m, wr = w0.drewN m)
  case atStart => exact ⟨0, Nat.zero_le _, rfl, rfl, fun i hi => absurd hi (by omega), 0, HW0.out⟩
  case round =>
    obtain ⟨j, hj, rfl, rfl, hno, m, rfl⟩ := hrel
    have d0 : (w0.drewN m).cell? ⟨w.heap.size, 0, none⟩ = some (.slice ao M.length cap) := c0
    by_cases hlt : j < M.length
    · obtain ⟨b, off, rfl, hb, hcell⟩ := hat.get j (by simpa using hlt)
      rw [up_get _ _ hlt] at hcell
      have hcell' : (w0.drewN m).cell? _ = _ := hcell
      have hx15 := h15 M[j] (List.getElem_mem hlt)
      have HG : Hid (M.getD j 0 = M[j]) := getD_get M j hlt
      have HJ : Hid (j < M.length) := hlt
      have HN : Hid _ := hno
      have hjI : (j : Int) < (M.length : Int) := by omega
      clear hno hcell
      generalize M[j] = x at *
      by_cases hhit : n < x
      · have HX : Hid (decide (¬ longM M ≤ n) = true) := by
          show _ = _
          rw [decide_eq_true_iff, longM_iff h15]
          exact ⟨j, HJ.out, by rw [HG.out]; exact hhit⟩
        have hI : (n : Int) < (x : Int) := by omega
        go_wp2_with fail
        go_ret
        rw [HX.out]
        exact ⟨rfl, HF0.out.drewN _⟩
      · have HNO : Hid (¬ n < x) := hhit
        have hI : ¬ (n : Int) < (x : Int) := by omega
        clear hhit
        go_wp2_with fail
        go_roundg (M.length - (j + 1))
        case measure => omega
        case rel =>
          refine ⟨j + 1, by omega, rfl, by go_num, fun i hi => ?_, _, rfl⟩
          by_cases e : i = j
          · subst e; rw [HG.out]; have := HNO.out; omega
          · exact HN.out i (by omega)
    · obtain rfl : j = M.length := by omega
      have HX : Hid (decide (¬ longM M ≤ n) = false) := by
        show _ = _
        rw [decide_eq_false_iff_not, longM_iff h15]
        rintro ⟨i, hi, h⟩
        have := hno i hi
        omega
      clear hno
      go_wp2_with fail
      go_ret
      rw [HX.out]
      exact ⟨rfl, HF0.out.drewN _⟩
#print axioms begins_any
end Go.Proofs.YthgnhcdodfildaaDoor
/- The document's symbol: its contract. -/
namespace Go.Proofs.YthgnhcdodfildaaDoor
open Go.RowKit Go.Shelf
attribute [local go_sem ↓] Go.wp_at_zero Go.wp_at_succ

theorem symA_found {M B : List Nat} {p i q : Nat} (hp : ¬ 8 * B.length ≤ p) (h : rdA M B p = (i, 0, q)) : symA M B p = (i, 0, q) := by
  unfold symA; rw [if_neg hp, h]; simp
theorem symA_code {M B : List Nat} {p q : Nat} (hp : ¬ 8 * B.length ≤ p) (h : rdA M B p = (0, 22, q)) : symA M B p = (0, 31, p) := by
  unfold symA; rw [if_neg hp, h]; simp
theorem symA_short {M B : List Nat} {p q : Nat} (h : rdA M B p = (0, 11, q)) : symA M B p = (0, 33, p) := by
  unfold symA; rw [h]; split <;> simp
theorem symA_none {M B : List Nat} {p : Nat} (hp : 8 * B.length ≤ p) : symA M B p = (0, 33, p) := by
  unfold symA; rw [if_pos hp]
/-- How many of the first j symbols have a code of k bits. -/
def cntT (M : List Nat) (k j : Nat) : Nat := (M.take j).count k
theorem cntT_all (M : List Nat) (k : Nat) (h : 0 < k) : cntT M k M.length = cntN M k := by
  unfold cntT cntN
  rw [List.take_length, if_neg (by omega)]
theorem cntT_step (M : List Nat) (k j : Nat) (h : j < M.length) : cntT M k (j + 1) = cntT M k j + (if M[j] = k then 1 else 0) := by
  unfold cntT
  rw [List.take_succ_eq_append_getElem h, List.count_append]
  congr 1
  rw [List.count_singleton]
  simp
theorem cntT_le (M : List Nat) (k j : Nat) (h : M.length ≤ 65536) : cntT M k j ≤ 65536 := by
  unfold cntT
  have := List.count_le_length (a := k) (l := M.take j)
  rw [List.length_take] at this
  omega
theorem hit_iff (M : List Nat) (k c j : Nat) (hk : 0 < k) (hj : j < M.length) (e : M[j] = k) : hitI M k c j ↔ firstN (cntN M) k + cntT M k j = c := by
  unfold hitI codeN
  rw [getD_get M j hj, e, if_neg (by omega)]
  have : cntN (M.take j) k = cntT M k j := by unfold cntN cntT; rw [if_neg (by omega)]
  rw [this]
  constructor
  · rintro ⟨_, _, h⟩; exact h
  · intro h; exact ⟨rfl, hk, h⟩
set_option maxRecDepth 100000 in
set_option maxHeartbeats 6400000 in
theorem rsymbol_any (mo : Int) (ov bv : Value) (ib : Nat) (v cv : Value) (B M : List Nat) (p : Nat) (w : World) (h : SfAt mo ov bv 0 w ib v p) (hv : ∀ w', Fr (oneB ib) w w' → Bs w' v B) (hc : ∀ w', Fr (oneB ib) w w' → Ns .i64 w' cv (up M)) (hM : Code M) (hB : ∀ x ∈ B, x < 256) (hp : p ≤ 8 * B.length) (hl : B.length ≤ 140737488355328) :
    Calls Tryd.prog 61 #[.pointer (some ⟨ib, 0, none⟩), .agg #[cv]] w fun e w' => e = .returned (.int .i64 (((symA M B p).1 : Nat) : Int)) ∧ (∃ p', p' ≤ 8 * B.length ∧ ((symA M B p).2.1 = 0 → p' = (symA M B p).2.2) ∧ SfAt mo ov bv (symA M B p).2.1 w' ib v p') ∧ Fr (oneB ib) w w' := by
  have hms := hM.short
  have h15 := hM.le
  obtain ⟨ao, cap, hcv, a1, a2, a4, -⟩ := hc w (Fr.refl _ w)
  have hat : ∀ w', Fr (oneB ib) w w' → NsAt .i64 w' ao (up M) := fun w' hf => by
    obtain ⟨ao', cap', e, _, _, _, h3⟩ := hc w' hf
    rw [hcv] at e
    injection e with e1 e2 e3
    rw [e1]
    exact h3
  subst hcv
  rw [length_up] at a1
  have HBI := fun (k : Nat) (w' : World) (hf : Fr (oneB ib) w w') (hs : SfAt mo ov bv 0 w' ib v (p + k)) (hk : p + k ≤ 8 * B.length) => rbits_any mo ov bv 0 ib v B (p + k) 1 w' hs (hv w' hf) hB hk hl (by decide)
  have HBE := fun (n : Nat) (w' : World) (hf : Fr (oneB ib) w w') => begins_any (.slice ao (up M).length cap) M n w' (hc w' hf) h15 (by omega)
  rw [length_up] at *
  have hib : ib < w.heap.size := lt_of_block h
  have hF0 : Fr (oneB ib) w (w.alloc (.cells #[.slice ao M.length cap] 86 (0, 0))) := (Fr.refl _ w).alloc _
  obtain ⟨w0, hw0⟩ : ∃ w0, w.alloc (.cells #[.slice ao M.length cap] 86 (0, 0)) = w0 := ⟨_, rfl⟩
  have hcc : w0.heap[w.heap.size]? = some (.cells #[.slice ao M.length cap] 86 (0, 0)) := by rw [← hw0]; exact heap_alloc_new w _
  have hS0 : SfAt mo ov bv 0 w0 ib v p := by rw [← hw0]; exact ((Fr.refl noB w).alloc _).obj h id
  rw [hw0] at hF0
  obtain ⟨S, hS⟩ : ∃ S, symA M B p = S := ⟨_, rfl⟩
  rw [hS]
  have HS : Hid (symA M B p = S) := hS
  clear hS
  go_enter Tryd.func61, Tryd.ntmps61
  go_wp2_with fail
  have HBI' : Hid _ := HBI
  have HBE' : Hid _ := HBE
  have HAT : Hid (∀ w', Fr (oneB ib) w w' → NsAt .i64 w' ao (up M)) := hat
  have HCD : Hid (Code M) := hM
  have HCC : Hid (w0.heap[w.heap.size]? = some (.cells #[.slice ao M.length cap] 86 (0, 0))) := hcc
  have HF0 : Hid (Fr (oneB ib) w w0) := hF0
  have HS0 : Hid (SfAt mo ov bv 0 w0 ib v p) := hS0
  clear HBI HBE hat hv hc h hcc hF0 hS0 hw0 hM
  go_loopg [5, 6, 7] 16 (fun gh vv ff nn wr => ∃ k : Nat, k ≤ 15 ∧ gh = 16 - k ∧ nn = .int .i64 ((k : Int) + 1) ∧ wr.heap[w.heap.size]? = some (.cells #[.slice ao M.length cap] 86 (0, 0)) ∧ Fr (oneB ib) w wr ∧
    ((vv = .int .i64 ((msb B p k : Nat) : Int) ∧ ff = .int .i64 ((firstN (cntN M) (k + 1) : Nat) : Int) ∧ p + k ≤ 8 * B.length ∧ SfAt mo ov bv 0 wr ib v (p + k) ∧ firstN (cntN M) k + cntN M k ≤ msb B p k ∧ hitB M k (msb B p k) = false ∧ rdA M B p = rdG M B p k ∧ (k = 0 ∨ ¬ longM M ≤ k)) ∨
     (symA M B p = (0, 33, p) ∧ ∃ p', p' ≤ 8 * B.length ∧ SfAt mo ov bv 33 wr ib v p')))
  case atStart => exact ⟨0, by omega, rfl, rfl, HCC.out, HF0.out, Or.inl ⟨rfl, by simp [firstN, cntN], by omega, HS0.out, by simp [firstN, cntN], by simp [hitB, firstN, cntN], (rdG_zero M B p).symm, Or.inl rfl⟩⟩
  case round =>
    obtain ⟨k, hk, rfl, rfl, hcc, hF, hor⟩ := hrel
    have d0 := cellOf (o := 0) hcc rfl
    rcases hor with ⟨rfl, rfl, hpk, hSk, hge, hmiss, hrd, hlong⟩ | ⟨hsh, p', hp', hSe⟩
    · have hlo := longM_le M
      have hk15 : k < 15 := by omega
      have hkI : (k : Int) + 1 ≤ 15 := by omega
      have d4 := cellOf (o := 4) hSk rfl
      have hmlt := msb_lt B p k
      have hp15 := pow_le_15 k hk
      have hf15 : firstN (cntN M) k + cntN M k ≤ 32768 := by omega
      have hfs : firstN (cntN M) (k + 1) = 2 * (firstN (cntN M) k + cntN M k) := rfl
      have C1 := HBI'.out k wr hF hSk hpk
      have HX : Hid (firstN (cntN M) k + cntN M k ≤ msb B p k ∧ hitB M k (msb B p k) = false ∧ rdA M B p = rdG M B p k ∧ (k = 0 ∨ ¬ longM M ≤ k)) := ⟨hge, hmiss, hrd, hlong⟩
      obtain ⟨m, hm⟩ : ∃ m, msb B p k = m := ⟨_, rfl⟩
      obtain ⟨f, hf⟩ : ∃ f, firstN (cntN M) (k + 1) = f := ⟨_, rfl⟩
      rw [hm] at hmlt ⊢
      rw [hf] at hfs ⊢
      have hm32 : m < 32768 := by omega
      have hf32 : f ≤ 65536 := by omega
      have HM : Hid (msb B p k = m ∧ firstN (cntN M) (k + 1) = f) := ⟨hm, hf⟩
      clear hge hmiss hrd hlong hSk hm hf hfs hmlt hp15 hf15
      by_cases hend : 8 * B.length < p + k + 1
      · have hb : rbA B 0 (p + k) 1 = (0, 33, p + k) := by unfold rbA bitA; rw [if_pos rfl, if_neg (by omega)]
        rw [hb] at C1
        simp only at C1
        have HSY : Hid (symA M B p = (0, 33, p)) := by
          obtain ⟨_, x2, x3, x4⟩ := HX.out
          rcases x4 with rfl | x4
          · exact symA_none (by omega)
          · exact symA_short (q := p + k) (by rw [x3]; exact rdG_ends M B p k x2 hk x4 (by omega))
        have HS33 : Hid (S = (0, 33, p)) := by show _ = _; rw [← HS.out, HSY.out]
        clear hb HX
        go_wp2_with fail
        refine C1.mono ?_
        rintro e w1 ⟨rfl, hS1, hF1⟩
        have hFw1 := hF.trans hF1
        have e4 := cellOf (o := 4) hS1 rfl
        have hcc1 := hF1.obj hcc (fun e => by have e' : w.heap.size = ib := e; omega)
        have e0 := cellOf (o := 0) hcc1 rfl
        have CB := HBE'.out (k + 1) w1 hFw1
        rw [show ((k + 1 : Nat) : Int) = (k : Int) + 1 by omega] at CB
        have C9 := fun w' (hf : Fr noB w1 w') => fail_any mo ov bv 33 31 ib v (p + k) w' (hf.obj hS1 id)
        rw [show erA 33 31 = 33 from rfl] at C9
        have HC9 : Hid _ := C9
        have HS1 : Hid (SfAt mo ov bv 33 w1 ib v (p + k)) := hS1
        clear C1 hS1 C9 d0 d4 hcc
        go_wp2_with fail
        go_loopg [6, 9] 0 (fun gh ff iv wr' => gh = 0 ∧ wr' = w1 ∧ ff = .int .i64 (f : Int) ∧ iv = .int .i64 0)
        case atStart => exact ⟨rfl, rfl, rfl, rfl⟩
        case round =>
          obtain ⟨rfl, hw, rfl, rfl⟩ := hrel
          have hw' := hw.symm
          subst hw'
          go_wp2_with fail
          refine CB.mono ?_
          rintro e w2 ⟨rfl, hF2⟩
          have C9 := HC9.out w2 hF2
          have hcc2 := hF2.obj hcc1 id
          have hS2 : SfAt mo ov bv 33 w2 ib v (p + k) := hF2.obj HS1.out id
          have HS2 : Hid (SfAt mo ov bv 33 w2 ib v (p + k)) := hS2
          have hFw2 : Fr (oneB ib) w w2 := hFw1.trans hF2.weak
          clear CB hS2
          generalize decide (¬ longM M ≤ k + 1) = b at *
          cases b
          · go_wp2_with (go_at_call 27; refine C9.mono ?_; rintro e w9 ⟨rfl, hS9, hF9⟩)
            go_ret
            rw [HS33.out]
            exact ⟨rfl, ⟨p + k, hpk, fun h => by simp at h, hS9⟩, hFw2.trans hF9⟩
          · go_wp2_with fail
            go_roundg (16 - (k + 1))
            case measure => omega
            case rel => exact ⟨k + 1, by omega, rfl, by go_num, hcc2, hFw2, Or.inr ⟨HSY.out, p + k, hpk, HS2.out⟩⟩
      · have hb : rbA B 0 (p + k) 1 = (numAt B (p + k) 1, 0, p + k + 1) := by unfold rbA bitA; rw [if_pos rfl, if_pos (by omega)]
        rw [hb] at C1
        simp only at C1
        rw [numAt_one] at C1
        have hq1 := bitQ_le B (p + k)
        obtain ⟨c, hc⟩ : ∃ c, msb B p (k + 1) = c := ⟨_, rfl⟩
        have hcv : c = 2 * m + bitQ B (p + k) := by rw [← hc, ← HM.out.1]; rfl
        have hclt := msb_lt B p (k + 1)
        have hp16 := pow_le_15 (k + 1) (by omega)
        rw [hc] at hclt
        have hc32 : c < 32768 := by omega
        have HCV : Hid (msb B p (k + 1) = c) := hc
        have hcI : 2 * (m : Int) + ((bitQ B (p + k) : Nat) : Int) = (c : Int) := by omega
        generalize bitQ B (p + k) = bq at *
        have hfge : f ≤ c := by
          rw [← HM.out.2, ← hc]
          exact msb_first M B p k HX.out.1
        clear hb hc hclt hp16 hcv
        go_wp2_with fail
        refine C1.mono ?_
        rintro e w1 ⟨rfl, hS1, hF1⟩
        have hFw1 := hF.trans hF1
        have e4 := cellOf (o := 4) hS1 rfl
        have hcc1 := hF1.obj hcc (fun e => by have e' : w.heap.size = ib := e; omega)
        have e0 := cellOf (o := 0) hcc1 rfl
        have CB := HBE'.out (k + 1) w1 hFw1
        rw [show ((k + 1 : Nat) : Int) = (k : Int) + 1 by omega] at CB
        have C9 := fun w' (hf : Fr noB w1 w') => fail_any mo ov bv 0 31 ib v (p + k + 1) w' (hf.obj hS1 id)
        rw [show erA 0 31 = 31 from rfl] at C9
        have HC9 : Hid _ := C9
        have HS1 : Hid (SfAt mo ov bv 0 w1 ib v (p + k + 1)) := hS1
        have hat1 := HAT.out w1 hFw1
        have hk1 : 0 < k + 1 := by omega
        have HPK : Hid (¬ 8 * B.length < p + k + 1) := hend
        clear C1 hS1 C9 d0 d4 hcc
        go_wp2_with fail
        go_loopg [6, 9] M.length (fun gh ff iv wr' => ∃ j : Nat, j ≤ M.length ∧ gh = M.length - j ∧ ff = .int .i64 ((f : Int) + ((cntT M (k + 1) j : Nat) : Int)) ∧ iv = .int .i64 (j : Int) ∧ (∀ i, i < j → ¬ hitI M (k + 1) c i) ∧ wr' = w1)
        case atStart => exact ⟨0, Nat.zero_le _, rfl, by simp [cntT], rfl, fun i hi => absurd hi (by omega), rfl⟩
        case round =>
          obtain ⟨j, hj, rfl, rfl, rfl, hno, hw⟩ := hrel
          have hw' := hw.symm
          subst hw'
          have ht := cntT_le M (k + 1) j (by omega)
          have HNO : Hid (∀ i, i < j → ¬ hitI M (k + 1) c i) := hno
          clear hno
          by_cases hlt : j < M.length
          · obtain ⟨b, off, rfl, hb, hcell⟩ := hat1.get j (by simpa using hlt)
            rw [up_get _ _ hlt] at hcell
            have hx15 := h15 M[j] (List.getElem_mem hlt)
            have hst := cntT_step M (k + 1) j hlt
            have hhi := hit_iff M (k + 1) c j hk1 hlt
            have hlg := long_ge h15 j hlt
            have hgd := getD_get M j hlt
            have HJ : Hid (j < M.length) := hlt
            have hjI : (j : Int) < (M.length : Int) := by omega
            obtain ⟨t, htt⟩ : ∃ t, cntT M (k + 1) j = t := ⟨_, rfl⟩
            rw [htt] at ht hst hhi ⊢
            generalize M[j] = x at *
            have HT : Hid (cntT M (k + 1) (j + 1) = t + (if x = k + 1 then 1 else 0)) := hst
            have HHI : Hid (x = k + 1 → (hitI M (k + 1) c j ↔ firstN (cntN M) (k + 1) + t = c)) := hhi
            have HLG : Hid (x ≤ longM M) := hlg
            have HGD : Hid (M.getD j 0 = x) := hgd
            clear hst hhi hlg hgd htt
            by_cases hx : x = k + 1
            · have HX1 : Hid (x = k + 1) := hx
              have hxI : (x : Int) = (k : Int) + 1 := by omega
              rw [hxI] at hcell
              by_cases hhit : f + t = c
              · have HS3 : Hid (S = (j, 0, p + k + 1)) := by
                  show _ = _
                  rw [← HS.out]
                  obtain ⟨_, x2, x3, _⟩ := HX.out
                  have g1 := HLG.out
                  have g2 := HPK.out
                  refine symA_found (by omega) ?_
                  rw [x3, rdG_next M B p k x2 hk (by omega) (by omega)]
                  exact rdG_found h15 B p (k + 1) j HJ.out (by rw [HCV.out]; exact (HHI.out hx).2 (by rw [HM.out.2]; exact hhit))
                have hI : (f : Int) + (t : Int) = (c : Int) := by omega
                clear hhit hx hxI
                go_wp2_with fail
                go_ret
                rw [HS3.out]
                have g2 := HPK.out
                exact ⟨rfl, ⟨p + k + 1, by omega, fun _ => rfl, HS1.out⟩, hFw1⟩
              · have HN2 : Hid (¬ hitI M (k + 1) c j) := fun h => hhit (by have := (HHI.out hx).1 h; rw [HM.out.2] at this; exact this)
                have e1 : (((f : Int) + (t : Int)) == (c : Int)) = false := by rw [beq_eq_false_iff_ne]; omega
                clear hhit hx hxI
                go_wp2_with fail
                go_roundg (M.length - (j + 1))
                case measure => omega
                case rel =>
                  refine ⟨j + 1, by omega, rfl, ?_, by go_num, fun i hi => ?_, rfl⟩
                  · rw [HT.out, if_pos HX1.out]; go_num
                  · by_cases e : i = j
                    · rw [e]; exact HN2.out
                    · exact HNO.out i (by omega)
            · have HX1 : Hid (¬ x = k + 1) := hx
              have HN2 : Hid (¬ hitI M (k + 1) c j) := fun h => HX1.out (by rw [← HGD.out]; exact h.1)
              have e1 : ((x : Int) == (k : Int) + 1) = false := by rw [beq_eq_false_iff_ne]; omega
              have e2 : ((x : Int) != (k : Int) + 1) = true := by rw [bne_iff_ne]; omega
              clear hx
              go_wp2_with fail
              go_roundg (M.length - (j + 1))
              case measure => omega
              case rel =>
                refine ⟨j + 1, by omega, rfl, ?_, by go_num, fun i hi => ?_, rfl⟩
                · rw [HT.out, if_neg HX1.out, Nat.add_zero]
                · by_cases e : i = j
                  · rw [e]; exact HN2.out
                  · exact HNO.out i (by omega)
          · obtain rfl : j = M.length := by omega
            have hno := rdG_none h15 B p (k + 1) (by rw [HM.out.2, HCV.out]; exact hfge) (by rw [HCV.out]; exact HNO.out)
            have hmg := miss_ge M (k + 1) _ hno
            have HNX : Hid (hitB M (k + 1) (msb B p (k + 1)) = false ∧ firstN (cntN M) (k + 1) + cntN M (k + 1) ≤ msb B p (k + 1)) := ⟨hno, hmg⟩
            have hca := cntT_all M (k + 1) hk1
            obtain ⟨t, htt⟩ : ∃ t, cntT M (k + 1) M.length = t := ⟨_, rfl⟩
            rw [htt] at ht hca ⊢
            have HCA : Hid (t = cntN M (k + 1)) := hca
            have HLO : Hid (longM M ≤ 15) := longM_le M
            clear hno hmg hca htt
            go_wp2_with fail
            refine CB.mono ?_
            rintro e w2 ⟨rfl, hF2⟩
            have C9 := HC9.out w2 hF2
            have hcc2 := hF2.obj hcc1 id
            have hS2 : SfAt mo ov bv 0 w2 ib v (p + k + 1) := hF2.obj HS1.out id
            have HS2 : Hid (SfAt mo ov bv 0 w2 ib v (p + k + 1)) := hS2
            have hFw2 : Fr (oneB ib) w w2 := hFw1.trans hF2.weak
            clear CB hS2
            by_cases hlm : longM M ≤ k + 1
            · rw [decide_eq_false (by simpa using hlm)]
              have HS3 : Hid (S = (0, 31, p)) := by
                show _ = _
                rw [← HS.out]
                obtain ⟨_, x2, x3, _⟩ := HX.out
                have g2 := HPK.out
                by_cases hl0 : longM M ≤ k
                · exact symA_code (q := p + k) (by omega) (by rw [x3]; exact rdG_over M B p k x2 hk hl0)
                · exact symA_code (q := p + (k + 1)) (by omega) (by rw [x3, rdG_next M B p k x2 hk hl0 (by omega)]; exact rdG_over M B p (k + 1) HNX.out.1 (by omega) hlm)
              clear hlm
              go_wp2_with (go_at_call 27; refine C9.mono ?_; rintro e w9 ⟨rfl, hS9, hF9⟩)
              go_ret
              rw [HS3.out]
              have g2 := HPK.out
              exact ⟨rfl, ⟨p + k + 1, by omega, fun h => by simp at h, hS9⟩, hFw2.trans hF9⟩
            · rw [decide_eq_true hlm]
              have HLM : Hid (¬ longM M ≤ k + 1) := hlm
              clear hlm
              go_wp2_with fail
              go_roundg (16 - (k + 1))
              case measure => omega
              case rel =>
                obtain ⟨_, x2, x3, _⟩ := HX.out
                have g2 := HPK.out
                have g3 := HLM.out
                refine ⟨k + 1, by omega, rfl, by go_num, hcc2, hFw2, Or.inl ⟨by rw [HCV.out], ?_, by omega, HS2.out, HNX.out.2, HNX.out.1, ?_, Or.inr g3⟩⟩
                · have : firstN (cntN M) (k + 1 + 1) = 2 * (f + t) := by rw [← HM.out.2, HCA.out]; rfl
                  rw [this]; go_num
                · rw [x3]; exact rdG_next M B p k x2 hk (by omega) (by omega)
    · have d4 := cellOf (o := 4) hSe rfl
      have C9 := fail_any mo ov bv 33 31 ib v p' wr hSe
      have hS33 : S = (0, 33, p) := by rw [← HS.out, hsh]
      have HS33 : Hid (S = (0, 33, p)) := hS33
      have he : erA 33 31 = 33 := rfl
      rw [he] at C9
      clear hSe hsh hS33 he
      by_cases hk15 : k < 15
      · have hkI : (k : Int) + 1 ≤ 15 := by omega
        go_wp2_with (go_at_call 27; refine C9.mono ?_; rintro e w9 ⟨rfl, hS9, hF9⟩)
        go_ret
        rw [HS33.out]
        exact ⟨rfl, ⟨p', hp', fun h => by simp at h, hS9⟩, hF.trans hF9⟩
      · have hkI : ¬ (k : Int) + 1 ≤ 15 := by omega
        go_wp2_with (go_at_call 27; refine C9.mono ?_; rintro e w9 ⟨rfl, hS9, hF9⟩)
        go_ret
        rw [HS33.out]
        exact ⟨rfl, ⟨p', hp', fun h => by simp at h, hS9⟩, hF.trans hF9⟩
#print axioms rsymbol_any
end Go.Proofs.YthgnhcdodfildaaDoor
/- The document's length and distance: their contracts. -/
namespace Go.Proofs.YthgnhcdodfildaaDoor
open Go.RowKit Go.Shelf
attribute [local go_sem ↓] Go.wp_at_zero Go.wp_at_succ

theorem bitA_zero (B : List Nat) (p : Nat) (hp : p ≤ 8 * B.length) : bitA B p 0 = (0, 0, p) := by
  unfold bitA; rw [if_pos (by omega)]; simp [numAt, ofB]
set_option maxRecDepth 100000 in
set_option maxHeartbeats 3200000 in
theorem rlength_any (mo : Int) (ov bv : Value) (ib : Nat) (v : Value) (B : List Nat) (p s : Nat) (w : World) (h : SfAt mo ov bv 0 w ib v p) (hv : Bs w v B) (hB : ∀ x ∈ B, x < 256) (hp : p ≤ 8 * B.length) (hl : B.length ≤ 140737488355328) (h1 : 257 ≤ s) (h2 : s ≤ 285) :
    Calls Tryd.prog 83 #[.pointer (some ⟨ib, 0, none⟩), .int .i64 (s : Int)] w fun e w' => e = .returned (.int .i64 ((lenF (s - 257) + (bitA B p (lenB (s - 257))).1 : Nat) : Int)) ∧ SfAt mo ov bv (bitA B p (lenB (s - 257))).2.1 w' ib v (bitA B p (lenB (s - 257))).2.2 ∧ Fr (oneB ib) w w' := by
  by_cases h3 : s < 265
  · have e1 : lenB (s - 257) = 0 := by unfold lenB; rw [if_neg (by omega), if_pos (by omega)]
    have e2 : lenF (s - 257) = s - 254 := by unfold lenF; rw [if_neg (by omega), if_pos (by omega)]; omega
    rw [e1, e2, bitA_zero B p hp]
    have HS : Hid (SfAt mo ov bv 0 w ib v p) := h
    have h3I : (s : Int) < 265 := by omega
    have h4I : ¬ (285 : Int) < (s : Int) := by omega
    have h5I : ((s : Int) == 285) = false := by rw [beq_eq_false_iff_ne]; omega
    clear h hv e1 e2
    go_enter Tryd.func83, Tryd.ntmps83
    go_wp2_with fail
    go_ret
    exact ⟨ret_int (by omega), HS.out, Fr.refl _ w⟩
  by_cases h4 : s = 285
  · subst h4
    have e1 : lenB (285 - 257) = 0 := rfl
    have e2 : lenF (285 - 257) = 258 := rfl
    rw [e1, e2, bitA_zero B p hp]
    have HS : Hid (SfAt mo ov bv 0 w ib v p) := h
    clear h hv e1 e2
    go_enter Tryd.func83, Tryd.ntmps83
    go_wp2_with fail
    go_ret
    exact ⟨rfl, HS.out, Fr.refl _ w⟩
  obtain ⟨L, hL⟩ : ∃ L, lenB (s - 257) = L := ⟨_, rfl⟩
  obtain ⟨G, hG⟩ : ∃ G, lenF (s - 257) = G := ⟨_, rfl⟩
  have hL5 : L ≤ 5 := by rw [← hL]; exact (lenB_le (s - 257) (by omega)).1
  have C := rbits_any mo ov bv 0 ib v B p L w.drew h hv hB hp hl (by omega)
  have hx := bitA_lt B p L
  have e3 : rbA B 0 p L = bitA B p L := rfl
  rw [e3] at C
  rw [hL, hG]
  obtain ⟨E, hE⟩ : ∃ E, bitA B p L = E := ⟨_, rfl⟩
  rw [hE] at C hx ⊢
  have hx2 : E.1 < 32 := Nat.lt_of_lt_of_le hx (Nat.pow_le_pow_right (n := 2) (by decide) hL5)
  obtain ⟨x, hxx⟩ : ∃ x, E.1 = x := ⟨_, rfl⟩
  rw [hxx] at C hx2 ⊢
  have hs : s = 265 ∨ s = 266 ∨ s = 267 ∨ s = 268 ∨ s = 269 ∨ s = 270 ∨ s = 271 ∨ s = 272 ∨ s = 273 ∨ s = 274 ∨ s = 275 ∨ s = 276 ∨ s = 277 ∨ s = 278 ∨ s = 279 ∨ s = 280 ∨ s = 281 ∨ s = 282 ∨ s = 283 ∨ s = 284 := by omega
  clear h hv h1 h2 h3 h4 hE hx e3 hL5 hxx
  rcases hs with rfl | rfl | rfl | rfl | rfl | rfl | rfl | rfl | rfl | rfl | rfl | rfl | rfl | rfl | rfl | rfl | rfl | rfl | rfl | rfl
  all_goals
    simp [lenB] at hL
    simp [lenF] at hG
    subst hL
    subst hG
    go_enter Tryd.func83, Tryd.ntmps83
    go_wp2_with fail
    go_region_held3 (fun _ => True) (exact trivial) (first | (go_at_call 39; refine C.mono ?_; rintro e w1 ⟨rfl, hS1, hF1⟩))
    all_goals
      go_wp2_with fail
      go_ret
      exact ⟨ret_int (by first | omega | (simp [IntKind.wrap_i64]; done) | (simp [IntKind.wrap_i64]; omega) | (simp only [IntKind.wrap_i64]; omega)), hS1, (Fr.refl _ w).drew.trans hF1⟩
#print axioms rlength_any
set_option maxRecDepth 100000 in
set_option maxHeartbeats 3200000 in
theorem rdistance_any (mo : Int) (ov bv : Value) (ib : Nat) (v : Value) (B : List Nat) (p s : Nat) (w : World) (h : SfAt mo ov bv 0 w ib v p) (hv : Bs w v B) (hB : ∀ x ∈ B, x < 256) (hp : p ≤ 8 * B.length) (hl : B.length ≤ 140737488355328) (h2 : s ≤ 29) :
    Calls Tryd.prog 84 #[.pointer (some ⟨ib, 0, none⟩), .int .i64 (s : Int)] w fun e w' => e = .returned (.int .i64 ((disF s + (bitA B p (disB s)).1 : Nat) : Int)) ∧ SfAt mo ov bv (bitA B p (disB s)).2.1 w' ib v (bitA B p (disB s)).2.2 ∧ Fr (oneB ib) w w' := by
  by_cases h3 : s < 4
  · have e1 : disB s = 0 := by unfold disB; rw [if_pos h3]
    have e2 : disF s = s + 1 := by unfold disF; rw [if_pos h3]; omega
    rw [e1, e2, bitA_zero B p hp]
    have HS : Hid (SfAt mo ov bv 0 w ib v p) := h
    have h3I : (s : Int) < 4 := by omega
    have h4I : ¬ (29 : Int) < (s : Int) := by omega
    clear h hv e1 e2
    go_enter Tryd.func84, Tryd.ntmps84
    go_wp2_with fail
    go_ret
    exact ⟨rfl, HS.out, Fr.refl _ w⟩
  obtain ⟨L, hL⟩ : ∃ L, disB s = L := ⟨_, rfl⟩
  obtain ⟨G, hG⟩ : ∃ G, disF s = G := ⟨_, rfl⟩
  have hL5 : L ≤ 13 := by rw [← hL]; exact (disF_le s h2).2.2
  have C := rbits_any mo ov bv 0 ib v B p L w.drew h hv hB hp hl (by omega)
  have hx := bitA_lt B p L
  have e3 : rbA B 0 p L = bitA B p L := rfl
  rw [e3] at C
  rw [hL, hG]
  obtain ⟨E, hE⟩ : ∃ E, bitA B p L = E := ⟨_, rfl⟩
  rw [hE] at C hx ⊢
  have hx2 : E.1 < 8192 := Nat.lt_of_lt_of_le hx (Nat.pow_le_pow_right (n := 2) (by decide) hL5)
  obtain ⟨x, hxx⟩ : ∃ x, E.1 = x := ⟨_, rfl⟩
  rw [hxx] at C hx2 ⊢
  have hs : s = 4 ∨ s = 5 ∨ s = 6 ∨ s = 7 ∨ s = 8 ∨ s = 9 ∨ s = 10 ∨ s = 11 ∨ s = 12 ∨ s = 13 ∨ s = 14 ∨ s = 15 ∨ s = 16 ∨ s = 17 ∨ s = 18 ∨ s = 19 ∨ s = 20 ∨ s = 21 ∨ s = 22 ∨ s = 23 ∨ s = 24 ∨ s = 25 ∨ s = 26 ∨ s = 27 ∨ s = 28 ∨ s = 29 := by omega
  clear h hv h2 h3 hE hx e3 hL5 hxx
  rcases hs with rfl | rfl | rfl | rfl | rfl | rfl | rfl | rfl | rfl | rfl | rfl | rfl | rfl | rfl | rfl | rfl | rfl | rfl | rfl | rfl | rfl | rfl | rfl | rfl | rfl | rfl
  all_goals
    simp [disB] at hL
    simp [disF] at hG
    subst hL
    subst hG
    go_enter Tryd.func84, Tryd.ntmps84
    go_wp2_with fail
    go_region_held3 (fun _ => True) (exact trivial) (first | (go_at_call 39; refine C.mono ?_; rintro e w1 ⟨rfl, hS1, hF1⟩))
    all_goals
      go_wp2_with fail
      go_ret
      exact ⟨ret_int (by first | omega | (simp [IntKind.wrap_i64]; done) | (simp [IntKind.wrap_i64]; omega) | (simp only [IntKind.wrap_i64]; omega)), hS1, (Fr.refl _ w).drew.trans hF1⟩
#print axioms rdistance_any
end Go.Proofs.YthgnhcdodfildaaDoor
