/- The document's stored block: its contract. -/
import Derived.Test.YthgnhcdodfildaaDoorK34
import Derived.Test.YthgnhcdodfildaaDoorSNm
import Derived.Test.YthgnhcdodfildaaDoorK26
import Derived.Deep.AppendLies
import Derived.Laws.Tables
namespace Go.Proofs.YthgnhcdodfildaaDoor
open Go.RowKit Go.Shelf
attribute [local go_sem ↓] Go.wp_at_zero Go.wp_at_succ

theorem Fr.toW {w w' : World} {ib : Nat} (h : Fr (oneB ib) w w') : Fr (wS w ib) w w' := h.mono fun _ _ hk => Or.inl hk
set_option maxRecDepth 100000 in
set_option maxHeartbeats 3200000 in
theorem rstored_any (ib : Nat) (v : Value) (B : List Nat) (p : Nat) (mo : Int) (ov : Value) (O : List Nat) (bv : Value) (w : World) (h : StIs w ib v B p mo ov O 0 bv) (hbv : ∀ k i, bv ≠ .int k i) (hB : ∀ x ∈ B, x < 256) (hp : p ≤ 8 * B.length) (hl : B.length ≤ 1073741824) (hm : 0 ≤ mo) (hm2 : mo ≤ 9223372036854775807) (hO : O.length ≤ 35184372088832) :
    Calls Tryd.prog 40 #[.pointer (some ⟨ib, 0, none⟩)] w fun e w' => e = .returned (.tuple #[]) ∧ (∃ ov' p', StIs w' ib v B p' mo ov' (stoA B p O mo).2.2 (stoA B p O mo).1 bv ∧ p' ≤ 8 * B.length ∧ ((stoA B p O mo).1 = 0 → p' = (stoA B p O mo).2.1)) ∧ Fr (wS w ib) w w' := by
  obtain ⟨f, hf⟩ : ∃ f, f = (p + 7) / 8 := ⟨_, rfl⟩
  obtain ⟨S, hS⟩ : ∃ S, stoA B p O mo = S := ⟨_, rfl⟩
  rw [hS]
  unfold stoA at hS
  rw [← hf] at hS
  have HA := refalign_any mo ov bv 0 ib v p w h.at_ (by omega)
  rw [← hf] at HA
  have hfB : 8 * f ≤ 8 * B.length := by omega
  have HI : Hid (StIs w ib v B p mo ov O 0 bv) := h
  have C1 := fun w' (hs : SfAt mo ov bv 0 w' ib v (8 * f)) (hb : Bs w' v B) => rbits_any mo ov bv 0 ib v B (8 * f) 16 w' hs hb hB hfB (by omega) (by decide)
  clear h
  by_cases c1 : 8 * B.length < 8 * f + 16
  · rw [if_pos (by omega)] at hS
    have HS : Hid (S = (33, p, O)) := hS.symm
    have e1 : rbA B 0 (8 * f) 16 = (0, 33, 8 * f) := by unfold rbA bitA; rw [if_pos rfl, if_neg (by omega)]
    rw [e1] at C1
    have C2 := fun w' (hs : SfAt mo ov bv 33 w' ib v (8 * f)) (hb : Bs w' v B) => rbits_any mo ov bv 33 ib v B (8 * f) 16 w' hs hb hB hfB (by omega) (by decide)
    have e2 : rbA B 33 (8 * f) 16 = (0, 33, 8 * f) := by unfold rbA; rw [if_neg (by decide)]
    rw [e2] at C2
    have HC1 : Hid _ := C1
    have HC2 : Hid _ := C2
    clear hS e1 e2 C1 C2
    go_enter Tryd.func40, Tryd.ntmps40
    go_wp2_with fail
    refine HA.mono ?_
    rintro e w1 ⟨rfl, hS1, hF1⟩
    have hI1 := HI.out.rdr hF1 hS1
    have C1 := HC1.out w1 hS1 hI1.bs
    have HI1 : Hid (StIs w1 ib v B (8 * f) mo ov O 0 bv) := hI1
    clear hS1 hI1 HA HC1
    go_wp2_with fail
    refine C1.mono ?_
    rintro e w2 ⟨rfl, hS2, hF2⟩
    have hI2 := HI1.out.rdr hF2 hS2
    have C2 := HC2.out w2 hS2 hI2.bs
    have HI2 : Hid (StIs w2 ib v B (8 * f) mo ov O 33 bv) := hI2
    clear hS2 hI2 C1 HC2
    go_wp2_with fail
    refine C2.mono ?_
    rintro e w3 ⟨rfl, hS3, hF3⟩
    have hI3 := HI2.out.rdr hF3 hS3
    have d4 := cellOf (o := 4) hS3 rfl
    have HI3 : Hid (StIs w3 ib v B (8 * f) mo ov O 33 bv) := hI3
    clear hS3 hI3 C2
    go_wp2_with fail
    refine bodyPost_ret (results_none rfl _ _ _) rfl ?_
    rw [HS.out]
    exact ⟨rfl, ⟨ov, 8 * f, HI3.out, hfB, fun h => by simp at h⟩, ((hF1.trans hF2).trans hF3).toW⟩
  have e1 : rbA B 0 (8 * f) 16 = (shA B f, 0, 8 * f + 16) := by unfold rbA bitA; rw [if_pos rfl, if_pos (by omega), numAt_sh B hB]
  rw [e1] at C1
  have C2 := fun w' (hs : SfAt mo ov bv 0 w' ib v (8 * f + 16)) (hb : Bs w' v B) => rbits_any mo ov bv 0 ib v B (8 * f + 16) 16 w' hs hb hB (by omega) (by omega) (by decide)
  have hn16 := numAt_lt B (8 * f) 16
  rw [numAt_sh B hB] at hn16
  have hm16 := numAt_lt B (8 * (f + 2)) 16
  rw [numAt_sh B hB] at hm16
  have HC1 : Hid _ := C1
  clear C1 e1
  by_cases c2 : B.length < f + 4
  · rw [if_pos c2] at hS
    have HS : Hid (S = (33, p, O)) := hS.symm
    have e2 : rbA B 0 (8 * f + 16) 16 = (0, 33, 8 * f + 16) := by unfold rbA bitA; rw [if_pos rfl, if_neg (by omega)]
    rw [e2] at C2
    have HC2 : Hid _ := C2
    clear hS e2 C2
    generalize shA B f = n at *
    go_enter Tryd.func40, Tryd.ntmps40
    go_wp2_with fail
    refine HA.mono ?_
    rintro e w1 ⟨rfl, hS1, hF1⟩
    have hI1 := HI.out.rdr hF1 hS1
    have C1 := HC1.out w1 hS1 hI1.bs
    have HI1 : Hid (StIs w1 ib v B (8 * f) mo ov O 0 bv) := hI1
    clear hS1 hI1 HA HC1
    go_wp2_with fail
    refine C1.mono ?_
    rintro e w2 ⟨rfl, hS2, hF2⟩
    have hI2 := HI1.out.rdr hF2 hS2
    have C2 := HC2.out w2 hS2 hI2.bs
    have HI2 : Hid (StIs w2 ib v B (8 * f + 16) mo ov O 0 bv) := hI2
    clear hS2 hI2 C1 HC2
    go_wp2_with fail
    refine C2.mono ?_
    rintro e w3 ⟨rfl, hS3, hF3⟩
    have hI3 := HI2.out.rdr hF3 hS3
    have d4 := cellOf (o := 4) hS3 rfl
    have HI3 : Hid (StIs w3 ib v B (8 * f + 16) mo ov O 33 bv) := hI3
    clear hS3 hI3 C2
    go_wp2_with fail
    refine bodyPost_ret (results_none rfl _ _ _) rfl ?_
    rw [HS.out]
    exact ⟨rfl, ⟨ov, 8 * f + 16, HI3.out, by omega, fun h => by simp at h⟩, ((hF1.trans hF2).trans hF3).toW⟩
  rw [if_neg c2] at hS
  have e2 : rbA B 0 (8 * f + 16) 16 = (shA B (f + 2), 0, 8 * f + 32) := by
    unfold rbA bitA
    rw [if_pos rfl, if_pos (by omega), show 8 * f + 16 = 8 * (f + 2) by omega, numAt_sh B hB, show 8 * (f + 2) + 16 = 8 * f + 32 by omega]
  rw [e2] at C2
  have HC2 : Hid _ := C2
  clear e2 C2
  obtain ⟨n, hn⟩ : ∃ n, shA B f = n := ⟨_, rfl⟩
  obtain ⟨m, hm'⟩ : ∃ m, shA B (f + 2) = m := ⟨_, rfl⟩
  rw [hn] at hS hn16 HC1
  rw [hm'] at hS hm16 HC2
  obtain ⟨q, hq⟩ : ∃ q, O.length = q := ⟨_, rfl⟩
  have HQ : Hid (O.length = q) := hq
  rw [hq] at hS hO
  have HS0 : Hid _ := hS
  clear hS hn hm' hq
  go_enter Tryd.func40, Tryd.ntmps40
  go_wp2_with fail
  refine HA.mono ?_
  rintro e w1 ⟨rfl, hS1, hF1⟩
  have hI1 := HI.out.rdr hF1 hS1
  have C1 := HC1.out w1 hS1 hI1.bs
  have HI1 : Hid (StIs w1 ib v B (8 * f) mo ov O 0 bv) := hI1
  clear hS1 hI1 HA HC1
  go_wp2_with fail
  refine C1.mono ?_
  rintro e w2 ⟨rfl, hS2, hF2⟩
  have hI2 := HI1.out.rdr hF2 hS2
  have C2 := HC2.out w2 hS2 hI2.bs
  have HI2 : Hid (StIs w2 ib v B (8 * f + 16) mo ov O 0 bv) := hI2
  clear hS2 hI2 C1 HC2
  go_wp2_with fail
  refine C2.mono ?_
  rintro e w3 ⟨rfl, hS3, hF3⟩
  have hI3 := HI2.out.rdr hF3 hS3
  have hF03 := (hF1.trans hF2).trans hF3
  obtain ⟨oo, oc, hov, -⟩ := own_slice hI3.own
  rw [HQ.out] at hov
  subst hov
  have d2 := cellOf (o := 2) hS3 rfl
  have d3 := cellOf (o := 3) hS3 rfl
  have d4 := cellOf (o := 4) hS3 rfl
  have HI3 : Hid (StIs w3 ib v B (8 * f + 32) mo (.slice oo q oc) O 0 bv) := hI3
  have hS3' := hS3
  have HSf : Hid (SfAt mo (.slice oo q oc) bv 0 w3 ib v (8 * f + 32)) := hS3
  clear hS3 hS3' hI3 C2
  by_cases c3 : n + m = 65535
  · have hS2 := HS0.out
    rw [if_neg (by omega)] at hS2
    have c3I : (n : Int) + (m : Int) = 65535 := by omega
    by_cases c4 : mo - (q : Int) < (n : Int)
    · rw [if_pos c4] at hS2
      have HS : Hid (S = (3, p, O)) := hS2.symm
      have HC := fun k => fail_any mo (.slice oo q oc) bv 0 3 ib v (8 * f + 32) (w3.drewN k) HSf.out
      rw [show erA 0 3 = 3 from rfl] at HC
      have HCC : Hid _ := HC
      clear hS2 HC
      go_wp2_with fail
      go_quiet (fail)
      go_wp2_with fail
      refine (HCC.out _).mono ?_
      rintro e w4 ⟨rfl, hS4, hF4⟩
      have hF4' := ((Fr.refl (oneB ib) w3).drewN nq).trans hF4
      have HI4 : Hid (StIs w4 ib v B (8 * f + 32) mo (.slice oo q oc) O 3 bv) := HI3.out.rdr hF4' hS4
      clear hS4
      go_wp2_with fail
      refine bodyPost_ret (results_none rfl _ _ _) rfl ?_
      rw [HS.out]
      exact ⟨rfl, ⟨_, 8 * f + 32, HI4.out, by omega, fun h => by simp at h⟩, (hF03.trans hF4').toW⟩
    · rw [if_neg c4] at hS2
      have c4I : ¬ mo - (q : Int) < (n : Int) := c4
      have HSS : Hid _ := hS2
      clear hS2
      go_wp2_with fail
      go_quiet (fail)
      have hSd : SfAt mo (.slice oo q oc) bv 0 (w3.drewN nq) ib v (8 * f + 32) := HSf.out
      have hFd := (Fr.refl (oneB ib) w3).drewN nq
      have hId := HI3.out.rdr hFd hSd
      by_cases c5 : B.length < f + 4 + n
      · have hS3 := HSS.out
        rw [if_pos c5] at hS3
        have HS : Hid (S = (33, p, O)) := hS3.symm
        have CB := refbytes_ends mo (.slice oo q oc) bv 0 ib v B (8 * f + 32) n (w3.drewN nq) hSd hId.bs (by omega) (by omega) (by omega)
        have CF := fail_any mo (.slice oo q oc) bv 0 33 ib v (8 * f + 32) (w3.drewN nq) hSd
        rw [show erA 0 33 = 33 from rfl] at CF
        clear hS3 hSd hId c5
        go_wp2_with fail
        refine CB.mono ?_
        rintro e w4 ⟨rfl, rfl⟩
        go_wp2_with fail
        refine CF.mono ?_
        rintro e w4 ⟨rfl, hS4, hF4⟩
        have hF4' := hFd.trans hF4
        have HI4 : Hid (StIs w4 ib v B (8 * f + 32) mo (.slice oo q oc) O 33 bv) := HI3.out.rdr hF4' hS4
        clear hS4
        go_wp2_with fail
        refine bodyPost_ret (results_none rfl _ _ _) rfl ?_
        rw [HS.out]
        exact ⟨rfl, ⟨_, 8 * f + 32, HI4.out, by omega, fun h => by simp at h⟩, (hF03.trans hF4').toW⟩
      · have hS3 := HSS.out
        rw [if_neg c5] at hS3
        obtain ⟨T, hT⟩ : ∃ T, (B.drop (f + 4)).take n = T := ⟨_, rfl⟩
        rw [hT] at hS3
        have HS : Hid (S = (0, 8 * (f + 4 + n), O ++ T)) := hS3.symm
        have hTl : T.length = n := by rw [← hT, List.length_take, List.length_drop]; omega
        have CB := refbytes_good mo (.slice oo q oc) bv 0 (by simp) hbv ib v B (8 * f + 32) n (f + 4) (w3.drewN nq) hSd hId.bs (by omega) (by omega) (by omega) (by omega)
        rw [hT] at CB
        have HTl : Hid (T.length = n) := hTl
        have HB5 : Hid (¬ B.length < f + 4 + n) := c5
        clear hS3 hSd hId c5 hT hTl
        go_wp2_with fail
        refine CB.mono ?_
        rintro e w4 ⟨u, rfl, hu4, hS4, hF4⟩
        have hF4' := hFd.trans hF4
        have hI4 := HI3.out.rdr hF4' hS4
        obtain ⟨so, sc, rfl, hle, hmx, hnil, hsrc, -⟩ := own_slice hu4
        have CS := say_good ib v B (8 * (f + 4 + n)) mo (.slice oo q oc) O T 0 bv so n sc w4 hI4 hm hm2 (by rw [HQ.out]; exact hO) (by omega) HTl.out hsrc hnil hle (by rw [HQ.out]; omega)
        clear hI4 hS4 CB hu4 hsrc hnil hle hmx
        go_wp2_with fail
        refine CS.mono ?_
        rintro e w5 ⟨rfl, ov5, hI5, hF5⟩
        have HI5 : Hid _ := hI5
        have g5 := HB5.out
        clear hI5 CS
        go_wp2_with fail
        go_end0
        rw [HS.out]
        exact ⟨rfl, ⟨ov5, 8 * (f + 4 + n), HI5.out, by omega, fun _ => rfl⟩, wtrans (hF03.trans hF4').toW hF5⟩
  · have hS2 := HS0.out
    rw [if_pos c3] at hS2
    have HS : Hid (S = (30, p, O)) := hS2.symm
    have C := fail_any mo (.slice oo q oc) bv 0 30 ib v (8 * f + 32) w3 HSf.out
    rw [show erA 0 30 = 30 from rfl] at C
    have e5 : (((n : Int) + (m : Int)) == 65535) = false := by rw [beq_eq_false_iff_ne]; omega
    have e6 : (((n : Int) + (m : Int)) != 65535) = true := by rw [bne_iff_ne]; omega
    clear hS2 c3
    go_wp2_with fail
    refine C.mono ?_
    rintro e w4 ⟨rfl, hS4, hF4⟩
    have hI4 := HI3.out.rdr hF4 hS4
    have k4 := cellOf (o := 4) hS4 rfl
    have HI4 : Hid (StIs w4 ib v B (8 * f + 32) mo (.slice oo q oc) O 30 bv) := hI4
    clear hS4 hI4 C
    go_wp2_with fail
    refine bodyPost_ret (results_none rfl _ _ _) rfl ?_
    rw [HS.out]
    exact ⟨rfl, ⟨_, 8 * f + 32, HI4.out, by omega, fun h => by simp at h⟩, (hF03.trans hF4).toW⟩
#print axioms rstored_any
end Go.Proofs.YthgnhcdodfildaaDoor
/- The document's match: its contract. -/
namespace Go.Proofs.YthgnhcdodfildaaDoor
open Go.RowKit Go.Shelf
attribute [local go_sem ↓] Go.wp_at_zero Go.wp_at_succ

theorem repN_succ (sd : List Nat) (d a : Nat) (h0 : 0 < d) (hd : d ≤ sd.length) : repN sd d (a + 1) = repN sd d a ++ [(repN sd d a).getD (sd.length + a - d) 0] := by
  have h := repN_at sd d a a hd (by omega)
  rw [List.getD_eq_getElem?_getD, show sd.length + a - d = sd.length - d + a by omega, h]
  unfold repN
  rw [List.range_succ, List.map_append, ← List.append_assoc]
  rfl
set_option maxRecDepth 100000 in
set_option maxHeartbeats 1600000 in
theorem rdistance_low (ib s : Nat) (w : World) (h2 : s < 4) :
    Calls Tryd.prog 84 #[.pointer (some ⟨ib, 0, none⟩), .int .i64 (s : Int)] w fun e w' => e = .returned (.int .i64 ((s : Int) + 1)) ∧ w' = w := by
  have i1 : (s : Int) < 4 := by omega
  have i2 : ¬ (29 : Int) < (s : Int) := by omega
  go_enter Tryd.func84, Tryd.ntmps84
  go_wp2_with fail
  go_ret
  exact ⟨rfl, rfl⟩
set_option maxRecDepth 100000 in
set_option maxHeartbeats 6400000 in
theorem rmatch_any (ib s p : Nat) (v cv ov bv : Value) (B M O : List Nat) (mo : Int) (w : World) (h : StIs w ib v B p mo ov O 0 bv) (hc : ∀ w', Fr (wS w ib) w w' → Ns .i64 w' cv (up M)) (hM : Code M) (hB : ∀ x ∈ B, x < 256) (hp : p ≤ 8 * B.length) (hl : B.length ≤ 1073741824) (hs : 257 ≤ s) (hs2 : s ≤ 65536) (hm : 0 ≤ mo) (hm2 : mo ≤ 9223372036854775807) (hO : O.length ≤ 35184372088832) :
    Calls Tryd.prog 62 #[.pointer (some ⟨ib, 0, none⟩), .int .i64 (s : Int), .agg #[cv]] w fun e w' => e = .returned (.tuple #[]) ∧ (∃ ov' p', StIs w' ib v B p' mo ov' (matA M B p O mo s).2.2 (matA M B p O mo s).1 bv ∧ p' ≤ 8 * B.length ∧ ((matA M B p O mo s).1 = 0 → p' = (matA M B p O mo s).2.1)) ∧ Fr (wS w ib) w w' := by
  obtain ⟨w0, hw0⟩ : ∃ w0, w0 = w.alloc (.cells #[cv] 86 (0, 0)) := ⟨_, rfl⟩
  have hF0 : Fr noB w w0 := by rw [hw0]; exact (Fr.refl _ _).alloc _
  have HCC : Hid (w0.heap[w.heap.size]? = some (.cells #[cv] 86 (0, 0))) := by rw [hw0]; exact heap_alloc_new _ _
  have hib : ib < w.heap.size := lt_of_block h.at_
  have HI : Hid (StIs w0 ib v B p mo ov O 0 bv) := h.rdr hF0.weak (hF0.obj h.at_ id)
  have HC : Hid (∀ w', Fr (wS w0 ib) w0 w' → Ns .i64 w' cv (up M)) := fun w' hf => hc w' (wtrans hF0.weak hf)
  have H0 : Hid (Fr noB w w0) := hF0
  have HW0 : Hid (w0 = w.alloc (.cells #[cv] 86 (0, 0))) := hw0
  clear hF0 hw0
  have HHB : Hid (∀ x ∈ B, x < 256) := hB
  by_cases hbig : 285 < s
  · have em : matA M B p O mo s = (31, p, O) := by unfold matA; rw [if_pos hbig]
    have EM : Hid _ := em
    have CL := rlength_bad mo ov bv ib v p s w0 HI.out.at_ hbig
    clear h hc em hM hB
    go_enter Tryd.func62, Tryd.ntmps62
    go_wp2_with fail
    rw [← HW0.out]
    refine CL.mono ?_
    rintro e w1 ⟨rfl, hS1, hF1⟩
    have HI1 : Hid (StIs w1 ib v B p mo ov O 31 bv) := HI.out.rdr hF1 hS1
    have HF1 : Hid (Fr (oneB ib) w0 w1) := hF1
    clear hS1 hF1 CL
    have k4 := cellOf (o := 4) HI1.out.at_ rfl
    go_wp2_with fail
    go_quiet (fail)
    go_wp2_with fail
    go_loopg [8] 0 (fun gh iv wr => gh = 0 ∧ wr = (w1.drewN nq) ∧ iv = .int .i64 0)
    case atStart => exact ⟨rfl, rfl, rfl⟩
    case round =>
      obtain ⟨rfl, rfl, rfl⟩ := hrel
      go_wp2_with fail
      go_end0
      rw [EM.out]
      exact ⟨rfl, ⟨_, p, HI1.out.rdr ((Fr.refl _ w1).drewN nq) HI1.out.at_, by omega, fun h => by simp at h⟩, wtrans H0.out.weak (HF1.out.drewN nq).toW⟩
  obtain ⟨k, hk⟩ : ∃ k, k = s - 257 := ⟨_, rfl⟩
  have hk28 : k ≤ 28 := by omega
  have hlf := lenF_le k hk28
  have hlb : lenB k ≤ 5 ∧ lenF k ≤ 258 := lenB_le k hk28
  obtain ⟨b1, hb1⟩ : ∃ b1, b1 = bitA B p (lenB k) := ⟨_, rfl⟩
  have hE1 := bitA_err B p (lenB k)
  have hP1 := bitA_le B p (lenB k) hp
  have hX1 := bitA_lt B p (lenB k)
  have CL := rlength_any mo ov bv ib v B p s w0 HI.out.at_ HI.out.bs hB hp (by omega) hs (by omega)
  rw [← hk, ← hb1] at CL
  rw [← hb1] at hE1 hP1 hX1
  obtain ⟨x1, e1, p1⟩ := b1
  have hlen : lenF k + x1 ≤ 258 := by
    have : x1 < 2 ^ lenB k := hX1
    omega
  have HK : Hid (k = s - 257) := hk
  have HB1 : Hid ((x1, e1, p1) = bitA B p (lenB k)) := hb1
  have hP1' : p1 ≤ 8 * B.length := hP1
  obtain ⟨L, hL⟩ : ∃ L, L = lenF k + x1 := ⟨_, rfl⟩
  simp only at CL
  rw [← hL] at CL hlen
  have HL : Hid (L = lenF k + x1) := hL
  have HCM : Hid (Code M) := hM
  clear hk hb1 h hc hX1 hP1 hlf hB hL hM
  go_enter Tryd.func62, Tryd.ntmps62
  go_wp2_with fail
  rw [← HW0.out]
  refine CL.mono ?_
  rintro e w1 ⟨rfl, hS1, hF1⟩
  have HI1 : Hid (StIs w1 ib v B p1 mo ov O e1 bv) := HI.out.rdr hF1 hS1
  have HF1 : Hid (Fr (oneB ib) w0 w1) := hF1
  clear hS1 hF1 CL
  rcases hE1 with hE1 | hE1
  case inr =>
    have hE1' : e1 = 33 := hE1
    subst hE1'
    have em : matA M B p O mo s = (33, p, O) := by
      unfold matA
      rw [if_neg hbig, ← HK.out, ← HB1.out, if_pos (by simp)]
    have EM : Hid _ := em
    clear em
    have k4 := cellOf (o := 4) HI1.out.at_ rfl
    go_wp2_with fail
    go_quiet (fail)
    go_wp2_with fail
    go_loopg [8] 0 (fun gh iv wr => gh = 0 ∧ wr = (w1.drewN nq) ∧ iv = .int .i64 0)
    case atStart => exact ⟨rfl, rfl, rfl⟩
    case round =>
      obtain ⟨rfl, rfl, rfl⟩ := hrel
      go_wp2_with fail
      go_end0
      rw [EM.out]
      exact ⟨rfl, ⟨_, p1, HI1.out.rdr ((Fr.refl _ w1).drewN nq) HI1.out.at_, by omega, fun h => by simp at h⟩, wtrans H0.out.weak (HF1.out.drewN nq).toW⟩
  have hE1' : e1 = 0 := hE1
  subst hE1'
  obtain ⟨b2, hb2⟩ : ∃ b2, b2 = symA M B p1 := ⟨_, rfl⟩
  have hE2 := symA_err M B p1
  have hX2 : (symA M B p1).2.1 ≠ 0 → (symA M B p1).1 = 0 := by
    unfold symA
    split
    · simp
    · split
      · simp
      · split <;> simp
  have HS := rsymbol_any mo ov bv ib v cv B M p1 w1 HI1.out.at_ (fun w' hf => (HI1.out.bs.fr hf (fun ao len cap b off e1 e2 e => by
      have e' : b = ib := e
      subst e2
      have := HI1.out.vlt b off len cap e1
      omega))) (fun w' hf => HC.out w' (HF1.out.trans hf).toW) HCM.out HHB.out hP1' (by omega)
  rw [← hb2] at hE2 HS hX2
  obtain ⟨x2, e2, p2⟩ := b2
  have HB2 : Hid ((x2, e2, p2) = symA M B p1) := hb2
  have hX2' : e2 ≠ 0 → x2 = 0 := hX2
  simp only at HS
  have k4 := cellOf (o := 4) HI1.out.at_ rfl
  have d0 := cellOf (o := 0) (HF1.out.obj HCC.out (fun e => by have e' : w.heap.size = ib := e; omega)) rfl
  clear hb2 hX2
  go_wp2_with fail
  refine HS.mono ?_
  rintro e w2 ⟨rfl, ⟨q2, hq2, hqe, hS2⟩, hF2⟩
  have HI2 : Hid (StIs w2 ib v B q2 mo ov O e2 bv) := HI1.out.rdr hF2 hS2
  have HF2 : Hid (Fr (oneB ib) w0 w2) := HF1.out.trans hF2
  clear HS hS2 hF2 k4
  by_cases hz2 : e2 = 0
  case neg =>
    have em : matA M B p O mo s = (e2, p, O) := by
      unfold matA
      rw [if_neg hbig, ← HK.out, ← HB1.out, if_neg (by simp), ← HB2.out, if_pos (by simpa using hz2)]
    have EM : Hid _ := em
    have HZ : Hid (e2 ≠ 0) := hz2
    have hz2' : ¬ (e2 : Int) = 0 := by omega
    obtain rfl := hX2' hz2
    have CD := rdistance_low ib 0 w2 (by omega)
    clear em hX2' hz2
    go_wp2_with fail
    refine CD.mono ?_
    rintro e w3 ⟨rfl, rfl⟩
    have k4 := cellOf (o := 4) HI2.out.at_ rfl
    go_wp2_with fail
    go_quiet (fail)
    go_wp2_with fail
    go_loopg [8] 0 (fun gh iv wr => gh = 0 ∧ wr = (w3.drewN nq) ∧ iv = .int .i64 0)
    case atStart => exact ⟨rfl, rfl, rfl⟩
    case round =>
      obtain ⟨rfl, rfl, rfl⟩ := hrel
      go_wp2_with fail
      go_end0
      rw [EM.out]
      exact ⟨rfl, ⟨_, q2, HI2.out.rdr ((Fr.refl _ w3).drewN nq) HI2.out.at_, by omega, fun h => absurd h HZ.out⟩, wtrans H0.out.weak (HF2.out.drewN nq).toW⟩
  subst hz2
  obtain rfl := hqe rfl
  by_cases hfar : 29 < x2
  · have em : matA M B p O mo s = (31, p, O) := by
      unfold matA
      rw [if_neg hbig, ← HK.out, ← HB1.out, if_neg (by simp), ← HB2.out, if_neg (by simp), if_pos hfar]
    have EM : Hid _ := em
    have CD := rdistance_bad mo ov bv ib v q2 x2 w2 HI2.out.at_ hfar
    clear em
    go_wp2_with fail
    refine CD.mono ?_
    rintro e w3 ⟨rfl, hS3, hF3⟩
    have HI3 : Hid (StIs w3 ib v B q2 mo ov O 31 bv) := HI2.out.rdr hF3 hS3
    have HF3 : Hid (Fr (oneB ib) w0 w3) := HF2.out.trans hF3
    clear hS3 hF3 CD
    have k4 := cellOf (o := 4) HI3.out.at_ rfl
    go_wp2_with fail
    go_quiet (fail)
    go_wp2_with fail
    go_loopg [8] 0 (fun gh iv wr => gh = 0 ∧ wr = (w3.drewN nq) ∧ iv = .int .i64 0)
    case atStart => exact ⟨rfl, rfl, rfl⟩
    case round =>
      obtain ⟨rfl, rfl, rfl⟩ := hrel
      go_wp2_with fail
      go_end0
      rw [EM.out]
      exact ⟨rfl, ⟨_, q2, HI3.out.rdr ((Fr.refl _ w3).drewN nq) HI3.out.at_, by omega, fun h => by simp at h⟩, wtrans H0.out.weak (HF3.out.drewN nq).toW⟩
  have hx29 : x2 ≤ 29 := by omega
  have hdf := disF_le x2 hx29
  obtain ⟨b3, hb3⟩ : ∃ b3, b3 = bitA B q2 (disB x2) := ⟨_, rfl⟩
  have hE3 := bitA_err B q2 (disB x2)
  have hX3 := bitA_lt B q2 (disB x2)
  have hP3 := bitA_le B q2 (disB x2) hq2
  have CD := rdistance_any mo ov bv ib v B q2 x2 w2 HI2.out.at_ HI2.out.bs HHB.out hq2 (by omega) hx29
  rw [← hb3] at hE3 hX3 hP3 CD
  obtain ⟨x3, e3, p3⟩ := b3
  have hdis : disF x2 + x3 ≤ 32768 ∧ 1 ≤ disF x2 + x3 := by
    have : x3 < 2 ^ disB x2 := hX3
    omega
  have HB3 : Hid ((x3, e3, p3) = bitA B q2 (disB x2)) := hb3
  have hP3' : p3 ≤ 8 * B.length := hP3
  obtain ⟨D, hD⟩ : ∃ D, D = disF x2 + x3 := ⟨_, rfl⟩
  simp only at CD
  rw [← hD] at CD hdis
  have HD : Hid (D = disF x2 + x3) := hD
  clear hb3 hX3 hdf hP3 hD
  go_wp2_with fail
  refine CD.mono ?_
  rintro e w3 ⟨rfl, hS3, hF3⟩
  have HI3 : Hid (StIs w3 ib v B p3 mo ov O e3 bv) := HI2.out.rdr hF3 hS3
  have HF3 : Hid (Fr (oneB ib) w0 w3) := HF2.out.trans hF3
  clear hS3 hF3 CD
  rcases hE3 with hE3 | hE3
  case inr =>
    have hE3' : e3 = 33 := hE3
    subst hE3'
    have em : matA M B p O mo s = (33, p, O) := by
      unfold matA
      rw [if_neg hbig, ← HK.out, ← HB1.out, if_neg (by simp), ← HB2.out, if_neg (by simp), if_neg hfar, ← HB3.out, if_pos (by simp)]
    have EM : Hid _ := em
    clear em
    have k4 := cellOf (o := 4) HI3.out.at_ rfl
    go_wp2_with fail
    go_quiet (fail)
    go_wp2_with fail
    go_loopg [8] 0 (fun gh iv wr => gh = 0 ∧ wr = (w3.drewN nq) ∧ iv = .int .i64 0)
    case atStart => exact ⟨rfl, rfl, rfl⟩
    case round =>
      obtain ⟨rfl, rfl, rfl⟩ := hrel
      go_wp2_with fail
      go_end0
      rw [EM.out]
      exact ⟨rfl, ⟨_, p3, HI3.out.rdr ((Fr.refl _ w3).drewN nq) HI3.out.at_, by omega, fun h => by simp at h⟩, wtrans H0.out.weak (HF3.out.drewN nq).toW⟩
  have hE3' : e3 = 0 := hE3
  subst hE3'
  obtain ⟨q, hq⟩ : ∃ q, O.length = q := ⟨_, rfl⟩
  have HQ : Hid (O.length = q) := hq
  obtain ⟨so, sc, hov, -⟩ := own_slice HI3.out.own
  rw [hq] at hov hO
  subst hov
  have c2 := cellOf (o := 2) HI3.out.at_ rfl
  have c3 := cellOf (o := 3) HI3.out.at_ rfl
  have c4 := cellOf (o := 4) HI3.out.at_ rfl
  clear hq
  by_cases hfr : q < D
  · have em : matA M B p O mo s = (32, p, O) := by
      unfold matA
      rw [if_neg hbig, ← HK.out, ← HB1.out, if_neg (by simp), ← HB2.out, if_neg (by simp), if_neg hfar, ← HB3.out, if_neg (by simp), if_pos (by rw [HQ.out]; exact HD.out ▸ hfr)]
    have EM : Hid _ := em
    have i3 : (q : Int) < (D : Int) := by omega
    have CF := fail_any mo (.slice so q sc) bv 0 32 ib v p3 w3 HI3.out.at_
    rw [show erA 0 32 = 32 from rfl] at CF
    clear em
    go_wp2_with fail
    refine CF.mono ?_
    rintro e w4 ⟨rfl, hS4, hF4⟩
    have HI4 : Hid (StIs w4 ib v B p3 mo (.slice so q sc) O 32 bv) := HI3.out.rdr hF4 hS4
    have HF4 : Hid (Fr (oneB ib) w0 w4) := HF3.out.trans hF4
    clear hS4 hF4 CF c2 c3 c4
    have k4 := cellOf (o := 4) HI4.out.at_ rfl
    go_wp2_with fail
    go_quiet (fail)
    go_wp2_with fail
    go_loopg [8] 0 (fun gh iv wr => gh = 0 ∧ wr = (w4.drewN nq) ∧ iv = .int .i64 0)
    case atStart => exact ⟨rfl, rfl, rfl⟩
    case round =>
      obtain ⟨rfl, rfl, rfl⟩ := hrel
      go_wp2_with fail
      go_end0
      rw [EM.out]
      exact ⟨rfl, ⟨_, p3, HI4.out.rdr ((Fr.refl _ w4).drewN nq) HI4.out.at_, by omega, fun h => by simp at h⟩, wtrans H0.out.weak (HF4.out.drewN nq).toW⟩
  have i3 : ¬ (q : Int) < (D : Int) := by omega
  by_cases hlg : mo - (q : Int) < (L : Int)
  · have em : matA M B p O mo s = (3, p, O) := by
      unfold matA
      rw [if_neg hbig, ← HK.out, ← HB1.out, if_neg (by simp), ← HB2.out, if_neg (by simp), if_neg hfar, ← HB3.out, if_neg (by simp), if_neg (by rw [HQ.out]; exact HD.out ▸ hfr), if_pos (by rw [HQ.out]; exact HL.out ▸ hlg)]
    have EM : Hid _ := em
    have CF := fun j => fail_any mo (.slice so q sc) bv 0 3 ib v p3 (w3.drewN j) HI3.out.at_
    rw [show erA 0 3 = 3 from rfl] at CF
    have HCF : Hid _ := CF
    clear em CF
    go_wp2_with fail
    go_quiet (fail)
    go_wp2_with fail
    refine (HCF.out _).mono ?_
    rintro e w4 ⟨rfl, hS4, hF4⟩
    have hF4' := ((Fr.refl (oneB ib) w3).drewN nq).trans hF4
    have HI4 : Hid (StIs w4 ib v B p3 mo (.slice so q sc) O 3 bv) := HI3.out.rdr hF4' hS4
    have HF4 : Hid (Fr (oneB ib) w0 w4) := HF3.out.trans hF4'
    clear hS4 hF4 hF4' HCF c2 c3 c4
    have k4 := cellOf (o := 4) HI4.out.at_ rfl
    go_wp2_with fail
    go_loopg [8] 0 (fun gh iv wr => gh = 0 ∧ wr = w4 ∧ iv = .int .i64 0)
    case atStart => exact ⟨rfl, rfl, rfl⟩
    case round =>
      obtain ⟨rfl, rfl, rfl⟩ := hrel
      go_wp2_with fail
      go_end0
      rw [EM.out]
      exact ⟨rfl, ⟨_, p3, HI4.out, by omega, fun h => by simp at h⟩, wtrans H0.out.weak HF4.out.toW⟩
  have em : matA M B p O mo s = (0, p3, repN O D L) := by
    unfold matA
    rw [if_neg hbig, ← HK.out, ← HB1.out, if_neg (by simp), ← HB2.out, if_neg (by simp), if_neg hfar, ← HB3.out, if_neg (by simp), if_neg (by rw [HQ.out]; exact HD.out ▸ hfr), if_neg (by rw [HQ.out]; exact HL.out ▸ hlg), HD.out, HL.out]
  have EM : Hid _ := em
  have i4 : (L : Int) ≤ mo - (q : Int) := by omega
  clear em
  go_wp2_with fail
  go_quiet (fail)
  go_wp2_with fail
  obtain ⟨w5, hw5⟩ : ∃ w5, w5 = w3.drewN nq := ⟨_, rfl⟩
  rw [← hw5]
  have HF5 : Hid (Fr (oneB ib) w0 w5) := by rw [hw5]; exact HF3.out.drewN nq
  have HI5 : Hid (StIs w5 ib v B p3 mo (.slice so q sc) O 0 bv) := by rw [hw5]; exact HI3.out.rdr ((Fr.refl _ w3).drewN nq) HI3.out.at_
  obtain ⟨i0, hi, hz0, hz1, hz2⟩ := info_parts Tryd.info5'
  clear hw5 c2 c3 c4
  go_loopg [8] L (fun gh iv wr => ∃ (a t : Nat) (ov' : Value), a ≤ L ∧ gh = L - a ∧ t = q + a ∧ iv = .int .i64 (a : Int) ∧ Hid (StIs wr ib v B p3 mo ov' (repN O D a) 0 bv) ∧ Hid (Fr (wS w0 ib) w0 wr))
  case atStart => exact ⟨0, q, _, Nat.zero_le _, rfl, rfl, rfl, by rw [repN_zero]; exact HI5.out, HF5.out.toW⟩
  case round =>
    obtain ⟨a, t, ov', ha, rfl, ht, rfl, HI6, HF6⟩ := hrel
    have hlt6 : (repN O D a).length = t := by rw [repN_length, HQ.out, ht]
    have hown := HI6.out.own
    rw [hlt6] at hown
    obtain ⟨gs, cap, cur, hsv, hgs, hrow, hqc, hcm, hcs, hct⟩ := own_row hown (by omega)
    subst hsv
    have HO : Hid (wr.ownsRow (ib + 1) 5 1 (.slice (some ⟨gs, 0, none⟩) t cap) t (byteVals (repN O D a))) := hown
    have c3 := cellOf (o := 3) HI6.out.at_ rfl
    have c4 := cellOf (o := 4) HI6.out.at_ rfl
    by_cases hlt : a < L
    · have i6 : (a : Int) < (L : Int) := by omega
      obtain ⟨f, hf⟩ : ∃ f, f = t - D := ⟨_, rfl⟩
      have hfI : (t : Int) - (D : Int) = (f : Int) := by omega
      obtain ⟨x, hx⟩ : ∃ x, (repN O D a).getD f 0 = x := ⟨_, rfl⟩
      have hft : f < t := by omega
      have cx : wr.cell? ⟨gs, f, none⟩ = some (.int .u8 (x : Int)) := by
        refine cellOf hrow ?_
        have h1 : (cur.toList.take t)[f]? = some (.int .u8 (x : Int)) := by
          rw [hct, byteVals_get _ f (by rw [hlt6]; exact hft)]
          rw [← hx, List.getD_eq_getElem?_getD, List.getElem?_eq_getElem (by rw [hlt6]; exact hft)]
          rfl
        rw [List.getElem?_take_of_lt hft] at h1
        simpa using h1
      have HSC : Hid (repN O D a ++ [x] = repN O D (a + 1)) := by
        show _ = _
        rw [repN_succ O D a (by omega) (by rw [HQ.out]; omega), HQ.out, ← hx, hf, ht]
      have hwr : ib + 1 ≤ wr.heap.size := lt_of_block HI6.out.at_
      have htb : t ≤ 35184372089090 := by omega
      have HT : Hid (t = q + a) := ht
      clear hx hown hrow hct hf hlt6 ht hfr i3 i4 hlg
      have HOd : Hid (wr.drew.ownsRow (ib + 1) 5 1 (.slice (some ⟨gs, 0, none⟩) t cap) t (byteVals (repN O D a))) := HO.out
      have hgne : gs ≠ ib := by omega
      have hfI2 : (f : Int) < (t : Int) := by omega
      have hfI3 : (0 : Int) ≤ (f : Int) := by omega
      have hfI4 : wrap64 ((t : Int) - (D : Int)) = (f : Int) := by rw [hfI, w64 _ (by omega)]
      have hfI5 : IntKind.i64.wrap ((t : Int) - (D : Int)) = (f : Int) := by rw [IntKind.wrap_i64]; omega
      have hfI6 : IntKind.i64.wrap (f : Int) = (f : Int) := by rw [IntKind.wrap_i64]; omega
      go_wp2_with fail
      have c3b : wr.cell? ⟨ib, 3, none⟩ = some (.slice (some ⟨gs, 0, none⟩) t cap) := c3
      have c3a : (wr.alloc (.cells #[.int .u8 (x : Int)] 5 (0, 0))).drew.cell? ⟨ib, 3, none⟩ = some (.slice (some ⟨gs, 0, none⟩) t cap) := (((Fr.refl noB wr).alloc (.cells #[.int .u8 (x : Int)] 5 (0, 0))).cell (a := ⟨ib, 3, none⟩) (by show ib < _; omega) id).trans c3b
      go_region_law (refine step_append_lies _ rfl _ _ 22 rfl (ib + 1) 5 i0 (.int .u8 0) 1 1 Tryd.underlying22 hi hz0 hz1 hz2 rfl (by decide) _ t (byteVals (repN O D a)) rfl (HOd.out.alloc _) ⟨wr.heap.size, 0, none⟩ 1 1 [.int .u8 (x : Int)] rfl rfl (one_srcN wr.drew _ _) (by intro u hu; simp at hu; subst hu; rfl) (by decide) (by unfold maxLen; omega) (by omega) (by simp; omega) _ rfl ?_; intro g4 cap4 w4 hown4 hg4 _ _; have hF4 : Fr (fun b => (Value.slice (some ⟨gs, 0, none⟩) t cap).ownBlock = some b) wr w4 := (((Fr.refl _ wr).drew).alloc (.cells #[.int .u8 (x : Int)] 5 (0, 0))).grown hg4 (fun k hk => Or.inl hk); have hat4 := hF4.obj HI6.out.at_ (fun e => hgne (Option.some.inj (show some gs = some ib from e))); have d43 := cellOf (o := 3) hat4 rfl; have f43 := freeOf 3 hat4)
      all_goals
        have hown5 : w4.ownsRow (ib + 1) 5 1 (.slice (some ⟨g4, 0, none⟩) (t + 1) cap4) (repN O D a ++ [x]).length (byteVals (repN O D a ++ [x])) := by
          have e : byteVals (repN O D a ++ [x]) = byteVals (repN O D a) ++ [.int .u8 (x : Int)] := by simp [byteVals]
          rw [e, List.length_append, repN_length, HQ.out, ← HT.out]
          exact hown4
        have hF4' : Fr (fun b => (Value.slice (some ⟨gs, 0, none⟩) t cap).ownBlock = some b) wr w4 := hF4
        have hS7 := StIs.say [x] HI6.out hown5 hF4'
        rw [HSC.out] at hS7
        have HS7 : Hid _ := hS7
        clear hS7 hown5 hown4 hg4 hat4 hF4 hF4' d43 f43 HOd HO c3 cx c4
        go_wp2_with fail
        go_roundg (L - (a + 1))
        case measure => omega
        case rel => exact ⟨a + 1, t + 1, _, by omega, rfl, by have := HT.out; omega, by go_num, HS7.out.1, wtrans HF6.out HS7.out.2⟩
    · obtain rfl : a = L := by omega
      have i6 : ¬ (a : Int) < (a : Int) := by omega
      go_wp2_with fail
      go_end0
      rw [EM.out]
      exact ⟨rfl, ⟨_, p3, HI6.out, hP3', fun _ => rfl⟩, wtrans H0.out.weak HF6.out⟩
#print axioms rmatch_any
end Go.Proofs.YthgnhcdodfildaaDoor
/- The document's symbols of a block: their contract. -/
namespace Go.Proofs.YthgnhcdodfildaaDoor
open Go.RowKit Go.Shelf
attribute [local go_sem ↓] Go.wp_at_zero Go.wp_at_succ

theorem StIs.bsK {w : World} {ib p er : Nat} {v ov bv : Value} {B O : List Nat} {mo : Int} (h : StIs w ib v B p mo ov O er bv) (w' : World) (hf : Fr (oneB ib) w w') : Bs w' v B :=
  h.bs.fr hf (fun ao len cap b off e1 e2 e => by
    have e' : b = ib := e
    subst e2
    have := h.vlt b off len cap e1
    omega)
set_option maxRecDepth 100000 in
set_option maxHeartbeats 1600000 in
theorem rsymbols_err (ib p er : Nat) (v lv dv ov bv : Value) (B O : List Nat) (mo : Int) (w : World) (h : StIs w ib v B p mo ov O er bv) (he : er ≠ 0) :
    Calls Tryd.prog 42 #[.pointer (some ⟨ib, 0, none⟩), .agg #[lv], .agg #[dv]] w fun e w' => e = .returned (.tuple #[]) ∧ StIs w' ib v B p mo ov O er bv ∧ Fr (wS w ib) w w' := by
  have he' : ¬ (er : Int) = 0 := by omega
  obtain ⟨w0, hw0⟩ : ∃ w0, w0 = (w.alloc (.cells #[lv] 86 (0, 0))).alloc (.cells #[dv] 86 (0, 0)) := ⟨_, rfl⟩
  have hF0 : Fr noB w w0 := by rw [hw0]; exact ((Fr.refl _ _).alloc _).alloc _
  have HI : Hid (StIs w0 ib v B p mo ov O er bv) := h.rdr hF0.weak (hF0.obj h.at_ id)
  have c4 := cellOf (o := 4) HI.out.at_ rfl
  have HW0 : Hid _ := hw0
  clear h hw0
  go_enter Tryd.func42, Tryd.ntmps42
  go_wp2_with fail
  rw [← HW0.out]
  go_loopg [6] 0 (fun gh _ wr => gh = 0 ∧ wr = w0)
  case atStart => exact ⟨rfl, rfl⟩
  case round =>
    obtain ⟨rfl, hw⟩ := hrel
    have hw' := hw.symm
    subst hw'
    go_wp2_with fail
    go_end0
    exact ⟨rfl, HI.out, hF0.weak⟩
set_option maxRecDepth 100000 in
set_option maxHeartbeats 6400000 in
theorem rsymbols_any (ib p : Nat) (v lv dv ov bv : Value) (B M N O : List Nat) (mo : Int) (w : World) (h : StIs w ib v B p mo ov O 0 bv) (hcl : ∀ w', Fr (wS w ib) w w' → Ns .i64 w' lv (up M)) (hcd : ∀ w', Fr (wS w ib) w w' → Ns .i64 w' dv (up N)) (hM : Code M) (hN : Code N) (hMl : M.length ≤ 65536) (hB : ∀ x ∈ B, x < 256) (hp : p ≤ 8 * B.length) (hl : B.length ≤ 1073741824) (hm : 0 ≤ mo) (hm2 : mo ≤ 9223372036854775807) (hO : O.length ≤ 258 * p) (F : Nat) (hF : 8 * B.length < p + F) :
    Calls Tryd.prog 42 #[.pointer (some ⟨ib, 0, none⟩), .agg #[lv], .agg #[dv]] w fun e w' => e = .returned (.tuple #[]) ∧ (∃ ov' p', StIs w' ib v B p' mo ov' (symsA M N B mo F p O).2.2 (symsA M N B mo F p O).1 bv ∧ p' ≤ 8 * B.length ∧ ((symsA M N B mo F p O).1 = 0 → p' = (symsA M N B mo F p O).2.1)) ∧ Fr (wS w ib) w w' := by
  obtain ⟨w0, hw0⟩ : ∃ w0, w0 = (w.alloc (.cells #[lv] 86 (0, 0))).alloc (.cells #[dv] 86 (0, 0)) := ⟨_, rfl⟩
  have hF0 : Fr noB w w0 := by rw [hw0]; exact ((Fr.refl _ _).alloc _).alloc _
  have HCL : Hid (w0.heap[w.heap.size]? = some (.cells #[lv] 86 (0, 0))) := by
    rw [hw0]
    exact ((Fr.refl noB _).alloc (.cells #[dv] 86 (0, 0))).obj (heap_alloc_new w _) id
  have HCD : Hid (w0.heap[w.heap.size + 1]? = some (.cells #[dv] 86 (0, 0))) := by
    have := heap_alloc_new (w.alloc (.cells #[lv] 86 (0, 0))) (.cells #[dv] 86 (0, 0))
    rw [hw0]
    rw [show (w.alloc (.cells #[lv] 86 (0, 0))).heap.size = w.heap.size + 1 by simp] at this
    exact this
  have hib : ib < w.heap.size := lt_of_block h.at_
  have HI0 : Hid (StIs w0 ib v B p mo ov O 0 bv) := h.rdr hF0.weak (hF0.obj h.at_ id)
  have HL : Hid (∀ w', Fr (wS w0 ib) w0 w' → Ns .i64 w' lv (up M)) := fun w' hf => hcl w' (wtrans hF0.weak hf)
  have HD : Hid (∀ w', Fr (wS w0 ib) w0 w' → Ns .i64 w' dv (up N)) := fun w' hf => hcd w' (wtrans hF0.weak hf)
  have H0 : Hid (Fr noB w w0) := hF0
  have HW0 : Hid _ := hw0
  have HHB : Hid (∀ x ∈ B, x < 256) := hB
  have HCM : Hid (Code M ∧ Code N) := ⟨hM, hN⟩
  obtain ⟨S, hS⟩ : ∃ S, symsA M N B mo F p O = S := ⟨_, rfl⟩
  rw [hS]
  have HS : Hid (symsA M N B mo F p O = S) := hS
  clear h hcl hcd hB hM hN hS hw0 hF0
  go_enter Tryd.func42, Tryd.ntmps42
  go_wp2_with fail
  rw [← HW0.out]
  go_loopg [6] F (fun gg _ wr => ∃ (f q er : Nat) (sq : List Nat) (vq : Value), gg = f + 1 ∧ Hid (StIs wr ib v B q mo vq sq er bv) ∧ q ≤ 8 * B.length ∧ Hid (Fr (wS w0 ib) w0 wr) ∧ ((er = 0 ∧ Hid (symsA M N B mo (f + 1) q sq = S) ∧ 8 * B.length < q + (f + 1) ∧ sq.length ≤ 258 * q) ∨ (er ≠ 0 ∧ ∃ z, Hid (S = (er, z, sq)))))
  case atStart => exact ⟨F - 1, p, 0, O, ov, by omega, HI0.out, hp, Fr.refl _ _, Or.inl ⟨rfl, by rw [show F - 1 + 1 = F by omega]; exact HS.out, by omega, hO⟩⟩
  case round =>
    obtain ⟨f, q, er, sq, vq, rfl, HI, hq, HF, hor⟩ := hrel
    have c4 := cellOf (o := 4) HI.out.at_ rfl
    rcases hor with ⟨rfl, HX, hfu, hsq⟩ | ⟨hne, z, HE⟩
    case inr =>
      have he' : ¬ (er : Int) = 0 := by omega
      have HNE : Hid (er ≠ 0) := hne
      clear hne
      go_wp2_with fail
      go_end0
      rw [HE.out]
      exact ⟨rfl, ⟨vq, q, HI.out, hq, fun h => absurd h HNE.out⟩, wtrans H0.out.weak HF.out⟩
    have hCL := HF.out.obj HCL.out (by
      rintro (e | ⟨_, cs, fr, e⟩)
      · omega
      · have := HCL.out
        rw [e] at this
        simp at this)
    have hCD := HF.out.obj HCD.out (by
      rintro (e | ⟨_, cs, fr, e⟩)
      · omega
      · have := HCD.out
        rw [e] at this
        simp at this)
    have e0' := cellOf (o := 0) hCL rfl
    have HSy := rsymbol_any mo vq bv ib v lv B M q wr HI.out.at_ HI.out.bsK (fun w' hf => HL.out w' (wtrans HF.out hf.toW)) HCM.out.1 HHB.out hq (by omega)
    obtain ⟨b, hb⟩ : ∃ b, b = symA M B q := ⟨_, rfl⟩
    have hP := symA_le M B q
    have hLt := symA_lt M B q
    have hSy := symA_sym M B q
    rw [← hb] at HSy hP hLt hSy
    obtain ⟨x, e0, q1⟩ := b
    have hx6 : x ≤ 65536 := Nat.le_trans hSy hMl
    have HBb : Hid ((x, e0, q1) = symA M B q) := hb
    have HPP : Hid (e0 = 0 → q1 ≤ 8 * B.length ∧ q < q1) := fun h => ⟨hP h, hLt h⟩
    simp only at HSy
    clear hb hP hLt hSy
    go_wp2_with fail
    refine HSy.mono ?_
    rintro e w1 ⟨rfl, ⟨q2, hq2, hqe, hS1⟩, hF1⟩
    have HI1 : Hid (StIs w1 ib v B q2 mo vq sq e0 bv) := HI.out.rdr hF1 hS1
    have HF1 : Hid (Fr (wS w0 ib) w0 w1) := wtrans HF.out hF1.toW
    have d4 := cellOf (o := 4) hS1 rfl
    have g0' := cellOf (o := 0) (hF1.obj hCD (fun e => by have e' : w.heap.size + 1 = ib := e; omega)) rfl
    clear HSy hF1 hS1 c4 hCL hCD e0'
    by_cases hz : e0 = 0
    case neg =>
      have em : S = (e0, q, sq) := by
        rw [← HX.out]
        unfold symsA
        rw [← HBb.out, if_pos (by simpa using hz)]
      have EM : Hid _ := em
      have HZ : Hid (e0 ≠ 0) := hz
      have hz' : ¬ (e0 : Int) = 0 := by omega
      clear em
      go_wp2_with fail
      try rw [Exit.noGoto_ret]
      refine bodyPost_ret (results_none rfl _ _ _) rfl ?_
      rw [EM.out]
      exact ⟨rfl, ⟨vq, q2, HI1.out, hq2, fun e => absurd e HZ.out⟩, wtrans H0.out.weak HF1.out⟩
    subst hz
    obtain rfl := hqe rfl
    have hq1 := HPP.out rfl
    by_cases h256 : x = 256
    · subst h256
      have em : S = (0, q2, sq) := by
        rw [← HX.out]
        unfold symsA
        rw [← HBb.out, if_neg (by simp), if_pos rfl]
      have EM : Hid _ := em
      clear em
      go_wp2_with fail
      try rw [Exit.noGoto_ret]
      refine bodyPost_ret (results_none rfl _ _ _) rfl ?_
      rw [EM.out]
      exact ⟨rfl, ⟨vq, q2, HI1.out, hq2, fun _ => rfl⟩, wtrans H0.out.weak HF1.out⟩
    have k256 : ¬ (x : Int) = 256 := by omega
    have hsl : sq.length ≤ 35184372088000 := by omega
    by_cases hlit : x < 256
    · have k1 : (x : Int) < 256 := by omega
      have k2 : IntKind.u8.wrap (x : Int) = (x : Int) := by rw [IntKind.wrap_u8]; omega
      have k3 : (x : Int) % 256 = (x : Int) := by omega
      obtain ⟨w2, hw2⟩ : ∃ w2, w2 = w1.alloc (.cells #[.int .u8 (x : Int)] 5 (0, 0)) := ⟨_, rfl⟩
      have hFA : Fr noB w1 w2 := by rw [hw2]; exact (Fr.refl _ _).alloc _
      have hsz : w2.heap[w1.heap.size]? = some (.cells #[.int .u8 (x : Int)] 5 (0, 0)) := by rw [hw2]; exact heap_alloc_new _ _
      have HI2 : Hid (StIs w2 ib v B q2 mo vq sq 0 bv) := HI1.out.rdr hFA.weak (hFA.obj HI1.out.at_ id)
      have HF2 : Hid (Fr (wS w0 ib) w0 w2) := wtrans HF1.out hFA.weak
      by_cases hlong : mo - (sq.length : Int) < 1
      · have HL := say_long ib v B q2 mo vq sq 0 bv (some ⟨w1.heap.size, 0, none⟩) 1 1 w2 HI2.out hm hm2 (by omega) (by omega)
        rw [show erA 0 3 = 3 from rfl] at HL
        have em : S = (3, q, sq) := by
          rw [← HX.out]
          unfold symsA
          rw [← HBb.out, if_neg (by simp), if_neg h256, if_pos hlit, if_pos hlong]
        have EM : Hid _ := em
        have HW2 : Hid (w2 = w1.alloc (.cells #[.int .u8 (x : Int)] 5 (0, 0))) := hw2
        clear em hw2 hFA hsz
        go_wp2_with fail
        rw [← HW2.out]
        refine HL.mono ?_
        rintro e w3 ⟨rfl, hI3, hF3⟩
        have HI3 : Hid _ := hI3
        have HF3 : Hid (Fr (wS w0 ib) w0 w3) := wtrans HF2.out hF3.toW
        clear hI3 hF3 HL
        go_wp2_with fail
        go_roundg f
        case measure => omega
        case rel => exact ⟨f - 1, q2, 3, sq, vq, by omega, HI3.out, hq2, HF3.out, Or.inr ⟨by decide, q, EM.out⟩⟩
      · have HL := say_good ib v B q2 mo vq sq [x] 0 bv (some ⟨w1.heap.size, 0, none⟩) 1 1 w2 HI2.out hm hm2 (by omega) (by omega) rfl (Src.of (Or.inr ⟨_, 0, rfl, fun i hi => by
            have : i = 0 := by simp at hi; omega
            subst this
            exact cellOf hsz rfl⟩)) (by simp) (Nat.le_refl _) (by omega)
        have em : symsA M N B mo f q2 (sq ++ [x]) = S := by
          rw [← HX.out]
          conv => rhs; unfold symsA
          rw [← HBb.out, if_neg (by simp), if_neg h256, if_pos hlit, if_neg hlong]
        have EM : Hid _ := em
        have HW2 : Hid (w2 = w1.alloc (.cells #[.int .u8 (x : Int)] 5 (0, 0))) := hw2
        clear em hw2 hFA hsz
        go_wp2_with fail
        rw [← HW2.out]
        refine HL.mono ?_
        rintro e w3 ⟨rfl, v3, hI3, hF3⟩
        have HI3 : Hid _ := hI3
        have HF3 : Hid (Fr (wS w0 ib) w0 w3) := wtrans HF2.out hF3
        clear hI3 hF3 HL
        go_wp2_with fail
        go_roundg f
        case measure => omega
        case rel => exact ⟨f - 1, q2, 0, sq ++ [x], v3, by omega, HI3.out, hq2, HF3.out, Or.inl ⟨rfl, by rw [show f - 1 + 1 = f by omega]; exact EM.out, by omega, by simp; omega⟩⟩
    · have k1 : ¬ (x : Int) < 256 := by omega
      have HMt := rmatch_any ib x q2 v dv vq bv B N sq mo w1 HI1.out (fun w' hf => HD.out w' (wtrans HF1.out hf)) HCM.out.2 HHB.out hq2 hl (by omega) hx6 hm hm2 (by omega)
      obtain ⟨R, hR⟩ : ∃ R, matA N B q2 sq mo x = R := ⟨_, rfl⟩
      have hok := matA_ok N B q2 sq mo x (by omega)
      rw [hR] at HMt hok
      have em : S = if R.1 ≠ 0 then (R.1, q, sq) else symsA M N B mo f R.2.1 R.2.2 := by
        rw [← HX.out]
        conv => lhs; unfold symsA
        rw [← HBb.out, if_neg (by simp), if_neg h256, if_neg hlit]
        simp only
        rw [hR]
      have hsd : R.1 ≠ 0 → R.2.2 = sq := by
        rw [← hR]
        unfold matA
        intro h
        split at h
        · rename_i h1; rw [if_pos h1]
        rename_i h1
        rw [if_neg h1]
        split at h
        · rename_i h2; rw [if_pos h2]
        rename_i h2
        rw [if_neg h2]
        split at h
        · rename_i h3; rw [if_pos h3]
        rename_i h3
        rw [if_neg h3]
        split at h
        · rename_i h4; rw [if_pos h4]
        rename_i h4
        rw [if_neg h4]
        split at h
        · rename_i h5; rw [if_pos h5]
        rename_i h5
        rw [if_neg h5]
        split at h
        · rename_i h6; rw [if_pos h6]
        rename_i h6
        rw [if_neg h6]
        split at h
        · rename_i h7; rw [if_pos h7]
        · exact absurd rfl h
      have EM : Hid _ := em
      have HOK : Hid _ := hok
      have HSD : Hid (R.1 ≠ 0 → R.2.2 = sq) := hsd
      clear em hR hok hsd
      go_wp2_with fail
      refine HMt.mono ?_
      rintro e w3 ⟨rfl, ⟨v3, p3, hI3, hp3, he3⟩, hF3⟩
      have HI3 : Hid (StIs w3 ib v B p3 mo v3 R.2.2 R.1 bv) := hI3
      have HF3 : Hid (Fr (wS w0 ib) w0 w3) := wtrans HF1.out hF3
      have HE3 : Hid (R.1 = 0 → p3 = R.2.1) := he3
      clear hI3 hF3 HMt he3
      go_wp2_with fail
      go_roundg f
      case measure => omega
      case rel =>
        by_cases hz : R.1 = 0
        · have hok := HOK.out hz
          have h3 := HE3.out hz
          have hem := EM.out
          rw [if_neg (by simpa using hz)] at hem
          refine ⟨f - 1, p3, R.1, R.2.2, v3, by omega, HI3.out, hp3, HF3.out, Or.inl ⟨hz, ?_, by omega, by omega⟩⟩
          show _ = _
          rw [show f - 1 + 1 = f by omega, h3]
          exact hem.symm
        · have hem := EM.out
          rw [if_pos hz] at hem
          refine ⟨f - 1, p3, R.1, R.2.2, v3, by omega, HI3.out, hp3, HF3.out, Or.inr ⟨hz, q, ?_⟩⟩
          show _ = _
          rw [hem, HSD.out hz]
#print axioms rsymbols_any
#print axioms rsymbols_err
end Go.Proofs.YthgnhcdodfildaaDoor
/- The document's lengths: what their contract wants. -/
namespace Go.Proofs.YthgnhcdodfildaaDoor
open Go.RowKit Go.Shelf
attribute [local go_sem ↓] Go.wp_at_zero Go.wp_at_succ

theorem ordN_lt (M : List Nat) (k i : Nat) (hk : 0 < k) : (ordN M k).getD i 0 < k := by
  have h : ∀ k i, (ordN M k).getD i 0 ≤ k - 1 := by
    intro k
    induction k with
    | zero =>
      intro i
      unfold ordN
      rw [List.getD_eq_getElem?_getD, List.getElem?_replicate]
      split <;> simp
    | succ k ih =>
      intro i
      have := ih i
      unfold ordN
      split
      · omega
      · rw [List.getD_eq_getElem?_getD] at *
        rw [List.getElem?_set]
        split
        · split <;> simp
        · omega
  have := h k i
  omega
theorem symA_in (M B : List Nat) (p : Nat) (hM : 0 < M.length) : (symA M B p).1 < M.length := by
  have hT : ∀ f k, (rdT M B p f k).1 < M.length := by
    intro f
    induction f with
    | zero => intro k; simpa [rdT] using hM
    | succ f ih =>
      intro k
      unfold rdT
      split
      · simpa using hM
      · split
        · simpa using hM
        · split
          · exact ordN_lt M M.length _ hM
          · exact ih _
  unfold symA
  split
  · simpa using hM
  · split
    · exact hT 16 0
    · split <;> simpa using hM
theorem StIs.keep {S : Nat → Prop} {w w' : World} {ib p er : Nat} {v ov bv : Value} {B O : List Nat} {mo : Int} (h : StIs w ib v B p mo ov O er bv) (hF : Fr S w w') (h1 : ¬ S ib) (h2 : ∀ b, b < ib → ¬ S b) (h4 : ∀ k cur, ib < k → w.heap[k]? = some (.cells cur 5 (0, 0)) → ¬ S k) : StIs w' ib v B p mo ov O er bv := by
  refine ⟨hF.obj h.at_ h1, h.bs.fr hF (fun ao len cap b off e1 e2 e => ?_), h.vlt, ?_⟩
  · subst e2
    exact h2 b (h.vlt b off len cap e1) e
  · obtain ⟨o1, o2⟩ := h.own
    refine ⟨o1, ?_⟩
    rcases o2 with o2 | ⟨g', cap', cur', k1, k2, k3, k4⟩
    · exact Or.inl o2
    · exact Or.inr ⟨g', cap', cur', k1, k2, hF.obj k3 (h4 g' _ (by omega) k3), k4⟩
theorem StIs.app {w w' : World} {ib p er base n : Nat} {v ov bv : Value} {B O : List Nat} {mo : Int} {so : Option Addr} {sc : Nat} {xs : List Value} (h : StIs w ib v B p mo ov O er bv) (hO : w.ownsRow base 3 1 (.slice so n sc) n xs) (hb : ib < base) (hF : Fr (fun b => (Value.slice so n sc).ownBlock = some b) w w') : StIs w' ib v B p mo ov O er bv :=
  h.keep hF (fun e => by have := (own_blk hO _ e).1; omega) (fun b hb' e => by have := (own_blk hO _ e).1; omega) (fun k cur _ hk e => by
    obtain ⟨_, cur', hc⟩ := own_blk hO _ e
    rw [hk] at hc
    cases hc)
set_option maxRecDepth 100000 in
set_option maxHeartbeats 1600000 in
theorem rlengths_err (ib p er many : Nat) (v cv ov bv : Value) (B O : List Nat) (mo : Int) (w : World) (h : StIs w ib v B p mo ov O er bv) (he : er ≠ 0) :
    Calls Tryd.prog 64 #[.pointer (some ⟨ib, 0, none⟩), .agg #[cv], .int .i64 (many : Int)] w fun e w' => e = .returned (.slice none 0 0) ∧ StIs w' ib v B p mo ov O er bv ∧ Fr (oneB ib) w w' := by
  have he' : ¬ (er : Int) = 0 := by omega
  have hed : decide ((er : Int) = 0) = false := by simp; omega
  obtain ⟨w0, hw0⟩ : ∃ w0, w0 = w.alloc (.cells #[cv] 86 (0, 0)) := ⟨_, rfl⟩
  have hF0 : Fr noB w w0 := by rw [hw0]; exact (Fr.refl _ _).alloc _
  have HI : Hid (StIs w0 ib v B p mo ov O er bv) := h.rdr hF0.weak (hF0.obj h.at_ id)
  have c4 := cellOf (o := 4) HI.out.at_ rfl
  have HW0 : Hid _ := hw0
  clear h hw0
  go_enter Tryd.func64, Tryd.ntmps64
  go_wp2_with fail
  rw [← HW0.out]
  go_loopg [7] 0 (fun gh lv wr => gh = 0 ∧ wr = w0 ∧ lv = .slice none 0 0)
  case atStart => exact ⟨rfl, rfl, rfl⟩
  case round =>
    obtain ⟨rfl, hw, rfl⟩ := hrel
    have hw' := hw.symm
    subst hw'
    go_wp2_with fail
    go_ret
    exact ⟨rfl, HI.out, hF0.weak⟩
#print axioms rlengths_err
end Go.Proofs.YthgnhcdodfildaaDoor
/- The document's lengths: their contract. -/
namespace Go.Proofs.YthgnhcdodfildaaDoor
open Go.RowKit Go.Shelf
attribute [local go_sem ↓] Go.wp_at_zero Go.wp_at_succ

set_option maxRecDepth 100000 in
set_option maxHeartbeats 12800000 in
theorem rlengths_any (ib p0 count : Nat) (v cv ov bv : Value) (B T O : List Nat) (mo : Int) (w : World) (h : StIs w ib v B p0 mo ov O 0 bv) (hc : ∀ w', Fr (oneB ib) w w' → Ns .i64 w' cv (up T)) (hT : Code T) (hT0 : T.length = 19) (hB : ∀ x ∈ B, x < 256) (hp : p0 ≤ 8 * B.length) (hl : B.length ≤ 1073741824) (hcn : count ≤ 1024) :
    Calls Tryd.prog 64 #[.pointer (some ⟨ib, 0, none⟩), .agg #[cv], .int .i64 (count : Int)] w fun e w' =>
      ((lenA T B count (count + 1) p0 []).1 ≠ 0 → ∃ so n sc p', e = .returned (.slice so n sc) ∧ StIs w' ib v B p' mo ov O (lenA T B count (count + 1) p0 []).1 bv ∧ p' ≤ 8 * B.length) ∧
      ((lenA T B count (count + 1) p0 []).1 = 0 → ∃ so sc, e = .returned (.slice so (lenA T B count (count + 1) p0 []).2.2.length sc) ∧ OwnN (w.heap.size + 1) w' so sc (lenA T B count (count + 1) p0 []).2.2 ∧ StIs w' ib v B (lenA T B count (count + 1) p0 []).2.1 mo ov O 0 bv) ∧ Fr (oneB ib) w w' := by
  obtain ⟨i0, hi, hz0, hz1, hz2⟩ := info_parts info64N
  obtain ⟨R, hR⟩ : ∃ R, lenA T B count (count + 1) p0 [] = R := ⟨_, rfl⟩
  rw [hR]
  obtain ⟨w0, hw0⟩ : ∃ w0, w0 = w.alloc (.cells #[cv] 86 (0, 0)) := ⟨_, rfl⟩
  have hF0 : Fr noB w w0 := by rw [hw0]; exact (Fr.refl _ _).alloc _
  have HCC : Hid (w0.heap[w.heap.size]? = some (.cells #[cv] 86 (0, 0))) := by rw [hw0]; exact heap_alloc_new _ _
  have hsz0 : w0.heap.size = w.heap.size + 1 := by rw [hw0]; simp
  have hib : ib < w.heap.size := lt_of_block h.at_
  have HI0 : Hid (StIs w0 ib v B p0 mo ov O 0 bv) := h.rdr hF0.weak (hF0.obj h.at_ id)
  have HC : Hid (∀ w', Fr (oneB ib) w0 w' → Ns .i64 w' cv (up T)) := fun w' hf => hc w' (hF0.weak.trans hf)
  have HR : Hid (lenA T B count (count + 1) p0 [] = R) := hR
  have H0 : Hid (Fr noB w w0) := hF0
  have HW0 : Hid _ := hw0
  have HHB : Hid (∀ x ∈ B, x < 256) := hB
  have HCT : Hid (Code T) := hT
  clear hR hw0 hF0 h hc hB hT
  go_enter Tryd.func64, Tryd.ntmps64
  go_wp2_with fail
  rw [← HW0.out]
  go_loopg [7] (count + 1) (fun gg lv wr => ∃ (f p er : Nat) (D : List Nat) (so : Option Addr) (n sc : Nat), gg = f + 1 ∧ lv = .slice so n sc ∧ Hid (D.length = n) ∧ n ≤ count ∧ Hid (StIs wr ib v B p mo ov O er bv) ∧ p ≤ 8 * B.length ∧ Hid (OwnN (w.heap.size + 1) wr so sc D) ∧ Hid (Fr (oneB ib) w0 wr) ∧ ((er = 0 ∧ count ≤ D.length + f ∧ Hid (lenA T B count (f + 1) p D = R)) ∨ (er ≠ 0 ∧ Hid (R.1 = er))))
  case atStart => exact ⟨count, p0, 0, [], none, 0, 0, rfl, rfl, rfl, Nat.zero_le _, HI0.out, hp, World.ownsRow_nil w0 _ _ 1, Fr.refl _ _, Or.inl ⟨rfl, by simp, HR.out⟩⟩
  case round =>
    obtain ⟨f, p, er, D, so, n, sc, rfl, rfl, HN, hDc, HI, hpl, HO, HF, hor⟩ := hrel
    have c4 := cellOf (o := 4) HI.out.at_ rfl
    rcases hor with ⟨rfl, hfu, HL⟩ | ⟨hne, HE⟩
    case inr =>
      have he' : ¬ (er : Int) = 0 := by omega
      have hed : decide ((er : Int) = 0) = false := by simp; omega
      have HNE : Hid (er ≠ 0) := hne
      clear hne
      go_wp2_with fail
      go_ret
      refine ⟨fun _ => ⟨so, n, sc, p, rfl, ?_, hpl⟩, fun h => absurd (HE.out ▸ h) HNE.out, H0.out.weak.trans HF.out⟩
      rw [HE.out]
      exact HI.out
    rw [HN.out] at hfu
    by_cases hdone : count ≤ n
    · have HRR : Hid (R = (0, p, D)) := by
        have := HL.out
        unfold lenA at this
        rw [if_pos (by rw [HN.out]; exact hdone)] at this
        exact this.symm
      have hdI : decide ((n : Int) < (count : Int)) = false := by simp; omega
      clear HL
      go_wp2_with fail
      go_ret
      rw [HRR.out]
      refine ⟨fun h => absurd rfl h, fun _ => ⟨so, sc, ?_, HO.out, HI.out⟩, H0.out.weak.trans HF.out⟩
      rw [HN.out]
      rfl
    have hltI : (n : Int) < (count : Int) := by omega
    have hlt : n < count := by omega
    have hf1 : 1 ≤ f := by omega
    have d0 := cellOf (o := 0) (HF.out.obj HCC.out (fun e => by have e' : w.heap.size = ib := e; omega)) rfl
    have HSy := rsymbol_any mo ov bv ib v cv B T p wr HI.out.at_ HI.out.bsK (fun w' hf => HC.out w' (HF.out.trans hf)) HCT.out HHB.out hpl (by omega)
    obtain ⟨b, hb⟩ : ∃ b, b = symA T B p := ⟨_, rfl⟩
    have hSy := symA_in T B p (by omega)
    have hX2 : (symA T B p).2.1 ≠ 0 → (symA T B p).1 = 0 := by
      unfold symA
      split
      · simp
      · split
        · simp
        · split <;> simp
    rw [← hb] at HSy hSy hX2
    obtain ⟨x, e2, q1⟩ := b
    have HB2 : Hid ((x, e2, q1) = symA T B p) := hb
    simp only at HSy hSy hX2
    rw [hT0] at hSy
    clear hb hdone
    have hsize := HF.out.size
    obtain ⟨last, hlast⟩ : ∃ last, D.getLastD 0 = last := ⟨_, rfl⟩
    have HLAST : Hid (D.getLastD 0 = last) := hlast
    by_cases hnn : n = 0
    · subst hnn
      have HD0 : Hid (D = []) := List.eq_nil_of_length_eq_zero HN.out
      obtain rfl : last = 0 := by rw [← hlast, HD0.out]; rfl
      clear hlast
      go_wp2_with fail
      refine HSy.mono ?_
      rintro e w2 ⟨rfl, ⟨q2, q2le, hqe, hS2⟩, hF2⟩
      have HI2 : Hid (StIs w2 ib v B q2 mo ov O e2 bv) := HI.out.rdr hF2 hS2
      have HF2 : Hid (Fr (oneB ib) w0 w2) := HF.out.trans hF2
      have HO2 : Hid (OwnN (w.heap.size + 1) w2 so sc D) := HO.out.keep hF2 (fun k hk => by have e' : k = ib := hk; omega)
      have d4 := cellOf (o := 4) HI2.out.at_ rfl
      clear HSy hF2 hS2 c4 d0 HI HO HF
      by_cases hz : e2 = 0
      case neg =>
        have HER : Hid (R.1 = e2) := by
          show _ = _
          rw [← HL.out]
          unfold lenA
          rw [if_neg (by rw [HN.out]; omega), ← HB2.out, if_pos (by simpa using hz)]
        have HZ : Hid (e2 ≠ 0) := hz
        have hz' : ¬ (e2 : Int) = 0 := by omega
        have hzd : decide ((e2 : Int) = 0) = false := by simp; omega
        obtain rfl := hX2 hz
        have CR := repeated_lit ib 0 0 w2 (by omega)
        clear hX2 hz
        go_wp2_with fail
        refine CR.mono ?_
        rintro e w3 ⟨rfl, rfl⟩
        go_wp2_with fail
        go_loopg [7, 12] 0 (fun gh lv kv wq => gh = 0 ∧ wq = w3 ∧ lv = .slice so 0 sc ∧ kv = .int .i64 0)
        case atStart => exact ⟨rfl, rfl, rfl, rfl⟩
        case round =>
          obtain ⟨rfl, hw, rfl, rfl⟩ := hrel
          have hw' := hw.symm
          subst hw'
          go_wp2_with fail
          go_roundg f
          case measure => omega
          case rel => exact ⟨f - 1, q2, e2, D, so, 0, sc, by omega, rfl, HN.out, hDc, HI2.out, q2le, HO2.out, HF2.out, Or.inr ⟨HZ.out, HER.out⟩⟩
      subst hz
      obtain rfl := hqe rfl
      have HL2 := HL.out
      unfold lenA at HL2
      rw [if_neg (by rw [HN.out]; omega), ← HB2.out, if_neg (by simp)] at HL2
      simp only at HL2
      by_cases h16 : x < 16
      · rw [if_pos h16] at HL2
        have HNEXT : Hid (lenA T B count f q2 (D ++ List.replicate 1 x) = R) := HL2
        have CR := repeated_lit ib x 0 w2 h16
        have x16 : ((x : Int) == 16) = false := by rw [beq_eq_false_iff_ne]; omega
        have xn16 : ¬ (x : Int) = 16 := by omega
        have hroom : decide ((count : Int) < 1) = false := by simp; omega
        clear HL2 hX2
        go_wp2_with fail
        refine CR.mono ?_
        rintro e w3 ⟨rfl, rfl⟩
        go_wp2_with fail
        go_loopg [7, 12] 1 (fun gh lv kv wq => ∃ (k m : Nat) (so' : Option Addr) (sc' : Nat), gh = 1 - k ∧ k ≤ 1 ∧ m = 0 + k ∧ lv = .slice so' m sc' ∧ kv = .int .i64 (k : Int) ∧ Hid (wq.ownsRow (w.heap.size + 1) 3 1 (.slice so' m sc') m (nVals .i64 (D ++ List.replicate k x))) ∧ Hid (StIs wq ib v B q2 mo ov O 0 bv) ∧ Hid (Fr (oneB ib) w0 wq))
        case atStart => exact ⟨0, 0, so, sc, rfl, Nat.zero_le _, rfl, rfl, rfl, by have hh := HO2.out; unfold OwnN at hh; rw [HN.out] at hh; show World.ownsRow _ _ _ _ _ _ _; simpa using hh, HI2.out, HF2.out⟩
        case round =>
          obtain ⟨k, m, so', sc', rfl, hk, hm', rfl, rfl, HO3, HI3, HF3⟩ := hrel
          have c43 := cellOf (o := 4) HI3.out.at_ rfl
          by_cases hkt : k < 1
          · have hkI : (k : Int) < 1 := by omega
            have hsz3 := HF3.out.size
            have hmb : m ≤ 2048 := by omega
            have HMM : Hid (m = 0 + k) := hm'
            clear hm'
            go_wp2_with (at_builtin; refine wpList_append_own _ rfl _ _ 73 rfl (w.heap.size + 1) 3 i0 (.int .i64 0) 1 8 Tryd.underlying73 hi hz0 hz1 hz2 rfl (by decide) _ m (nVals .i64 (D ++ List.replicate k x)) rfl (HO3.out.alloc _) ⟨wr.heap.size, 0, none⟩ 1 1 [.int .i64 (x : Int)] rfl rfl (one_srcN wr _ _) (by intro u hu; simp at hu; subst hu; rfl) (by unfold maxLen; omega) (by omega) (by simp; omega) ?_)
            intro v' w4 hown hg _
            have hF4 : Fr (fun b => (Value.slice so' m sc').ownBlock = some b) wr w4 := ((Fr.refl _ wr).alloc (.cells #[.int .i64 (x : Int)] 3 (0, 0))).grown hg (fun k hk => Or.inl hk)
            have HG4 : Hid (Fr (oneB ib) w0 w4) := HF3.out.then hF4 (fun i hi => Or.inr (by have := (own_blk HO3.out i hi).1; omega))
            have HI4 : Hid (StIs w4 ib v B q2 mo ov O 0 bv) := HI3.out.app HO3.out (by omega) hF4
            rw [nVals_app, List.append_assoc, ← List.replicate_succ'] at hown
            obtain ⟨so4, sc4, rfl⟩ := own_formN hown
            have HO4 : Hid (w4.ownsRow (w.heap.size + 1) 3 1 (.slice so4 (m + 1) sc4) (m + 1) (nVals .i64 (D ++ List.replicate (k + 1) x))) := hown
            clear HO3 HI3 HF3 hown hg hF4 c43
            go_wp2_with fail
            go_roundg (1 - (k + 1))
            case measure => omega
            case rel => exact ⟨k + 1, m + 1, so4, sc4, rfl, by omega, by have := HMM.out; omega, rfl, by go_num, HO4, HI4, HG4⟩
          · obtain rfl : k = 1 := by omega
            have hkI : ¬ ((1 : Int)) < 1 := by omega
            have HO5 : Hid (OwnN (w.heap.size + 1) wr so' sc' (D ++ List.replicate 1 x)) := by
              show World.ownsRow _ _ _ _ _ _ _
              have := HO3.out
              rw [hm', ← HN.out] at this
              simpa using this
            have HMM : Hid (m = 0 + 1) := hm'
            clear HO3 hm'
            go_wp2_with fail
            go_roundg f
            case measure => omega
            case rel => exact ⟨f - 1, q2, 0, D ++ List.replicate 1 x, so', m, sc', by omega, rfl, by have := HMM.out; show _ = _; simp [HN.out]; omega, by have := HMM.out; omega, HI3.out, q2le, HO5.out, HF3.out, Or.inl ⟨rfl, by have := HN.out; simp; omega, by rw [show f - 1 + 1 = f by omega]; exact HNEXT.out⟩⟩
      rw [if_neg h16] at HL2
      have hx18 : x ≤ 18 := by omega
      by_cases hx16 : x = 16
      · subst hx16
        have hD0 : D = [] := HD0.out
        have HER : Hid (R.1 = 30) := by
          have e0 : repA B q2 16 D = (0, 0, 30, q2) := by unfold repA; rw [if_pos ⟨rfl, hD0⟩]
          show _ = _
          rw [← HL2, e0, if_pos (by simp)]
        have CF := fail_any mo ov bv 0 30 ib v q2 w2 HI2.out.at_
        rw [show erA 0 30 = 30 from rfl] at CF
        have CR := fun w' (hs : SfAt mo ov bv 30 w' ib v q2) (hb : Bs w' v B) => repeated_rep mo ov bv 30 ib v B q2 16 0 w' hs hb HHB.out q2le (by omega) (by omega) (by omega)
        rw [show rbA B 30 q2 (rpB 16) = (0, 30, q2) from rfl] at CR
        have HCR : Hid _ := CR
        clear HL2 CR hX2
        go_wp2_with fail
        refine CF.mono ?_
        rintro e w3 ⟨rfl, hS3, hF3⟩
        have HI3 : Hid (StIs w3 ib v B q2 mo ov O 30 bv) := HI2.out.rdr hF3 hS3
        have CR := HCR.out w3 hS3 HI3.out.bs
        have HO3 : Hid (OwnN (w.heap.size + 1) w3 so sc D) := HO2.out.keep hF3 (fun k hk => by have e' : k = ib := hk; omega)
        have HF3 : Hid (Fr (oneB ib) w0 w3) := HF2.out.trans hF3
        clear CF hS3 hF3 HCR
        go_wp2_with fail
        refine CR.mono ?_
        rintro e w4 ⟨rfl, hS4, hF4⟩
        have HI4 : Hid (StIs w4 ib v B q2 mo ov O 30 bv) := HI3.out.rdr hF4 hS4
        have HO4 : Hid (OwnN (w.heap.size + 1) w4 so sc D) := HO3.out.keep hF4 (fun k hk => by have e' : k = ib := hk; omega)
        have HF4 : Hid (Fr (oneB ib) w0 w4) := HF3.out.trans hF4
        have k44 := cellOf (o := 4) HI4.out.at_ rfl
        clear CR hS4 hF4
        go_wp2_with fail
        go_loopg [7, 12] 0 (fun gh lv kv wq => gh = 0 ∧ wq = w4 ∧ lv = .slice so 0 sc ∧ kv = .int .i64 0)
        case atStart => exact ⟨rfl, rfl, rfl, rfl⟩
        case round =>
          obtain ⟨rfl, hw, rfl, rfl⟩ := hrel
          have hw' := hw.symm
          subst hw'
          go_wp2_with fail
          go_roundg f
          case measure => omega
          case rel => exact ⟨f - 1, q2, 30, D, so, 0, sc, by omega, rfl, HN.out, hDc, HI4.out, q2le, HO4.out, HF4.out, Or.inr ⟨by decide, HER.out⟩⟩
      have hrep : ¬ (x = 16 ∧ D = []) := fun h => hx16 h.1
      have x16 : ((x : Int) == 16) = false := by rw [beq_eq_false_iff_ne]; omega
      have xn16 : ¬ (x : Int) = 16 := by omega
      have e1 : repA B q2 x D = (if x = 16 then 0 else 0, if (bitA B q2 (rpB x)).2.1 = 0 then rpF x + (bitA B q2 (rpB x)).1 else 0, (bitA B q2 (rpB x)).2.1, (bitA B q2 (rpB x)).2.2) := by
        unfold repA
        rw [if_neg hrep, HLAST.out]
        rfl
      rw [e1] at HL2
      simp only at HL2
      have CR := repeated_rep mo ov bv 0 ib v B q2 x 0 w2 HI2.out.at_ HI2.out.bs HHB.out q2le (by omega) (by omega) hx18
      rw [show rbA B 0 q2 (rpB x) = bitA B q2 (rpB x) from rfl] at CR
      have hbe := bitA_err B q2 (rpB x)
      have hbl := bitA_le B q2 (rpB x) q2le
      have hbx := bitA_lt B q2 (rpB x)
      have hrp : rpF x ≤ 11 ∧ 3 ≤ rpF x := by
        unfold rpF
        split
        · omega
        · split <;> omega
      have hrb : 2 ^ rpB x ≤ 128 := by
        unfold rpB
        split
        · decide
        · split <;> decide
      generalize bitA B q2 (rpB x) = bb at *
      obtain ⟨y, e3, p3⟩ := bb
      simp only at HL2 CR hbe hbl hbx
      obtain ⟨val, hval⟩ : ∃ val, (if x = 16 then 0 else 0 : Nat) = val := ⟨_, rfl⟩
      rw [hval] at HL2 CR
      obtain ⟨N, hN⟩ : ∃ N, rpF x + y = N := ⟨_, rfl⟩
      rw [hN] at CR
      have p3le : p3 ≤ 8 * B.length := hbl
      have hNb : N ≤ 139 ∧ 3 ≤ N := by omega
      clear e1 hval hrep hX2 hbl hbx hrb hrp
      go_wp2_with fail
      refine CR.mono ?_
      rintro e w3 ⟨rfl, hS3, hF3⟩
      have HI3 : Hid (StIs w3 ib v B p3 mo ov O e3 bv) := HI2.out.rdr hF3 hS3
      have HO3 : Hid (OwnN (w.heap.size + 1) w3 so sc D) := HO2.out.keep hF3 (fun k hk => by have e' : k = ib := hk; omega)
      have HF3 : Hid (Fr (oneB ib) w0 w3) := HF2.out.trans hF3
      have k43 := cellOf (o := 4) HI3.out.at_ rfl
      clear CR hS3 hF3
      rcases hbe with hbe | hbe
      case inr =>
        subst hbe
        rw [if_pos (by decide)] at HL2
        have HER : Hid (R.1 = 33) := by show _ = _; rw [← HL2]
        clear HL2 hN
        go_wp2_with fail
        go_loopg [7, 12] 0 (fun gh lv kv wq => gh = 0 ∧ wq = w3 ∧ lv = .slice so 0 sc ∧ kv = .int .i64 0)
        case atStart => exact ⟨rfl, rfl, rfl, rfl⟩
        case round =>
          obtain ⟨rfl, hw, rfl, rfl⟩ := hrel
          have hw' := hw.symm
          subst hw'
          go_wp2_with fail
          go_roundg f
          case measure => omega
          case rel => exact ⟨f - 1, p3, 33, D, so, 0, sc, by omega, rfl, HN.out, hDc, HI3.out, p3le, HO3.out, HF3.out, Or.inr ⟨by decide, HER.out⟩⟩
      subst hbe
      rw [if_neg (by simp), if_pos rfl, hN] at HL2
      clear hN
      by_cases hmany : count < 0 + N
      · rw [if_pos (by rw [HN.out]; exact hmany)] at HL2
        have HER : Hid (R.1 = 30) := by show _ = _; rw [← HL2]
        have hmI : (count : Int) < (N : Int) := by omega
        have CF := fail_any mo ov bv 0 30 ib v p3 w3 HI3.out.at_
        rw [show erA 0 30 = 30 from rfl] at CF
        clear HL2
        go_wp2_with fail
        refine CF.mono ?_
        rintro e w4 ⟨rfl, hS4, hF4⟩
        have HI4 : Hid (StIs w4 ib v B p3 mo ov O 30 bv) := HI3.out.rdr hF4 hS4
        have HO4 : Hid (OwnN (w.heap.size + 1) w4 so sc D) := HO3.out.keep hF4 (fun k hk => by have e' : k = ib := hk; omega)
        have HF4 : Hid (Fr (oneB ib) w0 w4) := HF3.out.trans hF4
        have k44 := cellOf (o := 4) HI4.out.at_ rfl
        clear CF hS4 hF4
        go_wp2_with fail
        go_loopg [7, 12] 0 (fun gh lv kv wq => gh = 0 ∧ wq = w4 ∧ lv = .slice so 0 sc ∧ kv = .int .i64 0)
        case atStart => exact ⟨rfl, rfl, rfl, rfl⟩
        case round =>
          obtain ⟨rfl, hw, rfl, rfl⟩ := hrel
          have hw' := hw.symm
          subst hw'
          go_wp2_with fail
          go_roundg f
          case measure => omega
          case rel => exact ⟨f - 1, p3, 30, D, so, 0, sc, by omega, rfl, HN.out, hDc, HI4.out, p3le, HO4.out, HF4.out, Or.inr ⟨by decide, HER.out⟩⟩
      rw [if_neg (by rw [HN.out]; exact hmany)] at HL2
      have HNEXT : Hid (lenA T B count f p3 (D ++ List.replicate N val) = R) := HL2
      have hmI : decide ((count : Int) < (N : Int)) = false := by simp; omega
      have hmN : ¬ count < N := by omega
      clear HL2
      go_wp2_with fail
      go_loopg [7, 12] N (fun gh lv kv wq => ∃ (k m : Nat) (so' : Option Addr) (sc' : Nat), gh = N - k ∧ k ≤ N ∧ m = 0 + k ∧ lv = .slice so' m sc' ∧ kv = .int .i64 (k : Int) ∧ Hid (wq.ownsRow (w.heap.size + 1) 3 1 (.slice so' m sc') m (nVals .i64 (D ++ List.replicate k val))) ∧ Hid (StIs wq ib v B p3 mo ov O 0 bv) ∧ Hid (Fr (oneB ib) w0 wq))
      case atStart => exact ⟨0, 0, so, sc, rfl, Nat.zero_le _, rfl, rfl, rfl, by have hh := HO3.out; unfold OwnN at hh; rw [HN.out] at hh; show World.ownsRow _ _ _ _ _ _ _; simpa using hh, HI3.out, HF3.out⟩
      case round =>
        obtain ⟨k, m, so', sc', rfl, hk, hm', rfl, rfl, HO3, HI3, HF3⟩ := hrel
        have c43 := cellOf (o := 4) HI3.out.at_ rfl
        by_cases hkt : k < N
        · have hkI : (k : Int) < (N : Int) := by omega
          have hsz3 := HF3.out.size
          have hmb : m ≤ 2048 := by omega
          have HMM : Hid (m = 0 + k) := hm'
          clear hm'
          go_wp2_with (at_builtin; refine wpList_append_own _ rfl _ _ 73 rfl (w.heap.size + 1) 3 i0 (.int .i64 0) 1 8 Tryd.underlying73 hi hz0 hz1 hz2 rfl (by decide) _ m (nVals .i64 (D ++ List.replicate k val)) rfl (HO3.out.alloc _) ⟨wr.heap.size, 0, none⟩ 1 1 [.int .i64 (val : Int)] rfl rfl (one_srcN wr _ _) (by intro u hu; simp at hu; subst hu; rfl) (by unfold maxLen; omega) (by omega) (by simp; omega) ?_)
          intro v' w4 hown hg _
          have hF4 : Fr (fun b => (Value.slice so' m sc').ownBlock = some b) wr w4 := ((Fr.refl _ wr).alloc (.cells #[.int .i64 (val : Int)] 3 (0, 0))).grown hg (fun k hk => Or.inl hk)
          have HG4 : Hid (Fr (oneB ib) w0 w4) := HF3.out.then hF4 (fun i hi => Or.inr (by have := (own_blk HO3.out i hi).1; omega))
          have HI4 : Hid (StIs w4 ib v B p3 mo ov O 0 bv) := HI3.out.app HO3.out (by omega) hF4
          rw [nVals_app, List.append_assoc, ← List.replicate_succ'] at hown
          obtain ⟨so4, sc4, rfl⟩ := own_formN hown
          have HO4 : Hid (w4.ownsRow (w.heap.size + 1) 3 1 (.slice so4 (m + 1) sc4) (m + 1) (nVals .i64 (D ++ List.replicate (k + 1) val))) := hown
          clear HO3 HI3 HF3 hown hg hF4 c43
          go_wp2_with fail
          go_roundg (N - (k + 1))
          case measure => omega
          case rel => exact ⟨k + 1, m + 1, so4, sc4, rfl, by omega, by have := HMM.out; omega, rfl, by go_num, HO4, HI4, HG4⟩
        · obtain rfl : k = N := by omega
          have hkI : ¬ ((k : Int)) < (k : Int) := by omega
          have HO5 : Hid (OwnN (w.heap.size + 1) wr so' sc' (D ++ List.replicate k val)) := by
            show World.ownsRow _ _ _ _ _ _ _
            have := HO3.out
            rw [hm', ← HN.out] at this
            simpa using this
          have HMM : Hid (m = 0 + k) := hm'
          clear HO3 hm'
          go_wp2_with fail
          go_roundg f
          case measure => omega
          case rel => exact ⟨f - 1, p3, 0, D ++ List.replicate k val, so', m, sc', by omega, rfl, by have := HMM.out; show _ = _; simp [HN.out]; omega, by have := HMM.out; omega, HI3.out, p3le, HO5.out, HF3.out, Or.inl ⟨rfl, by have := HN.out; simp; omega, by rw [show f - 1 + 1 = f by omega]; exact HNEXT.out⟩⟩
    · have hn0 : (0 : Int) < (n : Int) := by omega
      have HD0 : Hid (D ≠ []) := fun e => by have := HN.out; rw [e] at this; simp at this; omega
      obtain ⟨m1, hm1⟩ : ∃ m1, n = m1 + 1 := ⟨n - 1, by omega⟩
      have hlx : D[m1]? = some last := by
        rw [← hlast]
        have := HN.out
        rw [List.getLastD_eq_getLast?, List.getLast?_eq_getElem?, show D.length - 1 = m1 by omega, List.getElem?_eq_getElem (by omega)]
        rfl
      obtain ⟨gl, hgl, hgb, hgs, hgc⟩ := HO.out.cells m1 last hlx
      subst hgl
      have hm1I : (n : Int) - 1 = (m1 : Int) := by omega
      have hm1J : (m1 : Int) < (n : Int) := by omega
      have HM1 : Hid (n = m1 + 1) := hm1
      have HLX : Hid (D[m1]? = some last) := hlx
      clear hlast hlx hm1 hgc hgs
      go_wp2_with fail
      refine HSy.mono ?_
      rintro e w2 ⟨rfl, ⟨q2, q2le, hqe, hS2⟩, hF2⟩
      have HI2 : Hid (StIs w2 ib v B q2 mo ov O e2 bv) := HI.out.rdr hF2 hS2
      have HF2 : Hid (Fr (oneB ib) w0 w2) := HF.out.trans hF2
      have HO2 : Hid (OwnN (w.heap.size + 1) w2 (some ⟨gl, 0, none⟩) sc D) := HO.out.keep hF2 (fun k hk => by have e' : k = ib := hk; omega)
      have d4 := cellOf (o := 4) HI2.out.at_ rfl
      have hgc : w2.cell? ⟨gl, m1, none⟩ = some (.int .i64 (last : Int)) := by
        obtain ⟨g', h1, _, _, h2⟩ := HO2.out.cells m1 last HLX.out
        cases h1
        exact h2
      clear HSy hF2 hS2 c4 d0 HI HO HF
      by_cases hz : e2 = 0
      case neg =>
        have HER : Hid (R.1 = e2) := by
          show _ = _
          rw [← HL.out]
          unfold lenA
          rw [if_neg (by rw [HN.out]; omega), ← HB2.out, if_pos (by simpa using hz)]
        have HZ : Hid (e2 ≠ 0) := hz
        have hz' : ¬ (e2 : Int) = 0 := by omega
        have hzd : decide ((e2 : Int) = 0) = false := by simp; omega
        obtain rfl := hX2 hz
        have CR := repeated_lit ib 0 last w2 (by omega)
        clear hX2 hz
        go_wp2_with fail
        refine CR.mono ?_
        rintro e w3 ⟨rfl, rfl⟩
        go_wp2_with fail
        go_loopg [7, 12] 0 (fun gh lv kv wq => gh = 0 ∧ wq = w3 ∧ lv = .slice (some ⟨gl, 0, none⟩) n sc ∧ kv = .int .i64 0)
        case atStart => exact ⟨rfl, rfl, rfl, rfl⟩
        case round =>
          obtain ⟨rfl, hw, rfl, rfl⟩ := hrel
          have hw' := hw.symm
          subst hw'
          go_wp2_with fail
          go_roundg f
          case measure => omega
          case rel => exact ⟨f - 1, q2, e2, D, some ⟨gl, 0, none⟩, n, sc, by omega, rfl, HN.out, hDc, HI2.out, q2le, HO2.out, HF2.out, Or.inr ⟨HZ.out, HER.out⟩⟩
      subst hz
      obtain rfl := hqe rfl
      have HL2 := HL.out
      unfold lenA at HL2
      rw [if_neg (by rw [HN.out]; omega), ← HB2.out, if_neg (by simp)] at HL2
      simp only at HL2
      by_cases h16 : x < 16
      · rw [if_pos h16] at HL2
        have HNEXT : Hid (lenA T B count f q2 (D ++ List.replicate 1 x) = R) := HL2
        have CR := repeated_lit ib x last w2 h16
        have x16 : ((x : Int) == 16) = false := by rw [beq_eq_false_iff_ne]; omega
        have xn16 : ¬ (x : Int) = 16 := by omega
        have hroom : decide ((count : Int) - (n : Int) < 1) = false := by simp; omega
        clear HL2 hX2
        go_wp2_with fail
        refine CR.mono ?_
        rintro e w3 ⟨rfl, rfl⟩
        go_wp2_with fail
        go_loopg [7, 12] 1 (fun gh lv kv wq => ∃ (k m : Nat) (so' : Option Addr) (sc' : Nat), gh = 1 - k ∧ k ≤ 1 ∧ m = n + k ∧ lv = .slice so' m sc' ∧ kv = .int .i64 (k : Int) ∧ Hid (wq.ownsRow (w.heap.size + 1) 3 1 (.slice so' m sc') m (nVals .i64 (D ++ List.replicate k x))) ∧ Hid (StIs wq ib v B q2 mo ov O 0 bv) ∧ Hid (Fr (oneB ib) w0 wq))
        case atStart => exact ⟨0, n, some ⟨gl, 0, none⟩, sc, rfl, Nat.zero_le _, rfl, rfl, rfl, by have hh := HO2.out; unfold OwnN at hh; rw [HN.out] at hh; show World.ownsRow _ _ _ _ _ _ _; simpa using hh, HI2.out, HF2.out⟩
        case round =>
          obtain ⟨k, m, so', sc', rfl, hk, hm', rfl, rfl, HO3, HI3, HF3⟩ := hrel
          have c43 := cellOf (o := 4) HI3.out.at_ rfl
          by_cases hkt : k < 1
          · have hkI : (k : Int) < 1 := by omega
            have hsz3 := HF3.out.size
            have hmb : m ≤ 2048 := by omega
            have HMM : Hid (m = n + k) := hm'
            clear hm'
            go_wp2_with (at_builtin; refine wpList_append_own _ rfl _ _ 73 rfl (w.heap.size + 1) 3 i0 (.int .i64 0) 1 8 Tryd.underlying73 hi hz0 hz1 hz2 rfl (by decide) _ m (nVals .i64 (D ++ List.replicate k x)) rfl (HO3.out.alloc _) ⟨wr.heap.size, 0, none⟩ 1 1 [.int .i64 (x : Int)] rfl rfl (one_srcN wr _ _) (by intro u hu; simp at hu; subst hu; rfl) (by unfold maxLen; omega) (by omega) (by simp; omega) ?_)
            intro v' w4 hown hg _
            have hF4 : Fr (fun b => (Value.slice so' m sc').ownBlock = some b) wr w4 := ((Fr.refl _ wr).alloc (.cells #[.int .i64 (x : Int)] 3 (0, 0))).grown hg (fun k hk => Or.inl hk)
            have HG4 : Hid (Fr (oneB ib) w0 w4) := HF3.out.then hF4 (fun i hi => Or.inr (by have := (own_blk HO3.out i hi).1; omega))
            have HI4 : Hid (StIs w4 ib v B q2 mo ov O 0 bv) := HI3.out.app HO3.out (by omega) hF4
            rw [nVals_app, List.append_assoc, ← List.replicate_succ'] at hown
            obtain ⟨so4, sc4, rfl⟩ := own_formN hown
            have HO4 : Hid (w4.ownsRow (w.heap.size + 1) 3 1 (.slice so4 (m + 1) sc4) (m + 1) (nVals .i64 (D ++ List.replicate (k + 1) x))) := hown
            clear HO3 HI3 HF3 hown hg hF4 c43
            go_wp2_with fail
            go_roundg (1 - (k + 1))
            case measure => omega
            case rel => exact ⟨k + 1, m + 1, so4, sc4, rfl, by omega, by have := HMM.out; omega, rfl, by go_num, HO4, HI4, HG4⟩
          · obtain rfl : k = 1 := by omega
            have hkI : ¬ ((1 : Int)) < 1 := by omega
            have HO5 : Hid (OwnN (w.heap.size + 1) wr so' sc' (D ++ List.replicate 1 x)) := by
              show World.ownsRow _ _ _ _ _ _ _
              have := HO3.out
              rw [hm', ← HN.out] at this
              simpa using this
            have HMM : Hid (m = n + 1) := hm'
            clear HO3 hm'
            go_wp2_with fail
            go_roundg f
            case measure => omega
            case rel => exact ⟨f - 1, q2, 0, D ++ List.replicate 1 x, so', m, sc', by omega, rfl, by have := HMM.out; show _ = _; simp [HN.out]; omega, by have := HMM.out; omega, HI3.out, q2le, HO5.out, HF3.out, Or.inl ⟨rfl, by have := HN.out; simp; omega, by rw [show f - 1 + 1 = f by omega]; exact HNEXT.out⟩⟩
      rw [if_neg h16] at HL2
      have hx18 : x ≤ 18 := by omega
      have hrep : ¬ (x = 16 ∧ D = []) := fun h => HD0.out h.2
      have e1 : repA B q2 x D = (if x = 16 then last else 0, if (bitA B q2 (rpB x)).2.1 = 0 then rpF x + (bitA B q2 (rpB x)).1 else 0, (bitA B q2 (rpB x)).2.1, (bitA B q2 (rpB x)).2.2) := by
        unfold repA
        rw [if_neg hrep, HLAST.out]
        rfl
      rw [e1] at HL2
      simp only at HL2
      have CR := repeated_rep mo ov bv 0 ib v B q2 x last w2 HI2.out.at_ HI2.out.bs HHB.out q2le (by omega) (by omega) hx18
      rw [show rbA B 0 q2 (rpB x) = bitA B q2 (rpB x) from rfl] at CR
      have hbe := bitA_err B q2 (rpB x)
      have hbl := bitA_le B q2 (rpB x) q2le
      have hbx := bitA_lt B q2 (rpB x)
      have hrp : rpF x ≤ 11 ∧ 3 ≤ rpF x := by
        unfold rpF
        split
        · omega
        · split <;> omega
      have hrb : 2 ^ rpB x ≤ 128 := by
        unfold rpB
        split
        · decide
        · split <;> decide
      generalize bitA B q2 (rpB x) = bb at *
      obtain ⟨y, e3, p3⟩ := bb
      simp only at HL2 CR hbe hbl hbx
      obtain ⟨val, hval⟩ : ∃ val, (if x = 16 then last else 0 : Nat) = val := ⟨_, rfl⟩
      rw [hval] at HL2 CR
      obtain ⟨N, hN⟩ : ∃ N, rpF x + y = N := ⟨_, rfl⟩
      rw [hN] at CR
      have p3le : p3 ≤ 8 * B.length := hbl
      have hNb : N ≤ 139 ∧ 3 ≤ N := by omega
      clear e1 hval hrep hX2 hbl hbx hrb hrp
      go_wp2_with fail
      refine CR.mono ?_
      rintro e w3 ⟨rfl, hS3, hF3⟩
      have HI3 : Hid (StIs w3 ib v B p3 mo ov O e3 bv) := HI2.out.rdr hF3 hS3
      have HO3 : Hid (OwnN (w.heap.size + 1) w3 (some ⟨gl, 0, none⟩) sc D) := HO2.out.keep hF3 (fun k hk => by have e' : k = ib := hk; omega)
      have HF3 : Hid (Fr (oneB ib) w0 w3) := HF2.out.trans hF3
      have k43 := cellOf (o := 4) HI3.out.at_ rfl
      clear CR hS3 hF3
      rcases hbe with hbe | hbe
      case inr =>
        subst hbe
        rw [if_pos (by decide)] at HL2
        have HER : Hid (R.1 = 33) := by show _ = _; rw [← HL2]
        clear HL2 hN
        go_wp2_with fail
        go_loopg [7, 12] 0 (fun gh lv kv wq => gh = 0 ∧ wq = w3 ∧ lv = .slice (some ⟨gl, 0, none⟩) n sc ∧ kv = .int .i64 0)
        case atStart => exact ⟨rfl, rfl, rfl, rfl⟩
        case round =>
          obtain ⟨rfl, hw, rfl, rfl⟩ := hrel
          have hw' := hw.symm
          subst hw'
          go_wp2_with fail
          go_roundg f
          case measure => omega
          case rel => exact ⟨f - 1, p3, 33, D, some ⟨gl, 0, none⟩, n, sc, by omega, rfl, HN.out, hDc, HI3.out, p3le, HO3.out, HF3.out, Or.inr ⟨by decide, HER.out⟩⟩
      subst hbe
      rw [if_neg (by simp), if_pos rfl, hN] at HL2
      clear hN
      by_cases hmany : count < n + N
      · rw [if_pos (by rw [HN.out]; exact hmany)] at HL2
        have HER : Hid (R.1 = 30) := by show _ = _; rw [← HL2]
        have hmI : (count : Int) - (n : Int) < (N : Int) := by omega
        have CF := fail_any mo ov bv 0 30 ib v p3 w3 HI3.out.at_
        rw [show erA 0 30 = 30 from rfl] at CF
        clear HL2
        go_wp2_with fail
        refine CF.mono ?_
        rintro e w4 ⟨rfl, hS4, hF4⟩
        have HI4 : Hid (StIs w4 ib v B p3 mo ov O 30 bv) := HI3.out.rdr hF4 hS4
        have HO4 : Hid (OwnN (w.heap.size + 1) w4 (some ⟨gl, 0, none⟩) sc D) := HO3.out.keep hF4 (fun k hk => by have e' : k = ib := hk; omega)
        have HF4 : Hid (Fr (oneB ib) w0 w4) := HF3.out.trans hF4
        have k44 := cellOf (o := 4) HI4.out.at_ rfl
        clear CF hS4 hF4
        go_wp2_with fail
        go_loopg [7, 12] 0 (fun gh lv kv wq => gh = 0 ∧ wq = w4 ∧ lv = .slice (some ⟨gl, 0, none⟩) n sc ∧ kv = .int .i64 0)
        case atStart => exact ⟨rfl, rfl, rfl, rfl⟩
        case round =>
          obtain ⟨rfl, hw, rfl, rfl⟩ := hrel
          have hw' := hw.symm
          subst hw'
          go_wp2_with fail
          go_roundg f
          case measure => omega
          case rel => exact ⟨f - 1, p3, 30, D, some ⟨gl, 0, none⟩, n, sc, by omega, rfl, HN.out, hDc, HI4.out, p3le, HO4.out, HF4.out, Or.inr ⟨by decide, HER.out⟩⟩
      rw [if_neg (by rw [HN.out]; exact hmany)] at HL2
      have HNEXT : Hid (lenA T B count f p3 (D ++ List.replicate N val) = R) := HL2
      have hmI : decide ((count : Int) - (n : Int) < (N : Int)) = false := by simp; omega
      clear HL2
      go_wp2_with fail
      go_loopg [7, 12] N (fun gh lv kv wq => ∃ (k m : Nat) (so' : Option Addr) (sc' : Nat), gh = N - k ∧ k ≤ N ∧ m = n + k ∧ lv = .slice so' m sc' ∧ kv = .int .i64 (k : Int) ∧ Hid (wq.ownsRow (w.heap.size + 1) 3 1 (.slice so' m sc') m (nVals .i64 (D ++ List.replicate k val))) ∧ Hid (StIs wq ib v B p3 mo ov O 0 bv) ∧ Hid (Fr (oneB ib) w0 wq))
      case atStart => exact ⟨0, n, some ⟨gl, 0, none⟩, sc, rfl, Nat.zero_le _, rfl, rfl, rfl, by have hh := HO3.out; unfold OwnN at hh; rw [HN.out] at hh; show World.ownsRow _ _ _ _ _ _ _; simpa using hh, HI3.out, HF3.out⟩
      case round =>
        obtain ⟨k, m, so', sc', rfl, hk, hm', rfl, rfl, HO3, HI3, HF3⟩ := hrel
        have c43 := cellOf (o := 4) HI3.out.at_ rfl
        by_cases hkt : k < N
        · have hkI : (k : Int) < (N : Int) := by omega
          have hsz3 := HF3.out.size
          have hmb : m ≤ 2048 := by omega
          have HMM : Hid (m = n + k) := hm'
          clear hm'
          go_wp2_with (at_builtin; refine wpList_append_own _ rfl _ _ 73 rfl (w.heap.size + 1) 3 i0 (.int .i64 0) 1 8 Tryd.underlying73 hi hz0 hz1 hz2 rfl (by decide) _ m (nVals .i64 (D ++ List.replicate k val)) rfl (HO3.out.alloc _) ⟨wr.heap.size, 0, none⟩ 1 1 [.int .i64 (val : Int)] rfl rfl (one_srcN wr _ _) (by intro u hu; simp at hu; subst hu; rfl) (by unfold maxLen; omega) (by omega) (by simp; omega) ?_)
          intro v' w4 hown hg _
          have hF4 : Fr (fun b => (Value.slice so' m sc').ownBlock = some b) wr w4 := ((Fr.refl _ wr).alloc (.cells #[.int .i64 (val : Int)] 3 (0, 0))).grown hg (fun k hk => Or.inl hk)
          have HG4 : Hid (Fr (oneB ib) w0 w4) := HF3.out.then hF4 (fun i hi => Or.inr (by have := (own_blk HO3.out i hi).1; omega))
          have HI4 : Hid (StIs w4 ib v B p3 mo ov O 0 bv) := HI3.out.app HO3.out (by omega) hF4
          rw [nVals_app, List.append_assoc, ← List.replicate_succ'] at hown
          obtain ⟨so4, sc4, rfl⟩ := own_formN hown
          have HO4 : Hid (w4.ownsRow (w.heap.size + 1) 3 1 (.slice so4 (m + 1) sc4) (m + 1) (nVals .i64 (D ++ List.replicate (k + 1) val))) := hown
          clear HO3 HI3 HF3 hown hg hF4 c43
          go_wp2_with fail
          go_roundg (N - (k + 1))
          case measure => omega
          case rel => exact ⟨k + 1, m + 1, so4, sc4, rfl, by omega, by have := HMM.out; omega, rfl, by go_num, HO4, HI4, HG4⟩
        · obtain rfl : k = N := by omega
          have hkI : ¬ ((k : Int)) < (k : Int) := by omega
          have HO5 : Hid (OwnN (w.heap.size + 1) wr so' sc' (D ++ List.replicate k val)) := by
            show World.ownsRow _ _ _ _ _ _ _
            have := HO3.out
            rw [hm', ← HN.out] at this
            simpa using this
          have HMM : Hid (m = n + k) := hm'
          clear HO3 hm'
          go_wp2_with fail
          go_roundg f
          case measure => omega
          case rel => exact ⟨f - 1, p3, 0, D ++ List.replicate k val, so', m, sc', by omega, rfl, by have := HMM.out; show _ = _; simp [HN.out]; omega, by have := HMM.out; omega, HI3.out, p3le, HO5.out, HF3.out, Or.inl ⟨rfl, by have := HN.out; simp; omega, by rw [show f - 1 + 1 = f by omega]; exact HNEXT.out⟩⟩
#print axioms rlengths_any
end Go.Proofs.YthgnhcdodfildaaDoor
/- The document's dynamic codes: what their contract wants. -/
namespace Go.Proofs.YthgnhcdodfildaaDoor
open Go.RowKit Go.Shelf

/-- The order of the lengths of the code of lengths, as it is built. -/
def ordV : Array Value := #[.int .i64 16, .int .i64 17, .int .i64 18, .int .i64 0, .int .i64 8, .int .i64 7, .int .i64 9, .int .i64 6, .int .i64 10, .int .i64 5, .int .i64 11, .int .i64 4, .int .i64 12, .int .i64 3, .int .i64 13, .int .i64 2, .int .i64 14, .int .i64 1, .int .i64 15]
theorem ord_built0 : Tryd.prog.built 112 [(0, .int .i64 16), (1, .int .i64 17), (2, .int .i64 18), (3, .int .i64 0), (4, .int .i64 8), (5, .int .i64 7), (6, .int .i64 9), (7, .int .i64 6), (8, .int .i64 10), (9, .int .i64 5), (10, .int .i64 11), (11, .int .i64 4), (12, .int .i64 12), (13, .int .i64 3), (14, .int .i64 13), (15, .int .i64 2), (16, .int .i64 14), (17, .int .i64 1), (18, .int .i64 15)] = some ordV := by kernel_rfl
theorem ord_built (a : Act) (parts : Array (Nat × Operand)) (hp : parts = #[(0, .const (.int .i64 16)), (1, .const (.int .i64 17)), (2, .const (.int .i64 18)), (3, .const (.int .i64 0)), (4, .const (.int .i64 8)), (5, .const (.int .i64 7)), (6, .const (.int .i64 9)), (7, .const (.int .i64 6)), (8, .const (.int .i64 10)), (9, .const (.int .i64 5)), (10, .const (.int .i64 11)), (11, .const (.int .i64 4)), (12, .const (.int .i64 12)), (13, .const (.int .i64 3)), (14, .const (.int .i64 13)), (15, .const (.int .i64 2)), (16, .const (.int .i64 14)), (17, .const (.int .i64 1)), (18, .const (.int .i64 15))]) : Tryd.prog.built 112 (parts.map fun (i, x) => (i, a.eval x)).toList = some ordV := by
  have e : (parts.map fun (i, x) => (i, a.eval x)).toList = [(0, .int .i64 16), (1, .int .i64 17), (2, .int .i64 18), (3, .int .i64 0), (4, .int .i64 8), (5, .int .i64 7), (6, .int .i64 9), (7, .int .i64 6), (8, .int .i64 10), (9, .int .i64 5), (10, .int .i64 11), (11, .int .i64 4), (12, .int .i64 12), (13, .int .i64 3), (14, .int .i64 13), (15, .int .i64 2), (16, .int .i64 14), (17, .int .i64 1), (18, .int .i64 15)] := by
    subst hp
    simp [Act.eval]
  rw [e]
  exact ord_built0
theorem wpList_ord {ops : Array Oper} {rest : List Oper} {o : Oper} {a : Act} {w : World} {Q : Exit → Act → World → Prop} (hg : o.guard = none) (parts : Array (Nat × Operand)) (ho : o.op = .build 112 parts) (hp : parts = #[(0, .const (.int .i64 16)), (1, .const (.int .i64 17)), (2, .const (.int .i64 18)), (3, .const (.int .i64 0)), (4, .const (.int .i64 8)), (5, .const (.int .i64 7)), (6, .const (.int .i64 9)), (7, .const (.int .i64 6)), (8, .const (.int .i64 10)), (9, .const (.int .i64 5)), (10, .const (.int .i64 11)), (11, .const (.int .i64 4)), (12, .const (.int .i64 12)), (13, .const (.int .i64 3)), (14, .const (.int .i64 13)), (15, .const (.int .i64 2)), (16, .const (.int .i64 14)), (17, .const (.int .i64 1)), (18, .const (.int .i64 15))])
    (h : wpList Tryd.prog ops Q rest (a.put o.dst (.agg ordV)) w) : wpList Tryd.prog ops Q (o :: rest) a w := by
  have e := ord_built a parts hp
  refine wpList_build hg 112 parts ho (by rw [e]; rfl) ?_
  rw [e]
  exact h
theorem ordV_size : (Tryd.prog.info? 112).map (·.size) = some ordV.size := by kernel_rfl
theorem ordV_one : ordV.all (·.oneCell') = true := by kernel_rfl
theorem ordV_at (i : Nat) (h : i < 19) : ordV[i]? = some (.int .i64 ((ordr i : Nat) : Int)) := by
  have : ∀ i, i < 19 → ordV[i]? = some (.int .i64 ((ordr i : Nat) : Int)) := by
    intro i hi
    have hi' : i = 0 ∨ i = 1 ∨ i = 2 ∨ i = 3 ∨ i = 4 ∨ i = 5 ∨ i = 6 ∨ i = 7 ∨ i = 8 ∨ i = 9 ∨ i = 10 ∨ i = 11 ∨ i = 12 ∨ i = 13 ∨ i = 14 ∨ i = 15 ∨ i = 16 ∨ i = 17 ∨ i = 18 := by omega
    rcases hi' with rfl | rfl | rfl | rfl | rfl | rfl | rfl | rfl | rfl | rfl | rfl | rfl | rfl | rfl | rfl | rfl | rfl | rfl | rfl <;> rfl
  exact this i h
theorem colL_le (B : List Nat) (q k : Nat) : ∀ x ∈ colL B q k, x ≤ 7 := by
  induction k with
  | zero => intro x hx; simp [colL] at hx; omega
  | succ k ih =>
    intro x hx
    unfold colL at hx
    rcases List.mem_or_eq_of_mem_set hx with h | h
    · exact ih x h
    · have := numAt_lt B (q + 3 * k) 3
      omega
theorem lenA_le (T B : List Nat) (count : Nat) : ∀ (f p : Nat) (D : List Nat), (∀ x ∈ D, x ≤ 15) → ∀ x ∈ (lenA T B count f p D).2.2, x ≤ 15 := by
  intro f
  induction f with
  | zero => intro p D h; exact h
  | succ f ih =>
    intro p D h
    unfold lenA
    split
    · exact h
    · split
      · exact h
      · split
        · rename_i h16
          refine ih _ _ (fun x hx => ?_)
          rcases List.mem_append.1 hx with hx | hx
          · exact h x hx
          · simp at hx
            omega
        · split
          · exact h
          · split
            · exact h
            · refine ih _ _ (fun x hx => ?_)
              rcases List.mem_append.1 hx with hx | hx
              · exact h x hx
              · have hx' := List.eq_of_mem_replicate hx
                rw [hx']
                unfold repA
                split
                · simp
                · simp only
                  split
                  · cases hD : D with
                    | nil => simp
                    | cons y ys =>
                      rw [← hD]
                      have : D.getLastD 0 ∈ D := by
                        rw [hD, List.getLastD_cons]
                        exact List.getLastD_mem_cons
                      exact h _ this
                  · omega
/-- The head of a dynamic block. -/
def hLit (B : List Nat) (p : Nat) : Nat := numAt B p 14 % 32 + 257
def hDis (B : List Nat) (p : Nat) : Nat := numAt B p 14 / 32 % 32 + 1
def hMny (B : List Nat) (p : Nat) : Nat := numAt B p 14 / 1024 + 4
def hCol (B : List Nat) (p : Nat) : List Nat := colL B (p + 14) (hMny B p)
def hLen (B : List Nat) (p : Nat) : Nat × Nat × List Nat := lenA (hCol B p) B (hLit B p + hDis B p) (hLit B p + hDis B p + 1) (p + 14 + 3 * hMny B p) []
/-- The two codes of a dynamic block: the error, the place behind, the codes. -/
def hdA (B : List Nat) (p : Nat) : Nat × Nat × List Nat × List Nat :=
  if 8 * B.length < p + 14 then (33, p, [], [])
  else if 286 < hLit B p ∨ 30 < hDis B p then (30, p, [], [])
  else if 8 * B.length < p + 14 + 3 * hMny B p then (33, p, [], [])
  else if chk (up (hCol B p)) ≠ 0 then (31, p, [], [])
  else if (hLen B p).1 ≠ 0 then ((hLen B p).1, p, [], [])
  else if (hLen B p).2.2.getD 256 0 = 0 then (30, p, [], [])
  else if chk (up ((hLen B p).2.2.take (hLit B p))) ≠ 0 ∨ chk (up ((hLen B p).2.2.drop (hLit B p))) ≠ 0 then (31, p, [], [])
  else (0, (hLen B p).2.1, (hLen B p).2.2.take (hLit B p), (hLen B p).2.2.drop (hLit B p))
theorem dynA_hd (B : List Nat) (most : Int) (F p : Nat) (sd : List Nat) : dynA B most F p sd = if (hdA B p).1 ≠ 0 then ((hdA B p).1, p, sd) else symsA (hdA B p).2.2.1 (hdA B p).2.2.2 B most F (hdA B p).2.1 sd := by
  unfold dynA hdA hLen hCol hLit hDis hMny
  by_cases c1 : 8 * B.length < p + 14
  · rw [if_pos c1, if_pos c1, if_pos (by simp)]
  rw [if_neg c1, if_neg c1]
  by_cases c2 : 286 < numAt B p 14 % 32 + 257 ∨ 30 < numAt B p 14 / 32 % 32 + 1
  · rw [if_pos c2, if_pos c2, if_pos (by simp)]
  rw [if_neg c2, if_neg c2]
  by_cases c3 : 8 * B.length < p + 14 + 3 * (numAt B p 14 / 1024 + 4)
  · rw [if_pos c3, if_pos c3, if_pos (by simp)]
  rw [if_neg c3, if_neg c3]
  by_cases c4 : chk (up (colL B (p + 14) (numAt B p 14 / 1024 + 4))) ≠ 0
  · rw [if_pos c4, if_pos c4, if_pos (by simp)]
  rw [if_neg c4, if_neg c4]
  generalize lenA (colL B (p + 14) (numAt B p 14 / 1024 + 4)) B (numAt B p 14 % 32 + 257 + (numAt B p 14 / 32 % 32 + 1)) (numAt B p 14 % 32 + 257 + (numAt B p 14 / 32 % 32 + 1) + 1) (p + 14 + 3 * (numAt B p 14 / 1024 + 4)) [] = L
  by_cases c5 : L.1 ≠ 0
  · rw [if_pos c5, if_pos c5, if_pos (by simpa using c5)]
  rw [if_neg c5, if_neg c5]
  by_cases c6 : L.2.2.getD 256 0 = 0
  · rw [if_pos c6, if_pos c6, if_pos (by simp)]
  rw [if_neg c6, if_neg c6]
  by_cases c7 : chk (up (L.2.2.take (numAt B p 14 % 32 + 257))) ≠ 0 ∨ chk (up (L.2.2.drop (numAt B p 14 % 32 + 257))) ≠ 0
  · rw [if_pos c7, if_pos c7, if_pos (by simp)]
  rw [if_neg c7, if_neg c7, if_neg (by simp)]
theorem head14 (B : List Nat) (p : Nat) : hLit B p = numAt B p 5 + 257 ∧ hDis B p = numAt B (p + 5) 5 + 1 ∧ hMny B p = numAt B (p + 5 + 5) 4 + 4 := by
  have e1 := numAt_add B p 5 9
  have e2 := numAt_add B (p + 5) 5 4
  have l1 := numAt_lt B p 5
  have l2 := numAt_lt B (p + 5) 5
  unfold hLit hDis hMny
  rw [show (14 : Nat) = 5 + 9 from rfl, e1, show (9 : Nat) = 5 + 4 from rfl, e2]
  omega
#print axioms dynA_hd
#print axioms wpList_ord
end Go.Proofs.YthgnhcdodfildaaDoor
