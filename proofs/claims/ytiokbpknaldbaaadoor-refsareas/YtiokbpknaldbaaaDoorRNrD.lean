/- The document's ends, Size, Has and Common. -/
import Derived.Test.YtiokbpknaldbaaaDoorRNrm
namespace Go.Proofs.YtiokbpknaldbaaaDoor
open Go.RowKit Go.Shelf

set_option maxRecDepth 100000 in
set_option maxHeartbeats 2000000 in
theorem rends_any (t u : ByteArray) (fx ar : Bool) (r1 c1 : Int) (x1 y1 : Bool) (r2 c2 : Int) (x2 y2 : Bool) (w : World) :
    Calls Tryd.prog 24 #[(.agg #[.string t, .string u, .bool fx, .bool ar, .int .i64 r1, .int .i64 c1, .bool x1, .bool y1, .int .i64 r2, .int .i64 c2, .bool x2, .bool y2])] w fun e w' => e = .returned (.tuple #[.int .i64 (loI ar r1 r2), .int .i64 (loI ar c1 c2), .int .i64 (hiI ar r1 r2), .int .i64 (hiI ar c1 c2)]) ∧ Fr noB w w' := by
  have HN := rnorm_any t u fx ar r1 c1 x1 y1 r2 c2 x2 y2
  obtain ⟨W0, hW0⟩ : ∃ W0, w.alloc (.cells #[.string t, .string u, .bool fx, .bool ar, .int .i64 r1, .int .i64 c1, .bool x1, .bool y1, .int .i64 r2, .int .i64 c2, .bool x2, .bool y2] 25 (0, 0)) = W0 := ⟨_, rfl⟩
  have hA0 : RAt W0 w.heap.size t u fx ar r1 c1 x1 y1 r2 c2 x2 y2 := ⟨by rw [← hW0]; exact alloc_last _ _ _ rfl⟩
  have HF0 : Hid (Fr noB w W0) := by
    show Fr noB w W0
    rw [← hW0]; exact (Fr.refl noB w).alloc _
  cases ar with
  | false =>
    have HV : Hid (loI false r1 r2 = r1 ∧ loI false c1 c2 = c1 ∧ hiI false r1 r2 = r1 ∧ hiI false c1 c2 = c1) := by
      refine ⟨?_, ?_, ?_, ?_⟩ <;> simp [loI, hiI, othr]
    have g0 := hA0.g0; have g1 := hA0.g1; have g2 := hA0.g2; have g3 := hA0.g3; have g4 := hA0.g4; have g5 := hA0.g5; have g6 := hA0.g6; have g7 := hA0.g7; have g8 := hA0.g8; have g9 := hA0.g9; have g10 := hA0.g10; have g11 := hA0.g11
    clear hA0
    go_enter Tryd.func24, Tryd.ntmps24
    go_wp2_with fail
    go_quiet (fail)
    go_wp2_with fail
    obtain ⟨v1, v2, v3, v4⟩ := HV.out
    rw [v1, v2, v3, v4]
    exact bodyPost_ret (v := .tuple #[.int .i64 r1, .int .i64 c1, .int .i64 r1, .int .i64 c1]) (by kernel_rfl) rfl ⟨rfl, HF0.out.drewN _⟩
  | true =>
    simp only [nrmV, pk_lo, pk_hi] at HN
    generalize loI true r1 r2 = lr at *
    generalize loI true c1 c2 = lc at *
    generalize hiI true r1 r2 = hr at *
    generalize hiI true c1 c2 = hc at *
    generalize pkB (swB true r1 r2) x1 x2 = f1 at *
    generalize pkB (swB true c1 c2) y1 y2 = f2 at *
    generalize pkB (swB true r1 r2) x2 x1 = f3 at *
    generalize pkB (swB true c1 c2) y2 y1 = f4 at *
    have HA : Hid _ := hA0
    have g0 := hA0.g0; have g1 := hA0.g1; have g2 := hA0.g2; have g3 := hA0.g3; have g4 := hA0.g4; have g5 := hA0.g5; have g6 := hA0.g6; have g7 := hA0.g7; have g8 := hA0.g8; have g9 := hA0.g9; have g10 := hA0.g10; have g11 := hA0.g11
    clear hA0
    go_enter Tryd.func24, Tryd.ntmps24
    go_wp2_with (go_at_call 13; refine (HN _).mono ?_; rintro e w1 ⟨rfl, hF1⟩; clear g0 g1 g2 g3 g4 g5 g6 g7 g8 g9 g10 g11; have hA1 := HA.out.fr hF1 id; have k0 := hA1.g0; have k1 := hA1.g1; have k2 := hA1.g2; have k3 := hA1.g3; have k4 := hA1.g4; have k5 := hA1.g5; have k6 := hA1.g6; have k7 := hA1.g7; have k8 := hA1.g8; have k9 := hA1.g9; have k10 := hA1.g10; have k11 := hA1.g11; have kf := hA1.f)
    have hA2 := hA1.all t u fx true lr lc f1 f2 hr hc f3 f4
    have hF2 := (HF0.out.trans hF1).all (Or.inr (Nat.le_refl _)) t u fx true lr lc f1 f2 hr hc f3 f4
    clear k0 k1 k2 k3 k4 k5 k6 k7 k8 k9 k10 k11 kf hA1 HA
    generalize World.setCell _ ⟨_, 11, none⟩ _ = W2 at *
    have HF2 : Hid _ := hF2
    clear hF2 hF1
    have g0 := hA2.g0; have g1 := hA2.g1; have g2 := hA2.g2; have g3 := hA2.g3; have g4 := hA2.g4; have g5 := hA2.g5; have g6 := hA2.g6; have g7 := hA2.g7; have g8 := hA2.g8; have g9 := hA2.g9; have g10 := hA2.g10; have g11 := hA2.g11
    clear hA2
    go_quiet (fail)
    go_wp2_with fail
    exact bodyPost_ret (v := .tuple #[.int .i64 lr, .int .i64 lc, .int .i64 hr, .int .i64 hc]) (by kernel_rfl) rfl ⟨rfl, HF2.out.drewN _⟩
set_option maxRecDepth 100000 in
set_option maxHeartbeats 2000000 in
theorem rsize_any (t u : ByteArray) (fx ar : Bool) (r1 c1 : Int) (x1 y1 : Bool) (r2 c2 : Int) (x2 y2 : Bool) (w : World) :
    Calls Tryd.prog 9 #[(.agg #[.string t, .string u, .bool fx, .bool ar, .int .i64 r1, .int .i64 c1, .bool x1, .bool y1, .int .i64 r2, .int .i64 c2, .bool x2, .bool y2])] w fun e w' => e = .returned (.tuple #[.int .i64 (szI ar r1 r2), .int .i64 (szI ar c1 c2)]) ∧ Fr noB w w' := by
  have HE := rends_any t u fx ar r1 c1 x1 y1 r2 c2 x2 y2
  unfold szI
  generalize loI ar r1 r2 = lr at *
  generalize loI ar c1 c2 = lc at *
  generalize hiI ar r1 r2 = hr at *
  generalize hiI ar c1 c2 = hc at *
  have hF0 : Fr noB w (w.alloc (.cells #[.string t, .string u, .bool fx, .bool ar, .int .i64 r1, .int .i64 c1, .bool x1, .bool y1, .int .i64 r2, .int .i64 c2, .bool x2, .bool y2] 25 (0, 0))) := (Fr.refl noB w).alloc _
  have HF0 : Hid _ := hF0
  clear hF0
  go_enter Tryd.func9, Tryd.ntmps9
  go_wp2_with (go_at_call 24; refine (HE _).mono ?_; rintro e w1 ⟨rfl, hF1⟩)
  go_ret2
  exact ⟨rfl, HF0.out.trans hF1⟩
theorem hasF_is (ar : Bool) (r1 c1 r2 c2 r c : Int) : hasF ar r1 c1 r2 c2 r c = (decide (loI ar r1 r2 ≤ r) && (decide (r ≤ hiI ar r1 r2) && (decide (loI ar c1 c2 ≤ c) && decide (c ≤ hiI ar c1 c2)))) := by
  unfold hasF
  cases decide (loI ar r1 r2 ≤ r) <;> cases decide (loI ar c1 c2 ≤ c) <;> cases decide (r ≤ hiI ar r1 r2) <;> cases decide (c ≤ hiI ar c1 c2) <;> rfl
set_option maxRecDepth 100000 in
set_option maxHeartbeats 2000000 in
theorem rhas_any (t u : ByteArray) (fx ar : Bool) (r1 c1 : Int) (x1 y1 : Bool) (r2 c2 : Int) (x2 y2 : Bool) (r c : Int) (w : World) :
    Calls Tryd.prog 15 #[(.agg #[.string t, .string u, .bool fx, .bool ar, .int .i64 r1, .int .i64 c1, .bool x1, .bool y1, .int .i64 r2, .int .i64 c2, .bool x2, .bool y2]), .agg #[.int .i64 r, .int .i64 c]] w fun e w' => e = .returned (.bool (hasF ar r1 c1 r2 c2 r c)) ∧ Fr noB w w' := by
  have HE := rends_any t u fx ar r1 c1 x1 y1 r2 c2 x2 y2
  rw [hasF_is]
  generalize loI ar r1 r2 = lr at *
  generalize loI ar c1 c2 = lc at *
  generalize hiI ar r1 r2 = hr at *
  generalize hiI ar c1 c2 = hc at *
  have hC0 : CAt ((w.alloc (.cells #[.string t, .string u, .bool fx, .bool ar, .int .i64 r1, .int .i64 c1, .bool x1, .bool y1, .int .i64 r2, .int .i64 c2, .bool x2, .bool y2] 25 (0, 0))).alloc (.cells #[.int .i64 r, .int .i64 c] 32 (0, 0))) (w.heap.size + 1) r c := ⟨alloc_last _ _ _ (by simp)⟩
  have hF0 : Fr noB w ((w.alloc (.cells #[.string t, .string u, .bool fx, .bool ar, .int .i64 r1, .int .i64 c1, .bool x1, .bool y1, .int .i64 r2, .int .i64 c2, .bool x2, .bool y2] 25 (0, 0))).alloc (.cells #[.int .i64 r, .int .i64 c] 32 (0, 0))) := ((Fr.refl noB w).alloc _).alloc _
  have HH : Hid _ := And.intro hC0 hF0
  clear hC0 hF0
  by_cases h1 : lr ≤ r
  · by_cases h2 : r ≤ hr
    · by_cases h3 : lc ≤ c
      · by_cases h4 : c ≤ hc
        all_goals
          go_enter Tryd.func15, Tryd.ntmps15
          go_wp2_with (go_at_call 24; refine (HE _).mono ?_; rintro e w1 ⟨rfl, hF1⟩; have hC1 := HH.out.1.fr hF1 id; have k0 := hC1.c0; have k1 := hC1.c1)
          go_ret
          exact ⟨ret_bool (by simp [h1, h2, h3, h4]), HH.out.2.trans hF1⟩
      · go_enter Tryd.func15, Tryd.ntmps15
        go_wp2_with (go_at_call 24; refine (HE _).mono ?_; rintro e w1 ⟨rfl, hF1⟩; have hC1 := HH.out.1.fr hF1 id; have k0 := hC1.c0; have k1 := hC1.c1)
        go_ret
        exact ⟨ret_bool (by rw [decide_eq_false (show ¬ lc ≤ c by omega)]; simp), HH.out.2.trans hF1⟩
    · go_enter Tryd.func15, Tryd.ntmps15
      go_wp2_with (go_at_call 24; refine (HE _).mono ?_; rintro e w1 ⟨rfl, hF1⟩; have hC1 := HH.out.1.fr hF1 id; have k0 := hC1.c0; have k1 := hC1.c1)
      go_ret
      exact ⟨ret_bool (by rw [decide_eq_false (show ¬ r ≤ hr by omega)]; simp), HH.out.2.trans hF1⟩
  · go_enter Tryd.func15, Tryd.ntmps15
    go_wp2_with (go_at_call 24; refine (HE _).mono ?_; rintro e w1 ⟨rfl, hF1⟩; have hC1 := HH.out.1.fr hF1 id; have k0 := hC1.c0; have k1 := hC1.c1)
    go_ret
    exact ⟨ret_bool (by rw [decide_eq_false (show ¬ lr ≤ r by omega)]; simp), HH.out.2.trans hF1⟩
theorem com_no (t u : ByteArray) (fx : Bool) (T L D E : Int) (h : D < T ∨ E < L) : comV t u fx ⟨T, L, D, E⟩ = .tuple #[(.agg #[.string ⟨#[]⟩, .string ⟨#[]⟩, .bool false, .bool false, .int .i64 0, .int .i64 0, .bool false, .bool false, .int .i64 0, .int .i64 0, .bool false, .bool false]), .bool false] := by
  unfold comV Box.some
  rw [if_neg]
  simp only [Bool.and_eq_true, decide_eq_true_eq]
  omega
theorem com_one (t u : ByteArray) (fx : Bool) (T L : Int) : comV t u fx ⟨T, L, T, L⟩ = .tuple #[(.agg #[.string t, .string u, .bool fx, .bool false, .int .i64 T, .int .i64 L, .bool false, .bool false, .int .i64 0, .int .i64 0, .bool false, .bool false]), .bool true] := by
  unfold comV Box.some Box.one
  rw [if_pos (by simp), if_pos (by simp)]
theorem com_two (t u : ByteArray) (fx : Bool) (T L D E : Int) (h1 : T ≤ D) (h2 : L ≤ E) (h : ¬ T = D ∨ ¬ L = E) : comV t u fx ⟨T, L, D, E⟩ = .tuple #[(.agg #[.string t, .string u, .bool fx, .bool true, .int .i64 T, .int .i64 L, .bool false, .bool false, .int .i64 D, .int .i64 E, .bool false, .bool false]), .bool true] := by
  unfold comV Box.some Box.one
  rw [if_pos (by simp [h1, h2]), if_neg (by simp only [Bool.and_eq_true, decide_eq_true_eq]; omega)]
set_option maxRecDepth 100000 in
set_option maxHeartbeats 4000000 in
theorem rcommon_any (t u : ByteArray) (fx ar : Bool) (r1 c1 : Int) (x1 y1 : Bool) (r2 c2 : Int) (x2 y2 : Bool) (t2 u2 : ByteArray) (gx br : Bool) (s1 d1 : Int) (z1 v1 : Bool) (s2 d2 : Int) (z2 v2 : Bool) (w : World) :
    Calls Tryd.prog 11 #[(.agg #[.string t, .string u, .bool fx, .bool ar, .int .i64 r1, .int .i64 c1, .bool x1, .bool y1, .int .i64 r2, .int .i64 c2, .bool x2, .bool y2]), (.agg #[.string t2, .string u2, .bool gx, .bool br, .int .i64 s1, .int .i64 d1, .bool z1, .bool v1, .int .i64 s2, .int .i64 d2, .bool z2, .bool v2])] w fun e w' => e = .returned (comV t u fx (boxF ar br r1 c1 r2 c2 s1 d1 s2 d2)) ∧ Fr noB w w' := by
  have HE1 := rends_any t u fx ar r1 c1 x1 y1 r2 c2 x2 y2
  have HE2 := rends_any t2 u2 gx br s1 d1 z1 v1 s2 d2 z2 v2
  unfold boxF
  generalize loI ar r1 r2 = lr at *
  generalize loI ar c1 c2 = lc at *
  generalize hiI ar r1 r2 = hr at *
  generalize hiI ar c1 c2 = hc at *
  generalize loI br s1 s2 = mr at *
  generalize loI br d1 d2 = mc at *
  generalize hiI br s1 s2 = nr at *
  generalize hiI br d1 d2 = nc at *
  obtain ⟨T, hT⟩ : ∃ T, max lr mr = T := ⟨_, rfl⟩
  obtain ⟨L, hL⟩ : ∃ L, max lc mc = L := ⟨_, rfl⟩
  obtain ⟨D, hD⟩ : ∃ D, min hr nr = D := ⟨_, rfl⟩
  obtain ⟨E, hE⟩ : ∃ E, min hc nc = E := ⟨_, rfl⟩
  rw [hT, hL, hD, hE]
  obtain ⟨W0, hW0⟩ : ∃ W0, ((w.alloc (.cells #[.string t, .string u, .bool fx, .bool ar, .int .i64 r1, .int .i64 c1, .bool x1, .bool y1, .int .i64 r2, .int .i64 c2, .bool x2, .bool y2] 25 (0, 0))).alloc (.cells #[.string t2, .string u2, .bool gx, .bool br, .int .i64 s1, .int .i64 d1, .bool z1, .bool v1, .int .i64 s2, .int .i64 d2, .bool z2, .bool v2] 25 (0, 0))).alloc (.cells #[.string ⟨#[]⟩, .string ⟨#[]⟩, .bool false, .bool false, .int .i64 0, .int .i64 0, .bool false, .bool false, .int .i64 0, .int .i64 0, .bool false, .bool false] 25 (0, 0)) = W0 := ⟨_, rfl⟩
  have hA0 : RAt W0 w.heap.size t u fx ar r1 c1 x1 y1 r2 c2 x2 y2 := ⟨by rw [← hW0]; exact alloc_old (alloc_old (alloc_last _ _ _ rfl))⟩
  have hB0 : RAt W0 (w.heap.size + 1) t2 u2 gx br s1 d1 z1 v1 s2 d2 z2 v2 := ⟨by rw [← hW0]; exact alloc_old (alloc_last _ _ _ (by simp))⟩
  have hO0 : RAt W0 (w.heap.size + 1 + 1) ⟨#[]⟩ ⟨#[]⟩ false false 0 0 false false 0 0 false false := ⟨by rw [← hW0]; exact alloc_last _ _ _ (by simp)⟩
  have hF0 : Fr noB w W0 := by rw [← hW0]; exact (((Fr.refl noB w).alloc _).alloc _).alloc _
  have HB : Hid (∀ w1 : World, Fr noB W0 w1 → RAt w1 (w.heap.size + 1) t2 u2 gx br s1 d1 z1 v1 s2 d2 z2 v2) := fun w1 h => hB0.fr h id
  have HM : Hid (∀ w1 w2 : World, Fr noB W0 w1 → Fr noB w1 w2 → RAt w2 w.heap.size t u fx ar r1 c1 x1 y1 r2 c2 x2 y2 ∧ RAt w2 (w.heap.size + 1 + 1) ⟨#[]⟩ ⟨#[]⟩ false false 0 0 false false 0 0 false false ∧ Fr noB w w2) := fun w1 w2 h1 h2 => by
    have g := h1.trans h2
    exact ⟨hA0.fr g id, hO0.fr g id, hF0.trans g⟩
  have g0 := hA0.g0; have g1 := hA0.g1; have g2 := hA0.g2; have g3 := hA0.g3; have g4 := hA0.g4; have g5 := hA0.g5; have g6 := hA0.g6; have g7 := hA0.g7; have g8 := hA0.g8; have g9 := hA0.g9; have g10 := hA0.g10; have g11 := hA0.g11
  clear hA0 hB0 hO0 hF0
  by_cases hTD : D < T
  · rw [com_no t u fx T L D E (Or.inl hTD)]
    go_enter Tryd.func11, Tryd.ntmps11
    go_wp2_with (first
    | (go_at_call 24; (with_reducible refine (HE1 _).mono ?_); rintro e w1 ⟨rfl, hF1⟩; have hB1 := HB.out _ hF1; have k0 := hB1.g0; have k1 := hB1.g1; have k2 := hB1.g2; have k3 := hB1.g3; have k4 := hB1.g4; have k5 := hB1.g5; have k6 := hB1.g6; have k7 := hB1.g7; have k8 := hB1.g8; have k9 := hB1.g9; have k10 := hB1.g10; have k11 := hB1.g11; clear HE1)
    | (go_at_call 24; (with_reducible refine (HE2 _).mono ?_); rintro e w2 ⟨rfl, hF2⟩; clear hB1 k0 k1 k2 k3 k4 k5 k6 k7 k8 k9 k10 k11; obtain ⟨hA2, hO2, hF3⟩ := HM.out _ _ hF1 hF2; have hk : w.heap.size + 1 + 1 < w2.heap.size := lt_of_block hO2.o; have o0 := hO2.g0; have o1 := hO2.g1; have o2 := hO2.g2; have o3 := hO2.g3; have o4 := hO2.g4; have o5 := hO2.g5; have o6 := hO2.g6; have o7 := hO2.g7; have o8 := hO2.g8; have o9 := hO2.g9; have o10 := hO2.g10; have o11 := hO2.g11; have of := hO2.f))
    exact bodyPost_ret (rret2 Tryd.results11 _ _ (w.heap.size + 1 + 1) rfl rfl (hO2.all _ _ _ _ _ _ _ _ _ _ _ _)) rfl ⟨rfl, (hF3).all (Or.inr (by omega)) _ _ _ _ _ _ _ _ _ _ _ _⟩
  · by_cases hLE : E < L
    · rw [com_no t u fx T L D E (Or.inr hLE)]
      go_enter Tryd.func11, Tryd.ntmps11
      go_wp2_with (first
    | (go_at_call 24; (with_reducible refine (HE1 _).mono ?_); rintro e w1 ⟨rfl, hF1⟩; have hB1 := HB.out _ hF1; have k0 := hB1.g0; have k1 := hB1.g1; have k2 := hB1.g2; have k3 := hB1.g3; have k4 := hB1.g4; have k5 := hB1.g5; have k6 := hB1.g6; have k7 := hB1.g7; have k8 := hB1.g8; have k9 := hB1.g9; have k10 := hB1.g10; have k11 := hB1.g11; clear HE1)
    | (go_at_call 24; (with_reducible refine (HE2 _).mono ?_); rintro e w2 ⟨rfl, hF2⟩; clear hB1 k0 k1 k2 k3 k4 k5 k6 k7 k8 k9 k10 k11; obtain ⟨hA2, hO2, hF3⟩ := HM.out _ _ hF1 hF2; have hk : w.heap.size + 1 + 1 < w2.heap.size := lt_of_block hO2.o; have o0 := hO2.g0; have o1 := hO2.g1; have o2 := hO2.g2; have o3 := hO2.g3; have o4 := hO2.g4; have o5 := hO2.g5; have o6 := hO2.g6; have o7 := hO2.g7; have o8 := hO2.g8; have o9 := hO2.g9; have o10 := hO2.g10; have o11 := hO2.g11; have of := hO2.f))
      exact bodyPost_ret (rret2 Tryd.results11 _ _ (w.heap.size + 1 + 1) rfl rfl (hO2.all _ _ _ _ _ _ _ _ _ _ _ _)) rfl ⟨rfl, (hF3).all (Or.inr (by omega)) _ _ _ _ _ _ _ _ _ _ _ _⟩
    · by_cases hTe : T = D
      · by_cases hLe : L = E
        · obtain rfl := hTe
          obtain rfl := hLe
          rw [com_one]
          go_enter Tryd.func11, Tryd.ntmps11
          go_wp2_with (first
    | (go_at_call 24; (with_reducible refine (HE1 _).mono ?_); rintro e w1 ⟨rfl, hF1⟩; have hB1 := HB.out _ hF1; have k0 := hB1.g0; have k1 := hB1.g1; have k2 := hB1.g2; have k3 := hB1.g3; have k4 := hB1.g4; have k5 := hB1.g5; have k6 := hB1.g6; have k7 := hB1.g7; have k8 := hB1.g8; have k9 := hB1.g9; have k10 := hB1.g10; have k11 := hB1.g11; clear HE1)
    | (go_at_call 24; (with_reducible refine (HE2 _).mono ?_); rintro e w2 ⟨rfl, hF2⟩; clear hB1 k0 k1 k2 k3 k4 k5 k6 k7 k8 k9 k10 k11; obtain ⟨hA2, hO2, hF3⟩ := HM.out _ _ hF1 hF2; have hk : w.heap.size + 1 + 1 < w2.heap.size := lt_of_block hO2.o; have a0 := hA2.g0; have a1 := hA2.g1; have a2 := hA2.g2; have o0 := hO2.g0; have o1 := hO2.g1; have o2 := hO2.g2; have o3 := hO2.g3; have o4 := hO2.g4; have o5 := hO2.g5; have o6 := hO2.g6; have o7 := hO2.g7; have o8 := hO2.g8; have o9 := hO2.g9; have o10 := hO2.g10; have o11 := hO2.g11; have of := hO2.f))
          exact bodyPost_ret (rret2 Tryd.results11 _ _ (w.heap.size + 1 + 1) rfl rfl ⟨alloc_old (hO2.all _ _ _ _ _ _ _ _ _ _ _ _).o⟩) rfl ⟨rfl, (hF3.all (Or.inr (by omega)) _ _ _ _ _ _ _ _ _ _ _ _).alloc _⟩
        · obtain rfl := hTe
          rw [com_two t u fx T L T E (by omega) (by omega) (Or.inr hLe)]
          go_enter Tryd.func11, Tryd.ntmps11
          go_wp2_with (first
    | (go_at_call 24; (with_reducible refine (HE1 _).mono ?_); rintro e w1 ⟨rfl, hF1⟩; have hB1 := HB.out _ hF1; have k0 := hB1.g0; have k1 := hB1.g1; have k2 := hB1.g2; have k3 := hB1.g3; have k4 := hB1.g4; have k5 := hB1.g5; have k6 := hB1.g6; have k7 := hB1.g7; have k8 := hB1.g8; have k9 := hB1.g9; have k10 := hB1.g10; have k11 := hB1.g11; clear HE1)
    | (go_at_call 24; (with_reducible refine (HE2 _).mono ?_); rintro e w2 ⟨rfl, hF2⟩; clear hB1 k0 k1 k2 k3 k4 k5 k6 k7 k8 k9 k10 k11; obtain ⟨hA2, hO2, hF3⟩ := HM.out _ _ hF1 hF2; have hk : w.heap.size + 1 + 1 < w2.heap.size := lt_of_block hO2.o; have a0 := hA2.g0; have a1 := hA2.g1; have a2 := hA2.g2; have o0 := hO2.g0; have o1 := hO2.g1; have o2 := hO2.g2; have o3 := hO2.g3; have o4 := hO2.g4; have o5 := hO2.g5; have o6 := hO2.g6; have o7 := hO2.g7; have o8 := hO2.g8; have o9 := hO2.g9; have o10 := hO2.g10; have o11 := hO2.g11; have of := hO2.f))
          exact bodyPost_ret (rret2 Tryd.results11 _ _ (w.heap.size + 1 + 1) rfl rfl ⟨alloc_old (hO2.all _ _ _ _ _ _ _ _ _ _ _ _).o⟩) rfl ⟨rfl, (hF3.all (Or.inr (by omega)) _ _ _ _ _ _ _ _ _ _ _ _).alloc _⟩
      · rw [com_two t u fx T L D E (by omega) (by omega) (Or.inl hTe)]
        go_enter Tryd.func11, Tryd.ntmps11
        go_wp2_with (first
    | (go_at_call 24; (with_reducible refine (HE1 _).mono ?_); rintro e w1 ⟨rfl, hF1⟩; have hB1 := HB.out _ hF1; have k0 := hB1.g0; have k1 := hB1.g1; have k2 := hB1.g2; have k3 := hB1.g3; have k4 := hB1.g4; have k5 := hB1.g5; have k6 := hB1.g6; have k7 := hB1.g7; have k8 := hB1.g8; have k9 := hB1.g9; have k10 := hB1.g10; have k11 := hB1.g11; clear HE1)
    | (go_at_call 24; (with_reducible refine (HE2 _).mono ?_); rintro e w2 ⟨rfl, hF2⟩; clear hB1 k0 k1 k2 k3 k4 k5 k6 k7 k8 k9 k10 k11; obtain ⟨hA2, hO2, hF3⟩ := HM.out _ _ hF1 hF2; have hk : w.heap.size + 1 + 1 < w2.heap.size := lt_of_block hO2.o; have a0 := hA2.g0; have a1 := hA2.g1; have a2 := hA2.g2; have o0 := hO2.g0; have o1 := hO2.g1; have o2 := hO2.g2; have o3 := hO2.g3; have o4 := hO2.g4; have o5 := hO2.g5; have o6 := hO2.g6; have o7 := hO2.g7; have o8 := hO2.g8; have o9 := hO2.g9; have o10 := hO2.g10; have o11 := hO2.g11; have of := hO2.f))
        exact bodyPost_ret (rret2 Tryd.results11 _ _ (w.heap.size + 1 + 1) rfl rfl ⟨alloc_old (hO2.all _ _ _ _ _ _ _ _ _ _ _ _).o⟩) rfl ⟨rfl, (hF3.all (Or.inr (by omega)) _ _ _ _ _ _ _ _ _ _ _ _).alloc _⟩
#print axioms rcommon_any
end Go.Proofs.YtiokbpknaldbaaaDoor
