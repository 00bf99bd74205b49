/- The contract of the document's Least. -/
import Derived.Test.YtcefochgpijfbaaRefM
namespace Go.Proofs.Ytcefochgpijfbaa
open Go.RowKit
attribute [local go_sem ↓] Go.wp_at_zero Go.wp_at_succ

theorem put_any (v : Value) (K : List Nat) (x base : Nat) (w : World) (hO : OwnN base w v K) (hl : K.length ≤ 100000) (hs : K.Pairwise (· ≤ ·)) :
    Calls Try.prog 16 #[v, .int .i64 (x : Int)] w fun e w' => ∃ lv K', e = .returned lv ∧ K'.Pairwise (· ≤ ·) ∧ K'.Perm (x :: K) ∧ OwnN w.heap.size w' lv K' ∧ Fr noB w w' := by
  rcases hO.cases with ⟨rfl, rfl⟩ | ⟨g, cap, rfl, hg, hgw, hc1, hc2, hc⟩
  · refine (put_nil x w).mono ?_
    rintro e w' ⟨lv, h1, h2, h3⟩
    exact ⟨lv, [x], h1, by simp, List.Perm.refl _, h2, h3⟩
  · refine (put_row g cap K.length x K w hc rfl hl hc1 hc2 hgw).mono ?_
    rintro e w' ⟨lv, k, h1, h2, h3, h4, h5, h6⟩
    exact ⟨lv, _, h1, put_sorted K x k hs h3 h4, put_perm K x k, h5, h6⟩
theorem filter_snoc (C : List Nat) (k : Nat) (h : k < C.length) : (C.take (k + 1)).filter (fun c => decide (0 < c)) = (C.take k).filter (fun c => decide (0 < c)) ++ if 0 < C[k] then [C[k]] else [] := by
  rw [List.take_succ_eq_append_getElem h, List.filter_append]
  congr 1
  by_cases e : 0 < C[k]
  · simp [e]
  · simp [e]
theorem levW_ge (K : List Nat) (j : Nat) : K.length ≤ (levW K j).length := by
  cases j with
  | zero => exact Nat.le_refl _
  | succ j => simp only [levW, mergeW_len]; omega
theorem least_end (K : List Nat) (most T : Nat) (h2 : 2 ≤ K.length) (hT : T = 2 * K.length - 2 ∨ (T = (levW K (most - 1)).length ∧ T ≤ 2 * K.length - 2)) : sumW ((levW K (most - 1)).take T) = leastK K most := by
  unfold leastK
  rw [if_neg (by omega)]
  rcases hT with rfl | ⟨rfl, h⟩
  · rfl
  · rw [List.take_length, List.take_of_length_le h]
theorem lev_sum_bd (K : List Nat) (k m : Nat) (hK : ∀ x ∈ K, x ≤ 2147483648) (hl : K.length ≤ 512) (hk : k ≤ 14) : sumW ((levW K k).take m) ≤ 36028797018963968 := by
  have h1 := sumW_le ((levW K k).take m) 35184372088832 (fun x hx => by
    have := levW_le K 2147483648 hK k x (List.mem_of_mem_take hx)
    have h2 : 2 ^ k * 2147483648 ≤ 16384 * 2147483648 := Nat.mul_le_mul_right _ (pow_k k hk)
    omega)
  have h2 : ((levW K k).take m).length ≤ 1024 := by
    have := levW_len K k
    have := List.length_take_le' m (levW K k)
    omega
  have h3 := Nat.mul_le_mul_right 35184372088832 h2
  omega

set_option maxRecDepth 100000 in
set_option maxHeartbeats 3200000 in
theorem refleast_any (v : Value) (C : List Nat) (most : Nat) (w : World) (hv : Ns .i64 w v (up C)) (hC : C.length ≤ 512) (hmax : ∀ c ∈ C, c ≤ 2147483648) (hm1 : 1 ≤ most) (hm2 : most ≤ 15) :
    Calls Try.prog 8 #[v, .int .i64 (most : Int)] w fun e w' => ∃ K : List Nat, e = .returned (.int .i64 ((leastK K most : Nat) : Int)) ∧ K.Pairwise (· ≤ ·) ∧ K.Perm (C.filter (fun c => decide (0 < c))) ∧ Fr noB w w' := by
  obtain ⟨i0, hi, hz0, hz1, hz2⟩ := info_parts Try.infoI
  obtain ⟨ao, cap, hvv, h1, hc2, h4, h3⟩ := hv
  have hat : NsAt .i64 w ao (up C) := h3
  rw [length_up] at h1 hvv
  subst hvv
  clear h3 h4
  have HMx : Hid (∀ c ∈ C, c ≤ 2147483648) := hmax
  obtain ⟨n, hn⟩ : ∃ n, C.length = n := ⟨_, rfl⟩
  have HN : Hid (C.length = n) := hn
  rw [hn] at hC h1 ⊢
  unfold maxLen at hc2
  clear hn hmax
  go_enter Try.func8, Try.ntmps8
  go_wp2_with fail
  go_loopg [5, 6] n (fun gh lv iv wr => ∃ (k : Nat) (K : List Nat), k ≤ n ∧ gh = n - k ∧ iv = .int .i64 (k : Int) ∧ OwnN w.heap.size wr lv K ∧ Hid (K.Pairwise (· ≤ ·) ∧ K.Perm ((C.take k).filter (fun c => decide (0 < c)))) ∧ Fr noB w wr)
  case atStart => exact ⟨0, [], by omega, rfl, rfl, OwnN.nil _ _, ⟨by simp, by simp⟩, Fr.refl _ _⟩
  case round =>
    obtain ⟨k, K, hk, rfl, rfl, hO, HX, hF⟩ := hrel
    obtain ⟨so, sc, rfl⟩ := hO.slice
    have HO : Hid (OwnN w.heap.size wr (.slice so K.length sc) K) := hO
    have hKl : K.length ≤ 512 := by
      have h := HX.out.2.length_eq
      have h2 := List.length_filter_le (fun c => decide (0 < c)) (C.take k)
      have h3 := List.length_take_le k C
      omega
    clear hO
    by_cases hlt : k < n
    · have hkC : k < C.length := by have := HN.out; omega
      obtain ⟨b, off, rfl, hb, hcell⟩ := (hat.keep hF).get k (by rw [length_up]; exact hkC)
      rw [up_get C k hkC] at hcell
      have HSn := filter_snoc C k hkC
      obtain ⟨x, hx⟩ : ∃ x, C[k] = x := ⟨_, rfl⟩
      rw [hx] at hcell HSn
      have HS : Hid ((C.take (k + 1)).filter (fun c => decide (0 < c)) = (C.take k).filter (fun c => decide (0 < c)) ++ if 0 < x then [x] else []) := HSn
      clear hx HSn hkC
      by_cases hx0 : 0 < x
      · have hxI : (0 : Int) < (x : Int) := by omega
        have HP := put_any (.slice so K.length sc) K x w.heap.size wr HO.out (by omega) HX.out.1
        go_wp2_with fail
        refine HP.mono ?_
        rintro e w1 ⟨lv, K', rfl, hs', hp', hO', hF1⟩
        have HX2 : Hid (K'.Pairwise (· ≤ ·) ∧ K'.Perm ((C.take (k + 1)).filter (fun c => decide (0 < c)))) := by
          refine ⟨hs', ?_⟩
          rw [HS.out, if_pos hx0]
          exact hp'.trans ((List.Perm.cons x HX.out.2).trans (List.perm_append_comm (l₁ := [x])))
        have HO2 : Hid (OwnN w.heap.size w1 lv K') := hO'.base hF.size
        obtain ⟨so', sc', rfl⟩ := hO'.slice
        have hF2 := hF.trans hF1
        clear hs' hp' hO' HP
        go_wp2_with fail
        go_roundg (n - (k + 1))
        case measure => omega
        case rel => exact ⟨k + 1, K', by omega, rfl, by go_num, HO2.out, HX2, hF2⟩
      · have hxI : ¬ (0 : Int) < (x : Int) := by omega
        go_wp2_with fail
        go_roundg (n - (k + 1))
        case measure => omega
        case rel => exact ⟨k + 1, K, by omega, rfl, by go_num, HO.out, ⟨HX.out.1, by rw [HS.out, if_neg hx0, List.append_nil]; exact HX.out.2⟩, hF⟩
    · have HXe : Hid (K.Pairwise (· ≤ ·) ∧ K.Perm (C.filter (fun c => decide (0 < c)))) := by
        have := HX.out
        rw [List.take_of_length_le (by have := HN.out; omega)] at this
        exact this
      have hKm : ∀ x ∈ K, x ≤ 2147483648 := fun x hx => HMx.out x (List.mem_filter.1 (HXe.out.2.mem_iff.1 hx)).1
      have HKm : Hid (∀ x ∈ K, x ≤ 2147483648) := hKm
      clear hKm HX
      have hltI : ¬ (k : Int) < (n : Int) := by omega
      by_cases h0 : K.length = 0
      · obtain rfl : K = [] := List.eq_nil_of_length_eq_zero h0
        clear h0
        go_wp2_with fail
        go_ret
        exact ⟨[], rfl, HXe.out.1, HXe.out.2, hF⟩
      · rcases HO.out.cases with ⟨_, e⟩ | ⟨g, cg, e, hg, hgw, hcg1, hcg2, hc⟩
        · subst e; simp at h0
        · injection e with e1 e2 e3
          subst e1 e3
          have HCl : Hid (∀ w', Fr noB wr w' → ∀ i (h : i < K.length), w'.cell? ⟨g, i, none⟩ = some (.int .i64 ((K[i] : Nat) : Int))) := fun w' hw i h => (hw.cell (a := ⟨g, i, none⟩) hgw id).trans (hc i h)
          by_cases h1 : K.length = 1
          · obtain ⟨x, rfl⟩ : ∃ x, K = [x] := List.length_eq_one_iff.1 h1
            have hc0 := hc 0 (by simp)
            simp only [List.getElem_cons_zero] at hc0
            have e3 : ((leastK [x] most : Nat) : Int) = (x : Int) := by simp [leastK, sumW]
            have HE3 : Hid (((leastK [x] most : Nat) : Int) = (x : Int)) := e3
            clear hc e3 h0 h1
            rw [List.length_singleton]
            go_wp2_with fail
            go_ret
            exact ⟨[x], ret_int HE3.out.symm, HXe.out.1, HXe.out.2, hF⟩
          · have h2 : 2 ≤ K.length := by omega
            obtain ⟨N, hN⟩ : ∃ N, K.length = N := ⟨_, rfl⟩
            have HKN : Hid (K.length = N) := hN
            have hc' : Hid (∀ i (h : i < K.length), wr.cell? ⟨g, i, none⟩ = some (.int .i64 ((K[i] : Nat) : Int))) := hc
            rw [hN] at h2 hKl hcg1 ⊢
            unfold maxLen at hcg2
            have t1 : decide ((N : Int) < 2) = false := by simp; omega
            have t2 : ¬ (N : Int) < 2 := by omega
            have hwz := hF.size
            clear hN h0 h1 hc hat e2 HO
            go_wp2_with fail
            go_loopg [7, 8] (most - 1) (fun gh lv jv wx => ∃ (j gq cq M : Nat) (Q : List Nat), j ≤ most - 1 ∧ gh = most - 1 - j ∧ jv = .int .i64 ((j : Int) + 1) ∧ lv = .slice (some ⟨gq, 0, none⟩) M cq ∧ gq < wx.heap.size ∧ M ≤ cq ∧ cq ≤ 9223372036854775807 ∧ Hid (Q = levW K j ∧ Q.length = M ∧ ∀ i (h : i < Q.length), wx.cell? ⟨gq, i, none⟩ = some (.int .i64 ((Q[i] : Nat) : Int))) ∧ Fr noB wr wx)
            case atStart => exact ⟨0, g, sc, N, K, by omega, rfl, by go_num, rfl, hgw, hcg1, by omega, ⟨rfl, HKN.out, hc'.out⟩, Fr.refl _ _⟩
            case round =>
              rename World => wx
              obtain ⟨j, gq, cq, M, Q, hj, rfl, rfl, rfl, hgq, hMc, hcq, HQ, hFx⟩ := hrel
              have hM2 : M ≤ 1024 := by
                have h := HQ.out
                have h5 := levW_len K j
                rw [← h.1, h.2.1, HKN.out] at h5
                omega
              have hM1 : 2 ≤ M := by
                have h := HQ.out
                have h5 := levW_ge K j
                rw [← h.1, h.2.1, HKN.out] at h5
                omega
              have HBd : Hid (∀ x ∈ Q, x ≤ 35184372088832) := by
                intro x hx
                rw [HQ.out.1] at hx
                have h5 := levW_le K 2147483648 HKm.out j x hx
                have h6 : 2 ^ j * 2147483648 ≤ 16384 * 2147483648 := Nat.mul_le_mul_right _ (pow_k j (by omega))
                omega
              have HQc : Hid (∀ w', Fr noB wx w' → ∀ i (h : i < Q.length), w'.cell? ⟨gq, i, none⟩ = some (.int .i64 ((Q[i] : Nat) : Int))) := fun w' hw i h => (hw.cell (a := ⟨gq, i, none⟩) hgq id).trans (HQ.out.2.2 i h)
              by_cases hlt2 : j < most - 1
              · have hjI : (j : Int) + 1 < (most : Int) := by omega
                go_wp2_with fail
                go_loopg [9, 10] M (fun gh pv iv wy => ∃ (i : Nat) (E : List Nat), i ≤ M ∧ gh = M - i ∧ iv = .int .i64 (i : Int) ∧ OwnN wx.heap.size wy pv E ∧ Hid (E ++ pairsW (Q.drop i) = pairsW Q ∧ E.length ≤ i) ∧ Fr noB wx wy)
                case atStart => exact ⟨0, [], by omega, rfl, rfl, OwnN.nil _ _, ⟨rfl, by simp⟩, Fr.refl _ _⟩
                case round =>
                  rename World => wy
                  obtain ⟨i, E, hiM, rfl, rfl, hO, HE, hFy⟩ := hrel
                  obtain ⟨so, so2, rfl⟩ := hO.slice
                  have HO : Hid (OwnN wx.heap.size wy (.slice so E.length so2) E) := hO
                  clear hO
                  have hEl : E.length ≤ 1024 := by have := HE.out.2; omega
                  by_cases hi1 : i + 1 < M
                  · have hiQ : i + 1 < Q.length := by have := HQ.out.2.1; omega
                    have c1 := HQc.out wy hFy i (by omega)
                    have c2 := HQc.out wy hFy (i + 1) hiQ
                    have b1 := HBd.out _ (List.getElem_mem (by omega : i < Q.length))
                    have b2 := HBd.out _ (List.getElem_mem hiQ)
                    have HSt : Hid (pairsW (Q.drop i) = (Q[i] + Q[i + 1]) :: pairsW (Q.drop (i + 2))) := pairsW_step Q i hiQ
                    generalize Q[i] = x1 at *
                    generalize Q[i + 1] = x2 at *
                    have s1 : (i : Int) + 1 < (M : Int) := by omega
                    have s2 : (0 : Int) ≤ (i : Int) := by omega
                    have s3 : (i : Int) < (M : Int) := by omega
                    have s4 : (0 : Int) ≤ (i : Int) + 1 := by omega
                    have s5 : IntKind.i64.wrap ((i : Int) + 1) = (i : Int) + 1 := by rw [IntKind.wrap_i64]; omega
                    have s6 : IntKind.i64.wrap ((x1 : Int) + (x2 : Int)) = (x1 : Int) + (x2 : Int) := by rw [IntKind.wrap_i64]; omega
                    have hgy : gq < wy.heap.size := Nat.lt_of_lt_of_le hgq hFy.size
                    have HK : Hid (∀ (T : Nat → Prop) w', Fr T wy w' → ¬ T gq → w'.cell? ⟨gq, i, none⟩ = some (.int .i64 (x1 : Int)) ∧ w'.cell? ⟨gq, i + 1, none⟩ = some (.int .i64 (x2 : Int))) := fun T w' hw n1 =>
                      ⟨(hw.cell (a := ⟨gq, i, none⟩) hgy n1).trans c1, (hw.cell (a := ⟨gq, i + 1, none⟩) hgy n1).trans c2⟩
                    have HNE : Hid (¬ (Value.slice so E.length so2).ownBlock = some gq) := fun e => by
                      have := own_base HO.out gq e
                      omega
                    have hsz := hFy.size
                    go_wp2_with fail
                    go_region_held3 (fun w' => w'.cell? ⟨gq, i, none⟩ = some (.int .i64 (x1 : Int)) ∧ w'.cell? ⟨gq, i + 1, none⟩ = some (.int .i64 (x2 : Int)))
                      (first | exact HK.out noB _ (Fr.refl noB wy) id | exact HK.out noB _ (Fr.refl noB wy).drew id | exact HK.out noB _ ((Fr.refl noB wy).alloc _).drew id | exact HK.out noB _ ((Fr.refl noB wy).drew.alloc _) id | exact HK.out _ _ hFc3 HNE.out)
                      ((refine step_append_lies _ (by rfl) _ _ _ (by rfl) wx.heap.size 3 i0 (.int .i64 0) 1 8 Try.underlying22 hi hz0 hz1 hz2 rfl (by decide) (.slice so E.length so2) E.length (nVals .i64 E) (by rfl) (HO.out.keep ((Fr.refl noB wy).alloc _).drew (fun _ _ h => h)) ⟨wy.heap.size, 0, none⟩ 1 1 [.int .i64 ((x1 : Int) + (x2 : Int))] (by rfl) (by rfl) (World.news_of_block (cs := #[.int .i64 ((x1 : Int) + (x2 : Int))]) (t := 3) (fr := (0, 0)) (heap_alloc_new wy _)) (by simp [Value.oneCell']) (by decide) (by unfold maxLen; omega) (by omega) (by simp; omega) (wy.heap.size + 1) (by simp) ?_; intro g3 cap3 w3 hown3 hg3 hat3 hlt3; have hFc3 : Fr (fun b => (Value.slice so E.length so2).ownBlock = some b) wy w3 := (Fr.weak ((Fr.refl noB wy).alloc _).drew).grown hg3 (fun b hb => Or.inl hb)))
                    have HO3 : Hid (OwnN wx.heap.size w3 (.slice (some ⟨g3, 0, none⟩) (E.length + 1) cap3) (E ++ [x1 + x2])) := OwnN.snoc (by rw [Int.natCast_add]; exact hown3)
                    have hF4 : Fr noB wx w3 := (hFy.trans ((Fr.refl noB wy).alloc (.cells #[.int .i64 ((x1 : Int) + (x2 : Int))] 3 (0, 0))).drew).grown hg3 (fun b hb => Or.inr (own_base HO.out b hb))
                    have HE2 : Hid ((E ++ [x1 + x2]) ++ pairsW (Q.drop (i + 2)) = pairsW Q ∧ (E ++ [x1 + x2]).length ≤ i + 2) := by
                      refine ⟨?_, by simp; have := HE.out.2; omega⟩
                      rw [← HE.out.1, HSt.out, List.append_assoc]
                      rfl
                    clear hown3 hg3 hat3
                    go_wp2_with fail
                    go_roundg (M - (i + 2))
                    case measure => omega
                    case rel => exact ⟨i + 2, _, by omega, rfl, by go_num, HO3.out, HE2, hF4⟩
                  · have HEe : Hid (E = pairsW Q) := by
                      have h := HE.out.1
                      rw [pairsW_stop Q i (by have := HQ.out.2.1; omega), List.append_nil] at h
                      exact h
                    have hE0 : 0 < E.length := by
                      have h := HEe.out
                      have h5 := pairsW_len Q
                      rw [← h, HQ.out.2.1] at h5
                      omega
                    rcases HO.out.cases with ⟨_, e⟩ | ⟨gp, cp, e, hgp, hgpw, hcp1, hcp2, hcp⟩
                    · subst e; simp at hE0
                    · injection e with e1 e2 e3
                      subst e1 e3
                      have hgl : g < wy.heap.size := by have := hFx.size; have := hFy.size; omega
                      have HMg := refmerged_any g sc gp so2 N E.length K E wy (HCl.out wy (hFx.trans hFy)) hcp HKN.out rfl (by omega) (by omega) hcg1 hcp1 (by unfold maxLen; omega) hcp2 hgl hgpw
                      have s1 : ¬ (i : Int) + 1 < (M : Int) := by omega
                      clear hcp e2
                      go_wp2_with fail
                      refine HMg.mono ?_
                      rintro e w5 ⟨lv, rfl, hO5, hF5⟩
                      have HL5 : Hid (mergeW K E = levW K (j + 1)) := by
                        rw [HEe.out, HQ.out.1]
                        rfl
                      have hl5 : 0 < (mergeW K E).length := by rw [mergeW_len]; omega
                      rcases hO5.cases with ⟨_, e⟩ | ⟨gm, cm, e, hgm, hgmw, hcm1, hcm2, hcm⟩
                      · rw [e] at hl5; simp at hl5
                      · subst e
                        have HQ5 : Hid (mergeW K E = levW K (j + 1) ∧ (mergeW K E).length = (mergeW K E).length ∧ ∀ i (h : i < (mergeW K E).length), w5.cell? ⟨gm, i, none⟩ = some (.int .i64 (((mergeW K E)[i] : Nat) : Int))) := ⟨HL5.out, rfl, hcm⟩
                        unfold maxLen at hcm2
                        clear hcm hO5 HMg hl5
                        go_wp2_with fail
                        go_roundg (most - 1 - (j + 1))
                        case measure => omega
                        case rel => exact ⟨j + 1, gm, cm, _, mergeW K E, by omega, rfl, by go_num, rfl, hgmw, hcm1, by omega, ⟨HQ5.out.1, rfl, HQ5.out.2.2⟩, hFx.trans (hFy.trans hF5)⟩
              · have hjm : j = most - 1 := by omega
                have hjI : ¬ (j : Int) + 1 < (most : Int) := by omega
                have HQe : Hid (Q = levW K (most - 1)) := by rw [← hjm]; exact HQ.out.1
                have HEnd : Hid (∀ T, (T = 2 * N - 2 ∨ (T = M ∧ T ≤ 2 * N - 2)) → ((leastK K most : Nat) : Int) = ((sumW (Q.take T) : Nat) : Int)) := fun T hT => by
                  rw [HQe.out, least_end K most T (by rw [HKN.out]; exact h2) (by rw [HKN.out, ← HQe.out, HQ.out.2.1]; exact hT)]
                have HSb : Hid (∀ m, sumW (Q.take m) ≤ 36028797018963968) := fun m => by
                  rw [HQe.out]
                  exact lev_sum_bd K (most - 1) m HKm.out (by rw [HKN.out]; exact hKl) (by omega)
                clear hjm
                go_wp2_with fail
                go_loopg [11, 12] (2 * N - 2) (fun gh sv iv wy => ∃ i : Nat, i ≤ 2 * N - 2 ∧ i ≤ M ∧ gh = 2 * N - 2 - i ∧ iv = .int .i64 (i : Int) ∧ sv = .int .i64 ((sumW (Q.take i) : Nat) : Int) ∧ wy = wx)
                case atStart => exact ⟨0, by omega, by omega, rfl, rfl, rfl, rfl⟩
                case round =>
                  obtain ⟨i, hi1, hi2, rfl, rfl, rfl, hwy⟩ := hrel
                  have hwy' := hwy.symm
                  subst hwy'
                  have hsb := HSb.out i
                  by_cases hgo : i < 2 * N - 2 ∧ i < M
                  · have hiQ : i < Q.length := by have := HQ.out.2.1; omega
                    have c1 := HQ.out.2.2 i hiQ
                    have HSs : Hid (sumW (Q.take (i + 1)) = sumW (Q.take i) + Q[i]) := sumW_take Q i hiQ
                    have b1 := HBd.out _ (List.getElem_mem hiQ)
                    generalize Q[i] = x at *
                    generalize sumW (Q.take i) = y at *
                    obtain ⟨hg1, hg2⟩ := hgo
                    have s1 : (i : Int) < 2 * (N : Int) - 2 := by omega
                    have s2 : (i : Int) < (M : Int) := by omega
                    go_wp2_with fail
                    go_roundg (2 * N - 2 - (i + 1))
                    case measure => omega
                    case rel => exact ⟨i + 1, by omega, by omega, rfl, by go_num, by rw [HSs.out, Int.natCast_add], rfl⟩
                  · have HRe : Hid (((leastK K most : Nat) : Int) = ((sumW (Q.take i) : Nat) : Int)) := HEnd.out i (by omega)
                    generalize sumW (Q.take i) = y at *
                    by_cases hg1 : i < 2 * N - 2
                    · have s1 : (i : Int) < 2 * (N : Int) - 2 := by omega
                      have s2 : ¬ (i : Int) < (M : Int) := by omega
                      clear hgo
                      go_wp2_with fail
                      go_ret
                      exact ⟨K, ret_int HRe.out.symm, HXe.out.1, HXe.out.2, hF.trans hFx⟩
                    · have s1 : ¬ (i : Int) < 2 * (N : Int) - 2 := by omega
                      clear hgo
                      go_wp2_with fail
                      go_ret
                      exact ⟨K, ret_int HRe.out.symm, HXe.out.1, HXe.out.2, hF.trans hFx⟩
#print axioms refleast_any
end Go.Proofs.Ytcefochgpijfbaa
