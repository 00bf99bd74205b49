/- The contract of cheapest. -/
import Derived.Test.YtcefochgpijfbaaMrg
import Derived.Test.YtcefochgpijfbaaLeastR
namespace Go.Proofs.Ytcefochgpijfbaa
open Go.RowKit

theorem mergeP_mem : ∀ (a b : List Pk) (x : Pk), x ∈ mergeP a b → x ∈ a ∨ x ∈ b
  | [], b, x => by simp [mergeP]
  | a :: a', [], x => by simp [mergeP]
  | a :: a', b :: b', x => by
    have h1 := mergeP_mem (a :: a') b' x
    have h2 := mergeP_mem a' (b :: b') x
    rw [mergeP]
    split
    · intro h
      rcases List.mem_cons.1 h with rfl | h
      · simp
      · rcases h1 h with h | h
        · exact Or.inl h
        · exact Or.inr (List.mem_cons_of_mem _ h)
    · intro h
      rcases List.mem_cons.1 h with rfl | h
      · simp
      · rcases h2 h with h | h
        · exact Or.inl (List.mem_cons_of_mem _ h)
        · exact Or.inr h
termination_by a b => a.length + b.length
theorem pairsP_syms (m : Nat) : ∀ (l : List Pk), (∀ x ∈ l, x.s.length ≤ m) → ∀ x ∈ pairsP l, x.s.length ≤ 2 * m
  | [], _, x, hx => by simp [pairsP] at hx
  | [_], _, x, hx => by simp [pairsP] at hx
  | a :: b :: l, h, x, hx => by
    simp only [pairsP] at hx
    rcases List.mem_cons.1 hx with rfl | hx
    · have := h a (by simp); have := h b (by simp); simp; omega
    · exact pairsP_syms m l (fun y hy => h y (by simp [hy])) x hx
theorem levP_symlen (L : List Pk) (h : ∀ x ∈ L, x.s.length ≤ 1) (k : Nat) : ∀ x ∈ levP L k, x.s.length ≤ 2 ^ k := by
  induction k with
  | zero => intro x hx; have := h x hx; omega
  | succ k ih =>
    intro x hx
    rcases mergeP_mem _ _ _ hx with hx | hx
    · have h1 := h x hx
      have h2 := Nat.one_le_two_pow (n := k + 1)
      omega
    · have := pairsP_syms _ _ ih x hx
      rw [Nat.pow_succ]
      omega
theorem pow_k (k : Nat) (h : k ≤ 14) : 2 ^ k ≤ 16384 := Nat.pow_le_pow_right (n := 2) (by decide) h
/-- What the packages of a level may come to. -/
theorem lev_bound {C : List Nat} {L : List Pk} (h : LeafOk C L) (hC : ∀ c ∈ C, c ≤ 2147483648) (k : Nat) (hk : k ≤ 14) : ∀ q ∈ levP L k, q.w ≤ 1125899906842624 ∧ q.s.length ≤ 524288 := by
  intro q hq
  have hp := pow_k k hk
  constructor
  · have h1 : q.w ∈ wts (levP L k) := List.mem_map_of_mem hq
    rw [wts_lev] at h1
    have h2 := levW_le (wts L) 2147483648 (fun x hx => by
      obtain ⟨p, hp, rfl⟩ := List.mem_map.1 hx
      obtain ⟨j, hj, rfl, _⟩ := h.mem p hp
      exact hC _ (List.getElem_mem hj)) k q.w h1
    have h3 : 2 ^ k * 2147483648 ≤ 16384 * 2147483648 := Nat.mul_le_mul_right _ hp
    omega
  · have := levP_symlen L (fun p hp => by
      obtain ⟨j, hj, rfl, _⟩ := h.mem p hp
      simp) k q hq
    omega
theorem lev_len (L : List Pk) (k : Nat) : (levP L k).length ≤ 2 * L.length := by
  have h := levW_len (wts L) k
  rw [← wts_lev] at h
  unfold wts at h
  rw [List.length_map, List.length_map] at h
  exact h
theorem Own.row {base : Nat} {w : World} {v : Value} {D : List PV} (h : Own base w v D) (h0 : 0 < D.length) : ∃ g cap, v = .slice (some ⟨g, 0, none⟩) D.length cap ∧ base ≤ g ∧ D.length ≤ cap ∧ cap ≤ maxLen ∧ PRow w g D := by
  obtain ⟨_, h2⟩ := h
  rcases h2 with ⟨_, h2⟩ | ⟨g, cap, cur, hv, hg, hh, ha, hb, hc, hd⟩
  · omega
  · refine ⟨g, cap, hv, hg, ha, hb, ⟨cur.toList.drop (D.length * 2), ?_⟩⟩
    rw [hh, ← hd, List.take_append_drop]

/-- No package has its symbols in the block g0. -/
def Apart (g0 : Nat) (D : List PV) : Prop := ∀ p ∈ D, ¬ p.2.ownBlock = some g0
theorem Apart.merge {g0 n : Nat} {A B E : List PV} (hA : Apart g0 A) (hB : NewB n B) (hn : g0 < n) (hE : ∀ p ∈ E, p ∈ A ∨ p ∈ B) : Apart g0 E := by
  intro p hp e
  rcases hE p hp with h | h
  · exact hA p h e
  · have := hB p h g0 e
    omega

set_option maxRecDepth 100000 in
set_option maxHeartbeats 1600000 in
theorem cheapest_any (g cap N most : Nat) (D : List PV) (C : List Nat) (w : World) (h : PRow w g D) (hR : RepL w D (leavesP 0 C)) (hN : D.length = N) (h2 : 2 ≤ N) (hl : N ≤ 512) (hcap : N ≤ cap) (hcap2 : cap ≤ maxLen) (hC : ∀ c ∈ C, c ≤ 2147483648) (hm1 : 1 ≤ most) (hm2 : most ≤ 15) (hNm : N ≤ 2 ^ most) :
    Calls Try.prog 11 #[.slice (some ⟨g, 0, none⟩) N cap, .int .i64 (most : Int)] w fun e w' => ∃ gq cq F L, e = .returned (.slice (some ⟨gq, 0, none⟩) (2 * N - 2) cq) ∧ PRow w' gq F ∧ LeafOk C L ∧ L.length = N ∧ RepL w' F (levP L (most - 1)) ∧ 2 * N - 2 ≤ cq ∧ (∀ g0, g0 < w.heap.size → Apart g0 D → Apart g0 F) ∧ Fr (oneB g) w w' := by
  have HSort := sortStable_any g cap N D w h hR.sl hN (by omega)
  have HR : Hid (RepL w D (leavesP 0 C) ∧ D.length = N ∧ PRow w g D) := ⟨hR, hN, h⟩
  have HC : Hid (∀ c ∈ C, c ≤ 2147483648) := hC
  have HNm : Hid (N ≤ 2 ^ most) := hNm
  have hN0 : ¬ (N : Int) = 0 := by omega
  have hN0b : ((N : Int) == 0) = false := by simp; omega
  have hm3 : (most : Int) ≤ 15 := by omega
  unfold maxLen at hcap2
  clear h hR hN hC hNm
  go_enter Try.func11, Try.ntmps11
  go_wp2_with fail
  refine HSort.mono ?_
  rintro e w1 ⟨rfl, E, hPE, hperm, hso, hF1⟩
  have HL : Hid (∃ L, LeafOk C L ∧ RepL w1 E L) := by
    obtain ⟨L, l1, l2⟩ := sorted_leaves HR.out.1 hperm (by rw [HR.out.2.1]; exact hso)
    exact ⟨L, l1, l2.keep hF1 (HR.out.2.2.other)⟩
  obtain ⟨L, hLf, hRL⟩ := HL.out
  have hEl : E.length = N := by rw [hperm.length_eq]; exact HR.out.2.1
  have HE : Hid (E.length = N ∧ L.length = N) := ⟨hEl, by rw [← hRL.length]; exact hEl⟩
  have HLf : Hid (LeafOk C L) := hLf
  have HB : Hid (∀ k, k ≤ 14 → ∀ q ∈ levP L k, q.w ≤ 1125899906842624 ∧ q.s.length ≤ 524288) := fun k hk => lev_bound hLf HC.out k hk
  have HPE : Hid (PRow w1 g E ∧ RepL w1 E L) := ⟨hPE, hRL⟩
  have HPm : Hid (E.Perm D) := hperm
  clear hEl hLf hRL hPE hperm hso HL HSort
  go_wp2_with fail
  go_loopg [6, 16] (most - 1) (fun gh pv kv wr => ∃ (k gq cq M : Nat) (F : List PV), k ≤ most - 1 ∧ gh = most - 1 - k ∧ kv = .int .i64 (k : Int) ∧ pv = .slice (some ⟨gq, 0, none⟩) M cq ∧ F.length = M ∧ M ≤ cq ∧ cq ≤ 9223372036854775807 ∧ PRow wr gq F ∧ RepL wr F (levP L k) ∧ Hid (∀ g0, g0 < w.heap.size → Apart g0 E → Apart g0 F) ∧ Fr noB w1 wr)
  case atStart => exact ⟨0, g, cap, N, E, by omega, rfl, rfl, rfl, HE.out.1, hcap, by omega, HPE.out.1, HPE.out.2, (fun _ _ h => h), Fr.refl _ _⟩
  case round =>
    obtain ⟨k, gq, cq, M, F, hk, rfl, rfl, rfl, hFl, hMc, hc9, hP, hRF, HAp, hF⟩ := hrel
    have hML : M = (levP L k).length := by rw [← hFl]; exact hRF.length
    have hM2 : M ≤ 2 * N := by have h1 := lev_len L k; have := HE.out; omega
    have hM1 : 2 ≤ M := by have := (levP_len L k).2; have := HE.out; omega
    have HML : Hid _ := hML
    have HFl : Hid _ := hFl
    have HP : Hid _ := hP
    have HRF : Hid _ := hRF
    clear hML hFl hP hRF
    by_cases hlt : k < most - 1
    · have hltI : (k : Int) < (most : Int) - 1 := by omega
      have HPairs := pairs_any gq cq M F (levP L k) wr HP.out HRF.out HFl.out (by omega) (HB.out k (by omega))
      go_wp2_with fail
      refine HPairs.mono ?_
      rintro e w2 ⟨lv, B, rfl, hO, hRB, hNB, hF2⟩
      have hBl : B.length = M / 2 := by rw [hRB.length, pairsP_length, ← HML.out]
      obtain ⟨gb, cb, rfl, hgb, hcb1, hcb2, hPB⟩ := hO.row (by omega)
      have hBl2 : B.length ≤ 1024 := by omega
      clear hBl
      have hFw : Fr noB w1 w2 := hF.trans hF2
      have HMg := merged_any g cap gb cb N B.length E B L (pairsP (levP L k)) w2 (HPE.out.1.keep hFw id) hPB (HPE.out.2.keep hFw (fun _ _ _ h => h)) hRB HE.out.1 rfl (by omega) (by omega) hcap hcb1
      clear hPB hRB hO HPairs
      go_wp2_with fail
      refine HMg.mono ?_
      rintro e w3 ⟨lv, G, rfl, hO3, hR3, hMem, hF3⟩
      have hGl : 0 < G.length := by rw [hR3.length, mergeP_length]; have := HE.out; omega
      obtain ⟨gm, cm, rfl, hgm, hcm1, hcm2, hPG⟩ := hO3.row hGl
      unfold maxLen at hcm2
      have HAp2 : Hid (∀ g0, g0 < w.heap.size → Apart g0 E → Apart g0 G) := fun g0 h0 hE => Apart.merge hE hNB (by have := hF1.size; have := hF.size; omega) hMem
      have HPG : Hid _ := hPG
      have HR3 : Hid (RepL w3 G (levP L (k + 1))) := hR3
      clear hO3 hR3 hPG HMg hNB hMem
      go_wp2_with fail
      go_roundg (most - 1 - (k + 1))
      case measure => omega
      case rel => exact ⟨k + 1, gm, cm, G.length, G, by omega, rfl, by go_num, rfl, rfl, hcm1, by omega, HPG.out, HR3.out, HAp2.out, hFw.trans hF3⟩
    · obtain rfl : k = most - 1 := by omega
      have hen : 2 * N - 2 ≤ M := by
        have := enough L (most - 1) (by rw [HE.out.2, show most - 1 + 1 = most by omega]; exact HNm.out)
        rw [← HML.out, HE.out.2] at this
        exact this
      have hltI : ¬ (((most - 1 : Nat) : Int) < (most : Int) - 1) := by omega
      have i1 : (0 : Int) ≤ 2 * (N : Int) - 2 := by omega
      have i2 : 2 * (N : Int) - 2 ≤ (cq : Int) := by omega
      go_wp2_with fail
      go_ret
      exact ⟨gq, cq, rfl, F, HP.out, L, HLf.out, HE.out.2, HRF.out, by omega, fun g0 h0 hD => HAp.out g0 h0 (fun p hp => hD p (HPm.out.mem_iff.1 hp)), hF1.trans hF.weak⟩
#print axioms cheapest_any
end Go.Proofs.Ytcefochgpijfbaa
