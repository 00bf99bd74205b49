/- The contract of pairs. -/
import Derived.Test.YtcefochgpijfbaaCat
import Derived.Test.YtcefochgpijfbaaPrsM
import Derived.Deep.DeepCutAuto
import Derived.Deep.AppendLies
import Derived.Deep.RegionHeld3
import Derived.Deep.DrawnRows
namespace Go.Proofs.Ytcefochgpijfbaa
open Go.RowKit
attribute [local go_sem ↓] Go.wp_at_zero Go.wp_at_succ

theorem two_new (w : World) (o o' : Obj) : ((w.alloc o).alloc o').drew.heap[w.heap.size]? = some o ∧ ((w.alloc o).alloc o').drew.heap[w.heap.size + 1]? = some o' := by
  refine ⟨(Below.heap_alloc _ _ _ (by simp)).trans (heap_alloc_new _ _), ?_⟩
  have := heap_alloc_new (w.alloc o) o'
  rw [show (w.alloc o).heap.size = w.heap.size + 1 by simp] at this
  exact this

/-- The symbols of the packages lie in blocks from n on. -/
def NewB (n : Nat) (D : List PV) : Prop := ∀ p ∈ D, ∀ b, p.2.ownBlock = some b → n ≤ b
theorem NewB.snoc {n : Nat} {D : List PV} (h : NewB n D) (x : Nat) (v : Value) (hv : ∀ b, v.ownBlock = some b → n ≤ b) : NewB n (D ++ [(x, v)]) := by
  intro p hp b hb
  rcases List.mem_append.1 hp with hp | hp
  · exact h p hp b hb
  · simp at hp
    subst hp
    exact hv b hb

set_option maxRecDepth 100000 in
set_option maxHeartbeats 1600000 in
theorem pairs_any (g cap N : Nat) (D : List PV) (Q : List Pk) (w : World) (h : PRow w g D) (hR : RepL w D Q) (hN : D.length = N) (hl : N ≤ 100000) (hW : ∀ q ∈ Q, q.w ≤ 1125899906842624 ∧ q.s.length ≤ 524288) :
    Calls Try.prog 22 #[.slice (some ⟨g, 0, none⟩) N cap] w fun e w' => ∃ lv E, e = .returned lv ∧ Own w.heap.size w' lv E ∧ RepL w' E (pairsP Q) ∧ NewB w.heap.size E ∧ Fr noB w w' := by
  obtain ⟨i0, hi, hz0, hz1, hz2⟩ := info_parts Try.infoPk
  have HQ : Hid (Q.length = N) := by rw [← hR.length]; exact hN
  have HN : Hid (D.length = N) := hN
  have HW : Hid (∀ q ∈ Q, q.w ≤ 1125899906842624 ∧ q.s.length ≤ 524288) := hW
  have HP : Hid (PRow w g D) := h
  have HR : Hid (RepL w D Q) := hR
  clear hN h hR hW
  go_enter Try.func22, Try.ntmps22
  go_wp2_with fail
  go_loopg [3, 4] N (fun gh lv iv wr => ∃ (j : Nat) (E : List PV), j ≤ N ∧ gh = N - j ∧ iv = .int .i64 ((j : Int) + 1) ∧ Hid (∃ k, j = 2 * k) ∧ Own w.heap.size wr lv E ∧ RepL wr E (pairsP (Q.take j)) ∧ Hid (NewB w.heap.size E) ∧ Fr noB w wr)
  case atStart => exact ⟨0, [], by omega, rfl, rfl, ⟨0, rfl⟩, World.ownsRow_nil _ _ _ _, RepL.nil, (fun p hp => by simp at hp), Fr.refl _ _⟩
  case round =>
    obtain ⟨j, E, hj, rfl, rfl, HK2, hO, hR, HNB, hF⟩ := hrel
    obtain ⟨so, sc, rfl⟩ := hO.slice
    by_cases hlt : j + 1 < N
    · have hP := HP.out.keep hF id
      have hS := HR.out.sl
      obtain ⟨a1, l1, q1, e1, c11, c12⟩ := hP.two hS j (by have := HN.out; omega)
      obtain ⟨a2, l2, q2, e2, c21, c22⟩ := hP.two hS (j + 1) (by have := HN.out; omega)
      have HQ1 : Hid (∃ q : Pk, Q[j]? = some q ∧ (at_ D j).1 = q.w ∧ Sy w (.slice a1 l1 q1) q.s ∧ q.w ≤ 1125899906842624 ∧ q.s.length ≤ 524288) := by
        have hjl : j < Q.length := by rw [HQ.out]; omega
        have hr := HR.out.get j hjl
        rw [RepP, e1] at hr
        exact ⟨Q[j], List.getElem?_eq_getElem hjl, hr.1, hr.2, HW.out _ (List.getElem_mem hjl)⟩
      have HQ2 : Hid (∃ q : Pk, Q[j + 1]? = some q ∧ (at_ D (j + 1)).1 = q.w ∧ Sy w (.slice a2 l2 q2) q.s ∧ q.w ≤ 1125899906842624 ∧ q.s.length ≤ 524288) := by
        have hjl : j + 1 < Q.length := by rw [HQ.out]; omega
        have hr := HR.out.get (j + 1) hjl
        rw [RepP, e2] at hr
        exact ⟨Q[j + 1], List.getElem?_eq_getElem hjl, hr.1, hr.2, HW.out _ (List.getElem_mem hjl)⟩
      have hglt : g < wr.heap.size := by obtain ⟨_, hh⟩ := hP; exact lt_of_block hh
      have HA : Hid (∀ o a, a.block = g → (wr.alloc o).cell? a = wr.cell? a) := fun o a ha => ((Fr.refl noB wr).alloc o).cell (by rw [ha]; exact hglt) id
      have HB : Hid (∀ o o' a, a.block = g → ((wr.alloc o).alloc o').cell? a = wr.cell? a) := fun o o' a ha => (((Fr.refl noB wr).alloc o).alloc o').cell (by rw [ha]; exact hglt) id
      have g1 := fun o => (HA.out o ⟨g, j * 2, none⟩ rfl).trans c11
      have g2 := fun o => (HA.out o ⟨g, j * 2 + 1, none⟩ rfl).trans c12
      have g3 := fun o => (HA.out o ⟨g, (j + 1) * 2, none⟩ rfl).trans c21
      have g4 := fun o => (HA.out o ⟨g, (j + 1) * 2 + 1, none⟩ rfl).trans c22
      have g5 := fun o o' => (HB.out o o' ⟨g, j * 2, none⟩ rfl).trans c11
      have g6 := fun o o' => (HB.out o o' ⟨g, j * 2 + 1, none⟩ rfl).trans c12
      have g7 := fun o o' => (HB.out o o' ⟨g, (j + 1) * 2, none⟩ rfl).trans c21
      have g8 := fun o o' => (HB.out o o' ⟨g, (j + 1) * 2 + 1, none⟩ rfl).trans c22
      have hk1 : (j : Int) + 1 < (N : Int) := by omega
      have hk0 : (0 : Int) ≤ (j : Int) + 1 := by omega
      have hk2 : (j : Int) < (N : Int) := by omega
      have hk3 : (0 : Int) ≤ (j : Int) := by omega
      have hwr : IntKind.i64.wrap ((j : Int) + 1 - 1) = (j : Int) := by rw [IntKind.wrap_i64]; omega
      have hwr2 : IntKind.i64.wrap (j : Int) = (j : Int) := by rw [IntKind.wrap_i64]; omega
      generalize (at_ D j).1 = x1 at *
      generalize (at_ D (j + 1)).1 = x2 at *
      have HO : Hid _ := hO
      have HRR : Hid _ := hR
      clear hO hR e1 e2
      go_upto_region 5 with fail
      have hEl : E.length ≤ 100000 := by
        have h1 := HRR.out.length
        rw [pairsP_length] at h1
        have h2 : (Q.take j).length ≤ j := List.length_take_le _ _
        omega
      go_cut [5, 6] (fun pv qv wc => ∃ (pa pb : Nat), pv = .pointer (some ⟨pa, 0, none⟩) ∧ qv = .pointer (some ⟨pb, 0, none⟩) ∧ wr.heap.size ≤ pa ∧ wr.heap.size ≤ pb ∧ wc.heap[pa]? = some (.cells #[.int .i64 (x1 : Int), .slice a1 l1 q1] 36 (0, 0)) ∧ wc.heap[pb]? = some (.cells #[.int .i64 (x2 : Int), .slice a2 l2 q2] 36 (0, 0)) ∧ Fr noB wr wc)
      case first =>
        go_region
        all_goals (go_wp2_with fail; go_meet)
        · exact ⟨_, _, rfl, rfl, Nat.le_refl _, Nat.le_succ _, (two_new _ _ _).1, (two_new _ _ _).2, (((Fr.refl noB wr).alloc _).alloc _).drew⟩
        · exact ⟨_, _, rfl, rfl, Nat.le_succ _, Nat.le_refl _, (two_new _ _ _).2, (two_new _ _ _).1, (((Fr.refl noB wr).alloc _).alloc _).drew⟩
      case rest =>
        obtain ⟨pa, pb, rfl, rfl, hla, hlb, ha, hb, hFc⟩ := hcut
        obtain ⟨r1, hr1, hx1, hs1, hw1, hl1⟩ := HQ1.out
        obtain ⟨r2, hr2, hx2, hs2, hw2, hl2⟩ := HQ2.out
        have hF2 := hF.trans hFc
        have hs1' := hs1.keep hF2 (fun _ _ _ h => h)
        have hs2' := hs2.keep hF2 (fun _ _ _ h => h)
        have hsum : IntKind.i64.wrap ((x1 : Int) + (x2 : Int)) = (x1 : Int) + (x2 : Int) := by rw [IntKind.wrap_i64]; omega
        have HX : Hid (x1 = r1.w ∧ x2 = r2.w ∧ Q[j]? = some r1 ∧ Q[j + 1]? = some r2) := ⟨hx1, hx2, hr1, hr2⟩
        have HCall : Hid (∀ w', Fr noB wc w' → ∀ b, w'.heap[b]? = some (.cells #[.slice a1 l1 q1, .slice a2 l2 q2] 22 (0, 0)) → Calls Try.prog 29 #[.slice (some ⟨b, 0, none⟩) 2 2] w' fun e w'' => ∃ v, e = .returned v ∧ Sy w'' v (r1.s ++ r2.s) ∧ (∀ b, v.ownBlock = some b → w'.heap.size ≤ b) ∧ Fr noB w' w'') := fun w' hw b hbb =>
          concat_any b _ _ r1.s r2.s w' hbb (hs1'.keep hw (fun _ _ _ h => h)) (hs2'.keep hw (fun _ _ _ h => h)) (by omega)
        have HOw : Hid (∀ w', Fr noB wc w' → Own w.heap.size w' (.slice so E.length sc) E) := fun w' hw => by
          obtain ⟨o1, o2⟩ := HO.out
          refine ⟨o1, ?_⟩
          rcases o2 with o2 | ⟨g', cap', cur', k1, k2, k3, k4⟩
          · exact Or.inl o2
          · exact Or.inr ⟨g', cap', cur', k1, k2, (hFc.trans hw).obj k3 id, k4⟩
        have HNE : Hid (∀ p, wr.heap.size ≤ p → ¬ (Value.slice so E.length sc).ownBlock = some p) := fun p hp e => by
          obtain ⟨o1, o2⟩ := HO.out
          rcases o2 with o2 | ⟨g', cap', cur', k1, k2, k3, k4⟩
          · rw [o2.1] at e; simp [Value.ownBlock] at e
          · rw [k1] at e
            simp [Value.ownBlock] at e
            have := lt_of_block k3
            omega
        have HK : Hid (∀ (T : Nat → Prop) w', Fr T wc w' → ¬ T pa → ¬ T pb → w'.cell? ⟨pa, 0, none⟩ = some (.int .i64 (x1 : Int)) ∧ w'.cell? ⟨pa, 1, none⟩ = some (.slice a1 l1 q1) ∧ w'.cell? ⟨pb, 0, none⟩ = some (.int .i64 (x2 : Int)) ∧ w'.cell? ⟨pb, 1, none⟩ = some (.slice a2 l2 q2)) := fun T w' hw n1 n2 =>
          ⟨cellOf (hw.obj ha n1) rfl, cellOf (hw.obj ha n1) rfl, cellOf (hw.obj hb n2) rfl, cellOf (hw.obj hb n2) rfl⟩
        have hsz := hF2.size
        clear g1 g2 g3 g4 g5 g6 g7 g8 c11 c12 c21 c22 HQ1 HQ2 hs1 hs2 hs1' hs2' hx1 hx2 hr1 hr2 HA HB hwr hwr2
        go_wp2_with fail
        go_region_held3 (fun w' => w'.cell? ⟨pa, 0, none⟩ = some (.int .i64 (x1 : Int)) ∧ w'.cell? ⟨pa, 1, none⟩ = some (.slice a1 l1 q1) ∧ w'.cell? ⟨pb, 0, none⟩ = some (.int .i64 (x2 : Int)) ∧ w'.cell? ⟨pb, 1, none⟩ = some (.slice a2 l2 q2))
          (first | exact HK.out noB _ (Fr.refl noB wc) id id | exact HK.out noB _ (Fr.refl noB wc).drew id id | exact HK.out noB _ ((Fr.refl noB wc).drew.alloc _) id id | exact HK.out noB _ ((Fr.refl noB wc).alloc _).drew id id | exact HK.out noB _ hFc2 id id | exact HK.out noB _ (hFc2.alloc _) id id | exact HK.out _ _ hFc3 (HNE.out pa hla) (HNE.out pb hlb))
          (first | (go_at_call 29; refine (HCall.out _ (by first | exact ((Fr.refl noB wc).alloc _).drew | exact (Fr.refl noB wc).drew.alloc _) _ (by exact heap_alloc_new _ _)).mono ?_; rintro e w2 ⟨v, rfl, hSy, hNv, hF3⟩; obtain ⟨ao3, cp3, rfl, h03, hle3, -, -⟩ := hSy.slice; have hFc2 : Fr noB wc w2 := (((Fr.refl noB wc).alloc _).drew).trans hF3) | (refine step_append_lies _ (by rfl) _ _ _ (by rfl) w.heap.size 36 i0 (.agg #[.int .i64 0, .slice none 0 0]) 2 32 Try.underlying33 hi hz0 hz1 hz2 rfl (by decide) (.slice so E.length sc) E.length (pCells E) (by rfl) (HOw.out _ (hFc2.alloc _)) ⟨w2.heap.size, 0, none⟩ 1 1 [.int .i64 ((x1 : Int) + (x2 : Int)), .slice ao3 (r1.s.length + r2.s.length) cp3] (by rfl) (by rfl) (World.news_of_block (cs := #[.int .i64 ((x1 : Int) + (x2 : Int)), .slice ao3 (r1.s.length + r2.s.length) cp3]) (t := 36) (fr := (0, 0)) (heap_alloc_new w2 _)) (by intro u hu; simp at hu; rcases hu with rfl | rfl <;> rfl) (by decide) (by unfold maxLen; omega) (by omega) (by have := hFc2.size; simp; omega) (w2.heap.size + 1) (by simp) ?_; intro g3 cap3 w3 hown3 hg3 hat3 hlt3; have hFc3 : Fr (fun b => (Value.slice so E.length sc).ownBlock = some b) wc w3 := (Fr.weak (hFc2.alloc _)).grown hg3 (fun b hb => Or.inl hb)))
        have hO3 : Own w.heap.size w3 (.slice (some ⟨g3, 0, none⟩) (E.length + 1) cap3) (E ++ [(x1 + x2, Value.slice ao3 (r1.s.length + r2.s.length) cp3)]) := by
          unfold Own
          rw [pCells_append, List.length_append]
          have e : pCells [(x1 + x2, Value.slice ao3 (r1.s.length + r2.s.length) cp3)] = [.int .i64 ((x1 : Int) + (x2 : Int)), .slice ao3 (r1.s.length + r2.s.length) cp3] := by simp [pCells]
          rw [e]
          exact hown3
        have hFg : Fr (fun b => (Value.slice so E.length sc).ownBlock = some b) (w2.alloc (.cells #[.int .i64 ((x1 : Int) + (x2 : Int)), .slice ao3 (r1.s.length + r2.s.length) cp3] 36 (0, 0))) w3 := (Fr.refl _ _).grown hg3 (fun b hb => Or.inl hb)
        have hOw2 := HOw.out _ (hFc2.alloc (.cells #[.int .i64 ((x1 : Int) + (x2 : Int)), .slice ao3 (r1.s.length + r2.s.length) cp3] 36 (0, 0)))
        have hF4 : Fr noB w w3 := (hF2.trans (hFc2.alloc _)).grown hg3 (fun b hb => Or.inr (Own.base hOw2 b hb))
        have hR4 : RepL w3 (E ++ [(x1 + x2, Value.slice ao3 (r1.s.length + r2.s.length) cp3)]) (pairsP (Q.take (j + 2))) := by
          obtain ⟨e1, e2, e3, e4⟩ := HX.out
          obtain ⟨k, hk⟩ := HK2.out
          have hm := pairs_more Q k r1 r2 (by rw [← hk]; exact e3) (by rw [← hk]; exact e4)
          rw [show j + 2 = 2 * (k + 1) by omega, hm, ← hk]
          refine RepL.keep (RepL.append (HRR.out.keep (hFc.trans (hFc2.alloc _)) (fun _ _ _ h => h)) (RepL.cons ⟨by rw [e1, e2], ?_⟩ RepL.nil)) hFg (Own.ob hOw2)
          have := hSy.keep ((Fr.refl noB w2).alloc (.cells #[.int .i64 ((x1 : Int) + (x2 : Int)), .slice ao3 (r1.s.length + r2.s.length) cp3] 36 (0, 0))) (fun _ _ _ h => h)
          rw [List.length_append] at this
          exact this
        have HNv : Hid _ := hNv
        have HO3 : Hid _ := hO3
        have HR4 : Hid _ := hR4
        clear hO3 hR4 hOw2 hFg hown3 hg3 hat3 hNv
        go_wp2_with fail
        go_roundg (N - (j + 2))
        case measure => omega
        case rel => exact ⟨j + 2, _, by omega, rfl, by go_num, by obtain ⟨k, hk⟩ := HK2.out; exact ⟨k + 1, by omega⟩, HO3.out, HR4.out, HNB.out.snoc _ _ (fun b hb => by have := HNv.out b (by rw [List.length_append]; exact hb); simp at this; omega), hF4⟩
    · go_wp2_with fail
      go_ret
      exact ⟨_, E, rfl, hO, by
        obtain ⟨k, hk⟩ := HK2.out
        rw [hk, pairs_end Q k (by have := HQ.out; omega)] at hR
        exact hR, HNB.out, hF⟩
#print axioms pairs_any
end Go.Proofs.Ytcefochgpijfbaa
