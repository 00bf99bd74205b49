/- The contract of merged. -/
import Derived.Test.YtcefochgpijfbaaPrs
import Derived.Test.YtcefochgpijfbaaIns
namespace Go.Proofs.Ytcefochgpijfbaa
open Go.RowKit
attribute [local go_sem ↓] Go.wp_at_zero Go.wp_at_succ

theorem pCells_drop (D : List PV) : ∀ k, pCells (D.drop k) = (pCells D).drop (k * 2) := by
  induction D with
  | nil => intro k; simp [pCells]
  | cons p D ih =>
    intro k
    match k with
    | 0 => simp
    | k + 1 =>
      rw [List.drop_succ_cons, ih k, show (k + 1) * 2 = k * 2 + 1 + 1 by omega]
      rfl
theorem PRow.from {w : World} {g : Nat} {D : List PV} (h : PRow w g D) (k : Nat) : ∀ j u, (pCells (D.drop k))[j]? = some u → w.cell? ((⟨g, k * 2, none⟩ : Addr).add j) = some u := by
  intro j u hj
  rw [pCells_drop, List.getElem?_drop] at hj
  obtain ⟨rest, hh⟩ := h
  rw [add_none]
  refine cellOf hh ?_
  have hl := (List.getElem?_eq_some_iff.1 hj).1
  rw [List.getElem?_toArray, List.getElem?_append_left hl]
  exact hj
theorem pCells_one (D : List PV) (h : AllSl D) : ∀ u ∈ pCells D, u.oneCell' = true := by
  intro u hu
  simp only [pCells, List.mem_flatMap] at hu
  obtain ⟨p, hp, hu⟩ := hu
  obtain ⟨ao, l, c, e⟩ := h p hp
  simp at hu
  rcases hu with rfl | rfl
  · rfl
  · rw [e]; rfl
theorem pCells_len (D : List PV) : (pCells D).length = D.length * 2 := by
  induction D with
  | nil => rfl
  | cons p D ih => simp only [pCells, List.flatMap_cons, List.length_append, List.length_cons, List.length_nil] at *; omega
theorem AllSl.drop {D : List PV} (h : AllSl D) (k : Nat) : AllSl (D.drop k) := fun p hp => h p (List.mem_of_mem_drop hp)
theorem mergeP_nil (a : List Pk) : mergeP a [] = a := by cases a <;> simp [mergeP]
theorem mergeP_nil' (a : List Pk) : mergeP [] a = a := by simp [mergeP]
theorem mergeP_b (a b : List Pk) (k i : Nat) (hk : k < a.length) (hi : i < b.length) (h : b[i].w < a[k].w) : mergeP (a.drop k) (b.drop i) = b[i] :: mergeP (a.drop k) (b.drop (i + 1)) := by
  rw [List.drop_eq_getElem_cons hk, List.drop_eq_getElem_cons hi, mergeP, if_pos h]
theorem mergeP_a (a b : List Pk) (k i : Nat) (hk : k < a.length) (hi : i < b.length) (h : ¬ b[i].w < a[k].w) : mergeP (a.drop k) (b.drop i) = a[k] :: mergeP (a.drop (k + 1)) (b.drop i) := by
  rw [List.drop_eq_getElem_cons hk, List.drop_eq_getElem_cons hi, mergeP, if_neg h]

theorem mem_snoc {E A B : List PV} {q : PV} (h : ∀ p ∈ E, p ∈ A ∨ p ∈ B) (hq : q ∈ A ∨ q ∈ B) : ∀ p ∈ E ++ [q], p ∈ A ∨ p ∈ B := by
  intro p hp
  rcases List.mem_append.1 hp with hp | hp
  · exact h p hp
  · simp at hp
    subst hp
    exact hq
theorem mem_tails {E A B : List PV} (h : ∀ p ∈ E, p ∈ A ∨ p ∈ B) (i j : Nat) : ∀ p ∈ E ++ A.drop i ++ B.drop j, p ∈ A ∨ p ∈ B := by
  intro p hp
  rcases List.mem_append.1 hp with hp | hp
  · rcases List.mem_append.1 hp with hp | hp
    · exact h p hp
    · exact Or.inl (List.mem_of_mem_drop hp)
  · exact Or.inr (List.mem_of_mem_drop hp)
theorem sl_eq {b o o' l l' c c' : Nat} (h1 : o = o') (h2 : l = l') (h3 : c = c') : Value.slice (some ⟨b, o, none⟩) l c = .slice (some ⟨b, o', none⟩) l' c' := by rw [h1, h2, h3]
theorem PRow.src {w : World} {g : Nat} {D : List PV} (h : PRow w g D) (k o : Nat) (ho : k < D.length → o = k * 2) : ∀ j u, (pCells (D.drop k))[j]? = some u → w.cell? ((⟨g, o, none⟩ : Addr).add j) = some u := by
  intro j u hj
  rcases Nat.lt_or_ge k D.length with hk | hk
  · rw [ho hk]; exact h.from k j u hj
  · rw [List.drop_of_length_le hk] at hj; simp [pCells] at hj

set_option maxRecDepth 100000 in
set_option maxHeartbeats 1600000 in
theorem merged_any (ga ca gb cb Na Nb : Nat) (A B : List PV) (QA QB : List Pk) (w : World) (hA : PRow w ga A) (hB : PRow w gb B) (rA : RepL w A QA) (rB : RepL w B QB) (hNa : A.length = Na) (hNb : B.length = Nb) (hla : Na ≤ 100000) (hlb : Nb ≤ 100000) (hca : Na ≤ ca) (hcb : Nb ≤ cb) :
    Calls Try.prog 21 #[.slice (some ⟨ga, 0, none⟩) Na ca, .slice (some ⟨gb, 0, none⟩) Nb cb, .func (.func 18) #[] #[]] w fun e w' => ∃ lv E, e = .returned lv ∧ Own w.heap.size w' lv E ∧ RepL w' E (mergeP QA QB) ∧ (∀ p ∈ E, p ∈ A ∨ p ∈ B) ∧ Fr noB w w' := by
  obtain ⟨i0, hi, hz0, hz1, hz2⟩ := info_parts Try.infoPk
  have HQ : Hid (QA.length = Na ∧ QB.length = Nb) := ⟨by rw [← rA.length]; exact hNa, by rw [← rB.length]; exact hNb⟩
  have HN : Hid (A.length = Na ∧ B.length = Nb) := ⟨hNa, hNb⟩
  have HP : Hid (PRow w ga A ∧ PRow w gb B) := ⟨hA, hB⟩
  have HR : Hid (RepL w A QA ∧ RepL w B QB) := ⟨rA, rB⟩
  clear hNa hNb hA hB rA rB
  go_enter Try.func21, Try.ntmps21
  go_wp2_with (at_make; refine wpList_make_own _ rfl _ _ 33 rfl w.heap.size 36 i0 (.agg #[.int .i64 0, .slice none 0 0]) 2 Try.underlying33 hi hz0 hz1 .i64 .i64 _ (Na + Nb) rfl rfl (by omega) (by rw [hz2]; omega) (by unfold maxLen; omega) (Nat.le_refl _) ?_)
  intro w1 hown1 hg1
  have hF1 : Fr noB w w1 := (Fr.refl noB w).grown hg1 (by simp)
  have HO1 : Hid (Own w.heap.size w1 (.slice (some ⟨w.heap.size, 0, none⟩) 0 (Na + Nb)) []) := hown1
  clear hown1 hg1
  go_wp2_with fail
  go_loopg [0, 1, 7] (Na + Nb) (fun gh av bv lv wr => ∃ (ka kb oa ob : Nat) (E : List PV), ka ≤ Na ∧ kb ≤ Nb ∧ gh = Na + Nb - ka - kb ∧ av = .slice (some ⟨ga, oa, none⟩) (Na - ka) (ca - ka) ∧ bv = .slice (some ⟨gb, ob, none⟩) (Nb - kb) (cb - kb) ∧ Hid ((ka < Na → oa = ka * 2) ∧ (kb < Nb → ob = kb * 2)) ∧ Own w.heap.size wr lv E ∧ E.length = ka + kb ∧ (∃ R, RepL wr E R ∧ R ++ mergeP (QA.drop ka) (QB.drop kb) = mergeP QA QB) ∧ Hid (∀ p ∈ E, p ∈ A ∨ p ∈ B) ∧ Fr noB w wr)
  case atStart => exact ⟨0, 0, 0, 0, [], by omega, by omega, rfl, rfl, rfl, ⟨fun _ => rfl, fun _ => rfl⟩, HO1.out, rfl, ⟨[], RepL.nil, rfl⟩, (fun p hp => by simp at hp), hF1⟩
  case round =>
    clear hF1 HO1
    obtain ⟨ka, kb, oa, ob, E, hka, hkb, rfl, rfl, rfl, HOf, hO, hEl, hR, HMem, hF⟩ := hrel
    obtain ⟨so, sc, rfl⟩ := hO.slice
    have HRR : Hid _ := hR
    have HO : Hid _ := hO
    have HE : Hid _ := hEl
    clear hR hO hEl
    by_cases ha : ka < Na
    · by_cases hb : kb < Nb
      · obtain rfl := HOf.out.1 ha
        obtain rfl := HOf.out.2 hb
        have hPa := HP.out.1.keep hF id
        have hPb := HP.out.2.keep hF id
        obtain ⟨a1, l1, q1, e1, c11, c12⟩ := hPa.two HR.out.1.sl ka (by have := HN.out; omega)
        obtain ⟨a2, l2, q2, e2, c21, c22⟩ := hPb.two HR.out.2.sl kb (by have := HN.out; omega)
        have hga : ga < wr.heap.size := by obtain ⟨_, hh⟩ := hPa; exact lt_of_block hh
        have hgb : gb < wr.heap.size := by obtain ⟨_, hh⟩ := hPb; exact lt_of_block hh
        have h1 : (0 : Int) < ((Na - ka : Nat) : Int) := by omega
        have h2 : (0 : Int) < ((Nb - kb : Nat) : Int) := by omega
        have HAt : Hid (∀ (h1 : ka < QA.length) (h2 : kb < QB.length), (at_ A ka).1 = QA[ka].w ∧ (at_ B kb).1 = QB[kb].w) := fun h1 h2 => ⟨(HR.out.1.get ka h1).1, (HR.out.2.get kb h2).1⟩
        have HRa : Hid (∀ (w' : World), Fr noB w w' → ∀ (h1 : ka < QA.length), Sy w' (.slice a1 l1 q1) QA[ka].s) := fun w' hw h1 => by have := (HR.out.1.get ka h1).2; rw [e1] at this; exact this.keep hw (fun _ _ _ h => h)
        have HRb : Hid (∀ (w' : World), Fr noB w w' → ∀ (h1 : kb < QB.length), Sy w' (.slice a2 l2 q2) QB[kb].s) := fun w' hw h1 => by have := (HR.out.2.get kb h1).2; rw [e2] at this; exact this.keep hw (fun _ _ _ h => h)
        have HSl : Hid (AllSl A ∧ AllSl B) := ⟨HR.out.1.sl, HR.out.2.sl⟩
        have hga0 : ga < w.heap.size := by obtain ⟨_, hh⟩ := HP.out.1; exact lt_of_block hh
        have hgb0 : gb < w.heap.size := by obtain ⟨_, hh⟩ := HP.out.2; exact lt_of_block hh
        have d11 : wr.drew.cell? ⟨ga, ka * 2, none⟩ = _ := c11
        have d12 : wr.drew.cell? ⟨ga, ka * 2 + 1, none⟩ = _ := c12
        have d21 : wr.drew.cell? ⟨gb, kb * 2, none⟩ = _ := c21
        have d22 : wr.drew.cell? ⟨gb, kb * 2 + 1, none⟩ = _ := c22
        have HIn : Hid (((at_ A ka).1, Value.slice a1 l1 q1) ∈ A ∧ ((at_ B kb).1, Value.slice a2 l2 q2) ∈ B) := by
          have hn := HN.out
          refine ⟨?_, ?_⟩
          · rw [← e1, at_get A ka (by omega)]; exact List.getElem_mem _
          · rw [← e2, at_get B kb (by omega)]; exact List.getElem_mem _
        clear e1 e2
        generalize (at_ A ka).1 = x1 at *
        generalize (at_ B kb).1 = x2 at *
        obtain ⟨na, hna⟩ : ∃ na, Na - ka = na + 1 := ⟨Na - ka - 1, by omega⟩
        obtain ⟨nb, hnb⟩ : ∃ nb, Nb - kb = nb + 1 := ⟨Nb - kb - 1, by omega⟩
        obtain ⟨pa, hpa⟩ : ∃ pa, ca - ka = pa + 1 := ⟨ca - ka - 1, by omega⟩
        obtain ⟨pb, hpb⟩ : ∃ pb, cb - kb = pb + 1 := ⟨cb - kb - 1, by omega⟩
        have hEl : E.length ≤ 200000 := by have := HE.out; omega
        have HNN : Hid (Na - ka = na + 1 ∧ Nb - kb = nb + 1 ∧ ca - ka = pa + 1 ∧ cb - kb = pb + 1) := ⟨hna, hnb, hpa, hpb⟩
        have i1 : (1 : Int) ≤ ((na : Int) + 1) := by omega
        have i2 : (1 : Int) ≤ ((nb : Int) + 1) := by omega
        have i3 : ((na : Int) + 1) ≤ ((pa : Int) + 1) := by omega
        have i4 : ((nb : Int) + 1) ≤ ((pb : Int) + 1) := by omega
        have i5 : (0 : Int) < ((na : Int) + 1) := by omega
        have i6 : (0 : Int) < ((nb : Int) + 1) := by omega
        rw [hna, hpa, hnb, hpb]
        clear h1 h2 hna hnb hpa hpb
        by_cases hx : x2 < x1
        · go_wp2_with fail
          go_region_held3 (fun w' => w'.cell? ⟨ga, ka * 2, none⟩ = some (.int .i64 (x1 : Int)) ∧ w'.cell? ⟨ga, ka * 2 + 1, none⟩ = some (.slice a1 l1 q1) ∧ w'.cell? ⟨gb, kb * 2, none⟩ = some (.int .i64 (x2 : Int)) ∧ w'.cell? ⟨gb, kb * 2 + 1, none⟩ = some (.slice a2 l2 q2))
            (first | exact ⟨d11, d12, d21, d22⟩ | exact ⟨z11, z12, z21, z22⟩)
            (first | (go_at_call 18; refine (light_lt x2 x1 a2 a1 l2 q2 l1 q1 _ hx).mono ?_; rintro e w2 ⟨rfl, hF2⟩; have z11 := (hF2.cell (a := ⟨ga, ka * 2, none⟩) hga id).trans d11; have z12 := (hF2.cell (a := ⟨ga, ka * 2 + 1, none⟩) hga id).trans d12; have z21 := (hF2.cell (a := ⟨gb, kb * 2, none⟩) hgb id).trans d21; have z22 := (hF2.cell (a := ⟨gb, kb * 2 + 1, none⟩) hgb id).trans d22))
          have hF2' : Fr noB wr w2 := ((Fr.refl noB wr).drew).trans hF2
          have hFw : Fr noB w w2 := hF.trans hF2'
          have hP2 : PRow w2 gb B := HP.out.2.keep hFw id
          have HK : Hid (∀ (T : Nat → Prop) w', Fr T w2 w' → ¬ T gb → w'.cell? ⟨gb, kb * 2, none⟩ = some (.int .i64 (x2 : Int)) ∧ w'.cell? ⟨gb, kb * 2 + 1, none⟩ = some (.slice a2 l2 q2)) := fun T w' hw n1 =>
            ⟨(hw.cell (a := ⟨gb, kb * 2, none⟩) (Nat.lt_of_lt_of_le hgb0 hFw.size) n1).trans ((hF2.cell (a := ⟨gb, kb * 2, none⟩) hgb id).trans d21), (hw.cell (a := ⟨gb, kb * 2 + 1, none⟩) (Nat.lt_of_lt_of_le hgb0 hFw.size) n1).trans ((hF2.cell (a := ⟨gb, kb * 2 + 1, none⟩) hgb id).trans d22)⟩
          have HOw : Hid (∀ w', Fr noB w2 w' → Own w.heap.size w' (.slice so E.length sc) E) := fun w' hw => by
            obtain ⟨o1, o2⟩ := HO.out
            refine ⟨o1, ?_⟩
            rcases o2 with o2 | ⟨g', cap', cur', k1, k2, k3, k4⟩
            · exact Or.inl o2
            · exact Or.inr ⟨g', cap', cur', k1, k2, (hF2'.trans hw).obj k3 id, k4⟩
          have HNE : Hid (¬ (Value.slice so E.length sc).ownBlock = some gb) := fun e => by
            have := Own.base HO.out gb e
            omega
          have hsz := hFw.size
          clear c11 c12 c21 c22 d11 d12 d21 d22 z11 z12 z21 z22 hP2 hPa hPb
          go_wp2_with fail
          go_region_held3 (fun w' => w'.cell? ⟨gb, kb * 2, none⟩ = some (.int .i64 (x2 : Int)) ∧ w'.cell? ⟨gb, kb * 2 + 1, none⟩ = some (.slice a2 l2 q2))
            (first | exact HK.out noB _ (Fr.refl noB w2) id | exact HK.out noB _ (Fr.refl noB w2).drew id | exact HK.out noB _ ((Fr.refl noB w2).alloc _).drew id | exact HK.out noB _ ((Fr.refl noB w2).drew.alloc _) id | exact HK.out _ _ hFc3 HNE.out)
            ((refine step_append_lies _ (by rfl) _ _ _ (by rfl) w.heap.size 36 i0 (.agg #[.int .i64 0, .slice none 0 0]) 2 32 Try.underlying33 hi hz0 hz1 hz2 rfl (by decide) (.slice so E.length sc) E.length (pCells E) (by rfl) (HOw.out _ ((Fr.refl noB w2).alloc _).drew) ⟨w2.heap.size, 0, none⟩ 1 1 [.int .i64 (x2 : Int), .slice a2 l2 q2] (by rfl) (by rfl) (World.news_of_block (cs := #[.int .i64 (x2 : Int), .slice a2 l2 q2]) (t := 36) (fr := (0, 0)) (heap_alloc_new w2 _)) (by intro u hu; simp at hu; rcases hu with rfl | rfl <;> rfl) (by decide) (by unfold maxLen; omega) (by omega) (by simp; omega) (w2.heap.size + 1) (by simp) ?_; intro g3 cap3 w3 hown3 hg3 hat3 hlt3; have hFc3 : Fr (fun b => (Value.slice so E.length sc).ownBlock = some b) w2 w3 := (Fr.weak ((Fr.refl noB w2).alloc _).drew).grown hg3 (fun b hb => Or.inl hb)))
          have hO3 : Own w.heap.size w3 (.slice (some ⟨g3, 0, none⟩) (E.length + 1) cap3) (E ++ [(x2, Value.slice a2 l2 q2)]) := by
            unfold Own
            rw [pCells_append, List.length_append]
            exact hown3
          have hOw2 := HOw.out _ ((Fr.refl noB w2).alloc (.cells #[.int .i64 (x2 : Int), .slice a2 l2 q2] 36 (0, 0))).drew
          have hF4 : Fr noB w w3 := (hFw.trans ((Fr.refl noB w2).alloc (.cells #[.int .i64 (x2 : Int), .slice a2 l2 q2] 36 (0, 0))).drew).grown hg3 (fun b hb => Or.inr (Own.base hOw2 b hb))
          have HR3 : Hid (∃ R, RepL w3 (E ++ [(x2, Value.slice a2 l2 q2)]) R ∧ R ++ mergeP (QA.drop ka) (QB.drop (kb + 1)) = mergeP QA QB) := by
            obtain ⟨R, r1, r2⟩ := HRR.out
            have hk : kb < QB.length := by have := HQ.out; omega
            have hm := mergeP_b QA QB ka kb (by have := HQ.out; omega) (by have := HQ.out; omega) (by have := HAt.out (by have := HQ.out; omega) (by have := HQ.out; omega); omega)
            have hat := HAt.out (by have := HQ.out; omega) (by have := HQ.out; omega)
            refine ⟨R ++ [QB[kb]], ?_, by rw [← r2, hm, List.append_assoc]; rfl⟩
            refine RepL.append (r1.keep (hF2'.weak.trans hFc3) (Own.ob HO.out)) (RepL.cons ⟨hat.2, ?_⟩ RepL.nil)
            exact HRb.out w3 hF4 hk
          have HM3 : Hid (∀ p ∈ E ++ [(x2, Value.slice a2 l2 q2)], p ∈ A ∨ p ∈ B) := mem_snoc HMem.out (Or.inr HIn.out.2)
          have HO3 : Hid _ := hO3
          clear hO3 hOw2 hown3 hg3 hat3
          go_wp2_with fail
          all_goals
            go_roundg (Na + Nb - ka - (kb + 1))
            case measure => omega
            case rel => exact ⟨ka, kb + 1, ka * 2, _, _, by omega, by omega, rfl, sl_eq rfl (by have := HNN.out; omega) (by have := HNN.out; omega), sl_eq rfl (by have := HNN.out; omega) (by have := HNN.out; omega), ⟨fun _ => rfl, fun h => by have := HNN.out; omega⟩, HO3.out, by have := HE.out; simp; omega, HR3.out, HM3.out, hF4⟩
        · go_wp2_with fail
          go_region_held3 (fun w' => w'.cell? ⟨ga, ka * 2, none⟩ = some (.int .i64 (x1 : Int)) ∧ w'.cell? ⟨ga, ka * 2 + 1, none⟩ = some (.slice a1 l1 q1) ∧ w'.cell? ⟨gb, kb * 2, none⟩ = some (.int .i64 (x2 : Int)) ∧ w'.cell? ⟨gb, kb * 2 + 1, none⟩ = some (.slice a2 l2 q2))
            (first | exact ⟨d11, d12, d21, d22⟩ | exact ⟨z11, z12, z21, z22⟩)
            (first | (go_at_call 18; refine (light_ge x2 x1 a2 a1 l2 q2 l1 q1 _ hx).mono ?_; rintro e w2 ⟨r, rfl, hr, hF2⟩; have z11 := (hF2.cell (a := ⟨ga, ka * 2, none⟩) hga id).trans d11; have z12 := (hF2.cell (a := ⟨ga, ka * 2 + 1, none⟩) hga id).trans d12; have z21 := (hF2.cell (a := ⟨gb, kb * 2, none⟩) hgb id).trans d21; have z22 := (hF2.cell (a := ⟨gb, kb * 2 + 1, none⟩) hgb id).trans d22))
          have hF2' : Fr noB wr w2 := ((Fr.refl noB wr).drew).trans hF2
          have hFw : Fr noB w w2 := hF.trans hF2'
          have hr0 : ¬ (r : Int) < 0 := by omega
          have hP2 : PRow w2 ga A := HP.out.1.keep hFw id
          have HK : Hid (∀ (T : Nat → Prop) w', Fr T w2 w' → ¬ T ga → w'.cell? ⟨ga, ka * 2, none⟩ = some (.int .i64 (x1 : Int)) ∧ w'.cell? ⟨ga, ka * 2 + 1, none⟩ = some (.slice a1 l1 q1)) := fun T w' hw n1 =>
            ⟨(hw.cell (a := ⟨ga, ka * 2, none⟩) (Nat.lt_of_lt_of_le hga0 hFw.size) n1).trans ((hF2.cell (a := ⟨ga, ka * 2, none⟩) hga id).trans d11), (hw.cell (a := ⟨ga, ka * 2 + 1, none⟩) (Nat.lt_of_lt_of_le hga0 hFw.size) n1).trans ((hF2.cell (a := ⟨ga, ka * 2 + 1, none⟩) hga id).trans d12)⟩
          have HOw : Hid (∀ w', Fr noB w2 w' → Own w.heap.size w' (.slice so E.length sc) E) := fun w' hw => by
            obtain ⟨o1, o2⟩ := HO.out
            refine ⟨o1, ?_⟩
            rcases o2 with o2 | ⟨g', cap', cur', k1, k2, k3, k4⟩
            · exact Or.inl o2
            · exact Or.inr ⟨g', cap', cur', k1, k2, (hF2'.trans hw).obj k3 id, k4⟩
          have HNE : Hid (¬ (Value.slice so E.length sc).ownBlock = some ga) := fun e => by
            have := Own.base HO.out ga e
            omega
          have hsz := hFw.size
          clear c11 c12 c21 c22 d11 d12 d21 d22 z11 z12 z21 z22 hP2 hPa hPb
          go_wp2_with fail
          go_region_held3 (fun w' => w'.cell? ⟨ga, ka * 2, none⟩ = some (.int .i64 (x1 : Int)) ∧ w'.cell? ⟨ga, ka * 2 + 1, none⟩ = some (.slice a1 l1 q1))
            (first | exact HK.out noB _ (Fr.refl noB w2) id | exact HK.out noB _ (Fr.refl noB w2).drew id | exact HK.out noB _ ((Fr.refl noB w2).alloc _).drew id | exact HK.out noB _ ((Fr.refl noB w2).drew.alloc _) id | exact HK.out _ _ hFc3 HNE.out)
            ((refine step_append_lies _ (by rfl) _ _ _ (by rfl) w.heap.size 36 i0 (.agg #[.int .i64 0, .slice none 0 0]) 2 32 Try.underlying33 hi hz0 hz1 hz2 rfl (by decide) (.slice so E.length sc) E.length (pCells E) (by rfl) (HOw.out _ ((Fr.refl noB w2).alloc _).drew) ⟨w2.heap.size, 0, none⟩ 1 1 [.int .i64 (x1 : Int), .slice a1 l1 q1] (by rfl) (by rfl) (World.news_of_block (cs := #[.int .i64 (x1 : Int), .slice a1 l1 q1]) (t := 36) (fr := (0, 0)) (heap_alloc_new w2 _)) (by intro u hu; simp at hu; rcases hu with rfl | rfl <;> rfl) (by decide) (by unfold maxLen; omega) (by omega) (by simp; omega) (w2.heap.size + 1) (by simp) ?_; intro g3 cap3 w3 hown3 hg3 hat3 hlt3; have hFc3 : Fr (fun b => (Value.slice so E.length sc).ownBlock = some b) w2 w3 := (Fr.weak ((Fr.refl noB w2).alloc _).drew).grown hg3 (fun b hb => Or.inl hb)))
          have hO3 : Own w.heap.size w3 (.slice (some ⟨g3, 0, none⟩) (E.length + 1) cap3) (E ++ [(x1, Value.slice a1 l1 q1)]) := by
            unfold Own
            rw [pCells_append, List.length_append]
            exact hown3
          have hOw2 := HOw.out _ ((Fr.refl noB w2).alloc (.cells #[.int .i64 (x1 : Int), .slice a1 l1 q1] 36 (0, 0))).drew
          have hF4 : Fr noB w w3 := (hFw.trans ((Fr.refl noB w2).alloc (.cells #[.int .i64 (x1 : Int), .slice a1 l1 q1] 36 (0, 0))).drew).grown hg3 (fun b hb => Or.inr (Own.base hOw2 b hb))
          have HR3 : Hid (∃ R, RepL w3 (E ++ [(x1, Value.slice a1 l1 q1)]) R ∧ R ++ mergeP (QA.drop (ka + 1)) (QB.drop kb) = mergeP QA QB) := by
            obtain ⟨R, r1, r2⟩ := HRR.out
            have hk : ka < QA.length := by have := HQ.out; omega
            have hm := mergeP_a QA QB ka kb (by have := HQ.out; omega) (by have := HQ.out; omega) (by have := HAt.out (by have := HQ.out; omega) (by have := HQ.out; omega); omega)
            have hat := HAt.out (by have := HQ.out; omega) (by have := HQ.out; omega)
            refine ⟨R ++ [QA[ka]], ?_, by rw [← r2, hm, List.append_assoc]; rfl⟩
            refine RepL.append (r1.keep (hF2'.weak.trans hFc3) (Own.ob HO.out)) (RepL.cons ⟨hat.1, ?_⟩ RepL.nil)
            exact HRa.out w3 hF4 hk
          have HM3 : Hid (∀ p ∈ E ++ [(x1, Value.slice a1 l1 q1)], p ∈ A ∨ p ∈ B) := mem_snoc HMem.out (Or.inl HIn.out.1)
          have HO3 : Hid _ := hO3
          clear hO3 hOw2 hown3 hg3 hat3
          go_wp2_with fail
          all_goals
            go_roundg (Na + Nb - (ka + 1) - kb)
            case measure => omega
            case rel => exact ⟨ka + 1, kb, _, kb * 2, _, by omega, by omega, rfl, sl_eq rfl (by have := HNN.out; omega) (by have := HNN.out; omega), sl_eq rfl (by have := HNN.out; omega) (by have := HNN.out; omega), ⟨fun h => by have := HNN.out; omega, fun _ => rfl⟩, HO3.out, by have := HE.out; simp; omega, HR3.out, HM3.out, hF4⟩
      · have ta : (0 : Int) < ((Na - ka : Nat) : Int) := by omega
        have tb : ¬ (0 : Int) < ((Nb - kb : Nat) : Int) := by omega
        have hOs := HO.out
        have hsz := hF.size
        have hEl : E.length ≤ 200000 := by have := HE.out; omega
        have HX : Hid (Na - ka ≤ Na ∧ Nb - kb ≤ Nb ∧ (A.drop ka).length = Na - ka ∧ (B.drop kb).length = Nb - kb) := by have := HN.out; refine ⟨by omega, by omega, by simp; omega, by simp; omega⟩
        have HSA : Hid (∀ w', Fr noB w w' → ∀ j u, (pCells (A.drop ka))[j]? = some u → w'.cell? ((⟨ga, oa, none⟩ : Addr).add j) = some u) := fun w' hw => (HP.out.1.keep hw id).src ka oa (fun h => HOf.out.1 (by have := HN.out; omega))
        have HSB : Hid (∀ w', Fr noB w w' → ∀ j u, (pCells (B.drop kb))[j]? = some u → w'.cell? ((⟨gb, ob, none⟩ : Addr).add j) = some u) := fun w' hw => (HP.out.2.keep hw id).src kb ob (fun h => HOf.out.2 (by have := HN.out; omega))
        obtain ⟨ma, hma⟩ : ∃ ma, Na - ka = ma := ⟨_, rfl⟩
        obtain ⟨mb, hmb⟩ : ∃ mb, Nb - kb = mb := ⟨_, rfl⟩
        have HM : Hid (Na - ka = ma ∧ Nb - kb = mb) := ⟨hma, hmb⟩
        have hma' : ma ≤ 100000 := by omega
        have hmb' : mb ≤ 100000 := by omega
        rw [hma, hmb]
        rw [hma] at ta
        rw [hmb] at tb
        clear hma hmb hOs
        go_wp2_with (at_builtin; refine wpList_append_own _ rfl (.tmp 47) (.tmp 48) 33 rfl w.heap.size 36 i0 (.agg #[.int .i64 0, .slice none 0 0]) 2 32 Try.underlying33 hi hz0 hz1 hz2 rfl (by decide) _ E.length (pCells E) rfl HO.out ⟨ga, oa, none⟩ ma (ca - ka) (pCells (A.drop ka)) rfl (by rw [pCells_len, HX.out.2.2.1, HM.out.1]) (HSA.out _ hF) (pCells_one _ (HR.out.1.sl.drop ka)) (by unfold maxLen; omega) (by omega) hsz ?_)
        intro v1 w1 hown1 hg1 _
        have hF1 : Fr noB w w1 := hF.grown hg1 (fun b hb => Or.inr (Own.base HO.out b hb))
        have hO1 : Own w.heap.size w1 v1 (E ++ A.drop ka) := by
          unfold Own
          rw [pCells_append, List.length_append, HX.out.2.2.1, HM.out.1]
          exact hown1
        have hFg1 : Fr (fun b => (Value.slice so E.length sc).ownBlock = some b) wr w1 := (Fr.refl _ _).grown hg1 (fun b hb => Or.inl hb)
        have HR1 : Hid (∃ R, RepL w1 (E ++ A.drop ka) (R ++ QA.drop ka) ∧ R ++ mergeP (QA.drop ka) (QB.drop kb) = mergeP QA QB) := by
          obtain ⟨R, r1, r2⟩ := HRR.out
          exact ⟨R, RepL.append (r1.keep hFg1 (Own.ob HO.out)) ((HR.out.1.keep hF1 (fun _ _ _ h => h)).drop ka), r2⟩
        have HO1' : Hid (w1.ownsRow w.heap.size 36 2 v1 (E.length + ma) (pCells E ++ pCells (A.drop ka))) := hown1
        have HO1 : Hid (Own w.heap.size w1 v1 (E ++ A.drop ka)) := hO1
        obtain ⟨so1, sc1, hv1⟩ := hO1.slice
        rw [List.length_append, HX.out.2.2.1, HM.out.1] at hv1
        subst hv1
        have hsz1 := hF1.size
        clear hO1 hown1 hg1 hFg1
        go_wp2_with (at_builtin; refine wpList_append_own _ rfl (.tmp 50) (.tmp 51) 33 rfl w.heap.size 36 i0 (.agg #[.int .i64 0, .slice none 0 0]) 2 32 Try.underlying33 hi hz0 hz1 hz2 rfl (by decide) _ (E.length + ma) (pCells E ++ pCells (A.drop ka)) rfl HO1'.out ⟨gb, ob, none⟩ mb (cb - kb) (pCells (B.drop kb)) rfl (by rw [pCells_len, HX.out.2.2.2, HM.out.2]) (HSB.out _ hF1) (pCells_one _ (HR.out.2.sl.drop kb)) (by unfold maxLen; omega) (by omega) hsz1 ?_)
        intro v2 w2 hown2 hg2 _
        have hF2 : Fr noB w w2 := hF1.grown hg2 (fun b hb => Or.inr (Own.base HO1.out b hb))
        have hO2 : Own w.heap.size w2 v2 (E ++ A.drop ka ++ B.drop kb) := by
          unfold Own
          rw [pCells_append, pCells_append, List.append_assoc (pCells E), List.length_append, List.length_append, HX.out.2.2.1, HX.out.2.2.2, HM.out.1, HM.out.2]
          exact hown2
        have hFg2 : Fr (fun b => (Value.slice so1 (E.length + ma) sc1).ownBlock = some b) w1 w2 := (Fr.refl _ _).grown hg2 (fun b hb => Or.inl hb)
        obtain ⟨so2, sc2, rfl⟩ := hO2.slice
        have HO2 : Hid _ := hO2
        clear hO2 hown2 hg2
        go_wp2_with fail
        go_ret
        refine ⟨_, _, rfl, HO2.out, ?_, mem_tails HMem.out ka kb, hF2⟩
        obtain ⟨R, r1, r2⟩ := HR1.out
        have r3 := RepL.append (r1.keep hFg2 (Own.ob HO1.out)) ((HR.out.2.keep hF2 (fun _ _ _ h => h)).drop kb)
        rw [← r2]
        have hq := HQ.out
        have e : QB.drop kb = [] := List.drop_of_length_le (by omega)
        rw [e, mergeP_nil]
        rw [e, List.append_nil] at r3
        exact r3
    · have ta : ¬ (0 : Int) < ((Na - ka : Nat) : Int) := by omega
      have tb : True ∨ (0 : Int) < ((Nb - kb : Nat) : Int) := Or.inl trivial
      have hOs := HO.out
      have hsz := hF.size
      have hEl : E.length ≤ 200000 := by have := HE.out; omega
      have HX : Hid (Na - ka ≤ Na ∧ Nb - kb ≤ Nb ∧ (A.drop ka).length = Na - ka ∧ (B.drop kb).length = Nb - kb) := by have := HN.out; refine ⟨by omega, by omega, by simp; omega, by simp; omega⟩
      have HSA : Hid (∀ w', Fr noB w w' → ∀ j u, (pCells (A.drop ka))[j]? = some u → w'.cell? ((⟨ga, oa, none⟩ : Addr).add j) = some u) := fun w' hw => (HP.out.1.keep hw id).src ka oa (fun h => HOf.out.1 (by have := HN.out; omega))
      have HSB : Hid (∀ w', Fr noB w w' → ∀ j u, (pCells (B.drop kb))[j]? = some u → w'.cell? ((⟨gb, ob, none⟩ : Addr).add j) = some u) := fun w' hw => (HP.out.2.keep hw id).src kb ob (fun h => HOf.out.2 (by have := HN.out; omega))
      obtain ⟨ma, hma⟩ : ∃ ma, Na - ka = ma := ⟨_, rfl⟩
      obtain ⟨mb, hmb⟩ : ∃ mb, Nb - kb = mb := ⟨_, rfl⟩
      have HM : Hid (Na - ka = ma ∧ Nb - kb = mb) := ⟨hma, hmb⟩
      have hma' : ma ≤ 100000 := by omega
      have hmb' : mb ≤ 100000 := by omega
      rw [hma, hmb]
      rw [hma] at ta
      rw [hmb] at tb
      clear hma hmb hOs
      go_wp2_with (at_builtin; refine wpList_append_own _ rfl (.tmp 47) (.tmp 48) 33 rfl w.heap.size 36 i0 (.agg #[.int .i64 0, .slice none 0 0]) 2 32 Try.underlying33 hi hz0 hz1 hz2 rfl (by decide) _ E.length (pCells E) rfl HO.out ⟨ga, oa, none⟩ ma (ca - ka) (pCells (A.drop ka)) rfl (by rw [pCells_len, HX.out.2.2.1, HM.out.1]) (HSA.out _ hF) (pCells_one _ (HR.out.1.sl.drop ka)) (by unfold maxLen; omega) (by omega) hsz ?_)
      intro v1 w1 hown1 hg1 _
      have hF1 : Fr noB w w1 := hF.grown hg1 (fun b hb => Or.inr (Own.base HO.out b hb))
      have hO1 : Own w.heap.size w1 v1 (E ++ A.drop ka) := by
        unfold Own
        rw [pCells_append, List.length_append, HX.out.2.2.1, HM.out.1]
        exact hown1
      have hFg1 : Fr (fun b => (Value.slice so E.length sc).ownBlock = some b) wr w1 := (Fr.refl _ _).grown hg1 (fun b hb => Or.inl hb)
      have HR1 : Hid (∃ R, RepL w1 (E ++ A.drop ka) (R ++ QA.drop ka) ∧ R ++ mergeP (QA.drop ka) (QB.drop kb) = mergeP QA QB) := by
        obtain ⟨R, r1, r2⟩ := HRR.out
        exact ⟨R, RepL.append (r1.keep hFg1 (Own.ob HO.out)) ((HR.out.1.keep hF1 (fun _ _ _ h => h)).drop ka), r2⟩
      have HO1' : Hid (w1.ownsRow w.heap.size 36 2 v1 (E.length + ma) (pCells E ++ pCells (A.drop ka))) := hown1
      have HO1 : Hid (Own w.heap.size w1 v1 (E ++ A.drop ka)) := hO1
      obtain ⟨so1, sc1, hv1⟩ := hO1.slice
      rw [List.length_append, HX.out.2.2.1, HM.out.1] at hv1
      subst hv1
      have hsz1 := hF1.size
      clear hO1 hown1 hg1 hFg1
      go_wp2_with (at_builtin; refine wpList_append_own _ rfl (.tmp 50) (.tmp 51) 33 rfl w.heap.size 36 i0 (.agg #[.int .i64 0, .slice none 0 0]) 2 32 Try.underlying33 hi hz0 hz1 hz2 rfl (by decide) _ (E.length + ma) (pCells E ++ pCells (A.drop ka)) rfl HO1'.out ⟨gb, ob, none⟩ mb (cb - kb) (pCells (B.drop kb)) rfl (by rw [pCells_len, HX.out.2.2.2, HM.out.2]) (HSB.out _ hF1) (pCells_one _ (HR.out.2.sl.drop kb)) (by unfold maxLen; omega) (by omega) hsz1 ?_)
      intro v2 w2 hown2 hg2 _
      have hF2 : Fr noB w w2 := hF1.grown hg2 (fun b hb => Or.inr (Own.base HO1.out b hb))
      have hO2 : Own w.heap.size w2 v2 (E ++ A.drop ka ++ B.drop kb) := by
        unfold Own
        rw [pCells_append, pCells_append, List.append_assoc (pCells E), List.length_append, List.length_append, HX.out.2.2.1, HX.out.2.2.2, HM.out.1, HM.out.2]
        exact hown2
      have hFg2 : Fr (fun b => (Value.slice so1 (E.length + ma) sc1).ownBlock = some b) w1 w2 := (Fr.refl _ _).grown hg2 (fun b hb => Or.inl hb)
      obtain ⟨so2, sc2, rfl⟩ := hO2.slice
      have HO2 : Hid _ := hO2
      clear hO2 hown2 hg2
      go_wp2_with fail
      go_ret
      refine ⟨_, _, rfl, HO2.out, ?_, mem_tails HMem.out ka kb, hF2⟩
      obtain ⟨R, r1, r2⟩ := HR1.out
      have r3 := RepL.append (r1.keep hFg2 (Own.ob HO1.out)) ((HR.out.2.keep hF2 (fun _ _ _ h => h)).drop kb)
      rw [← r2]
      have hq := HQ.out
      have e : QA.drop ka = [] := List.drop_of_length_le (by omega)
      rw [e, mergeP_nil']
      rw [e, List.append_nil] at r3
      exact r3
#print axioms merged_any
end Go.Proofs.Ytcefochgpijfbaa
