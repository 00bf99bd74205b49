/- The document's dynamic codes: their contract. -/
import Derived.Test.YthgnhcdodfildaaDoorK36
namespace Go.Proofs.YthgnhcdodfildaaDoor
open Go.RowKit Go.Shelf
attribute [local go_sem ↓] Go.wp_at_zero Go.wp_at_succ

theorem head_rb (B : List Nat) (p : Nat) (hp : p ≤ 8 * B.length) : ∃ x1 e1 p1 x2 e2 p2 x3 e3 p3 : Nat, rbA B 0 p 5 = (x1, e1, p1) ∧ rbA B e1 p1 5 = (x2, e2, p2) ∧ rbA B e2 p2 4 = (x3, e3, p3) ∧ x1 ≤ 31 ∧ x2 ≤ 31 ∧ x3 ≤ 15 ∧ p1 ≤ 8 * B.length ∧ p2 ≤ 8 * B.length ∧ p3 ≤ 8 * B.length ∧
    ((8 * B.length < p + 14 ∧ e3 = 33) ∨ (p + 14 ≤ 8 * B.length ∧ e3 = 0 ∧ p3 = p + 14 ∧ x1 + 257 = hLit B p ∧ x2 + 1 = hDis B p ∧ x3 + 4 = hMny B p)) := by
  obtain ⟨h1, h2, h3⟩ := head14 B p
  have l1 := numAt_lt B p 5
  have l2 := numAt_lt B (p + 5) 5
  have l3 := numAt_lt B (p + 5 + 5) 4
  by_cases c1 : p + 5 ≤ 8 * B.length
  · have e1 : rbA B 0 p 5 = (numAt B p 5, 0, p + 5) := by unfold rbA bitA; rw [if_pos rfl, if_pos c1]
    by_cases c2 : p + 5 + 5 ≤ 8 * B.length
    · have e2 : rbA B 0 (p + 5) 5 = (numAt B (p + 5) 5, 0, p + 5 + 5) := by unfold rbA bitA; rw [if_pos rfl, if_pos c2]
      by_cases c3 : p + 5 + 5 + 4 ≤ 8 * B.length
      · have e3 : rbA B 0 (p + 5 + 5) 4 = (numAt B (p + 5 + 5) 4, 0, p + 5 + 5 + 4) := by unfold rbA bitA; rw [if_pos rfl, if_pos c3]
        exact ⟨_, _, _, _, _, _, _, _, _, e1, e2, e3, by omega, by omega, by omega, by omega, by omega, by omega, Or.inr ⟨by omega, rfl, by omega, by omega, by omega, by omega⟩⟩
      · have e3 : rbA B 0 (p + 5 + 5) 4 = (0, 33, p + 5 + 5) := by unfold rbA bitA; rw [if_pos rfl, if_neg c3]
        exact ⟨_, _, _, _, _, _, _, _, _, e1, e2, e3, by omega, by omega, by omega, by omega, by omega, by omega, Or.inl ⟨by omega, rfl⟩⟩
    · have e2 : rbA B 0 (p + 5) 5 = (0, 33, p + 5) := by unfold rbA bitA; rw [if_pos rfl, if_neg c2]
      have e3 : rbA B 33 (p + 5) 4 = (0, 33, p + 5) := rfl
      exact ⟨_, _, _, _, _, _, _, _, _, e1, e2, e3, by omega, by omega, by omega, by omega, by omega, by omega, Or.inl ⟨by omega, rfl⟩⟩
  · have e1 : rbA B 0 p 5 = (0, 33, p) := by unfold rbA bitA; rw [if_pos rfl, if_neg c1]
    have e2 : rbA B 33 p 5 = (0, 33, p) := rfl
    have e3 : rbA B 33 p 4 = (0, 33, p) := rfl
    exact ⟨_, _, _, _, _, _, _, _, _, e1, e2, e3, by omega, by omega, by omega, by omega, by omega, by omega, Or.inl ⟨by omega, rfl⟩⟩
theorem StIs.row {w : World} {ib p er r : Nat} {v ov bv : Value} {B O X : List Nat} {mo : Int} (h : StIs w ib v B p mo ov O er bv) (hr : RowN w r 3 .i64 X) (hlt : ib < r) (o : Nat) (u : Value) : StIs (w.setCell ⟨r, o, none⟩ u) ib v B p mo ov O er bv :=
  h.keep (S := oneB r) ((Fr.refl _ w).setOne o u) (fun e => by have e' : ib = r := e; omega) (fun b hb e => by have e' : b = r := e; omega) (fun k cur _ hk e => by
    have e' : k = r := e
    have hr' : w.heap[r]? = some (.cells (nVals .i64 X).toArray 3 (0, 0)) := hr
    rw [e', hr'] at hk
    cases hk)
theorem dfr {w w1 w5 w8 W9 : World} {ib r : Nat} (h1 : Fr noB w w1) (h2 : Fr (oneB ib) w1 w5) (h3 : Fr (fun k => k = ib ∨ k = r) w5 w8) (h4 : Fr (fun k => k = w.heap.size ∨ k = w.heap.size + 1) w8 W9) (_ : ib < w.heap.size) (hr : w.heap.size ≤ r) : Fr (oneB ib) w W9 :=
  (((h1.weak.trans h2).then h3 (fun k hk => by
    rcases hk with e | e
    · exact Or.inl e
    · exact Or.inr (by omega))).then h4 (fun k hk => by
    rcases hk with e | e
    · exact Or.inr (by omega)
    · exact Or.inr (by omega)))
set_option maxRecDepth 100000 in
set_option maxHeartbeats 6400000 in
theorem rdynamic_any (ib p : Nat) (v ov bv : Value) (B O : List Nat) (mo : Int) (w : World) (h : StIs w ib v B p mo ov O 0 bv) (hB : ∀ x ∈ B, x < 256) (hp : p ≤ 8 * B.length) (hl : B.length ≤ 1073741824) :
    Calls Tryd.prog 43 #[.pointer (some ⟨ib, 0, none⟩)] w fun e w' => ∃ lv dv, (e = .returned (.tuple #[.agg #[lv], .agg #[dv]]) ∧ (∃ a m c, lv = .slice a m c) ∧ (∃ a m c, dv = .slice a m c)) ∧ Fr (oneB ib) w w' ∧ ((hdA B p).1 ≠ 0 → ∃ p', StIs w' ib v B p' mo ov O (hdA B p).1 bv ∧ p' ≤ 8 * B.length) ∧
      ((hdA B p).1 = 0 → StIs w' ib v B (hdA B p).2.1 mo ov O 0 bv ∧ (∀ w'', Fr (wS w' ib) w' w'' → Ns .i64 w'' lv (up (hdA B p).2.2.1)) ∧ (∀ w'', Fr (wS w' ib) w' w'' → Ns .i64 w'' dv (up (hdA B p).2.2.2))) := by
  obtain ⟨i0, hi, hz0, hz1, hz2⟩ := info_parts info64N
  have hib : ib < w.heap.size := lt_of_block h.at_
  have HHB : Hid (∀ x ∈ B, x < 256) := hB
  obtain ⟨wz, hwz⟩ : ∃ wz, wz = ((w.alloc (.cells #[.slice none 0 0] 86 (0, 0))).alloc (.cells #[.slice none 0 0] 86 (0, 0))).alloc (.cells #[.int .i64 0, .int .i64 0, .int .i64 0, .int .i64 0, .int .i64 0, .int .i64 0, .int .i64 0, .int .i64 0, .int .i64 0, .int .i64 0, .int .i64 0, .int .i64 0, .int .i64 0, .int .i64 0, .int .i64 0, .int .i64 0, .int .i64 0, .int .i64 0, .int .i64 0] 112 (0, 0)) := ⟨_, rfl⟩
  have HZ : Hid (wz.heap[w.heap.size + 1 + 1]? = some (.cells #[.int .i64 0, .int .i64 0, .int .i64 0, .int .i64 0, .int .i64 0, .int .i64 0, .int .i64 0, .int .i64 0, .int .i64 0, .int .i64 0, .int .i64 0, .int .i64 0, .int .i64 0, .int .i64 0, .int .i64 0, .int .i64 0, .int .i64 0, .int .i64 0, .int .i64 0] 112 (0, 0))) := by
    have h := heap_alloc_new ((w.alloc (.cells #[.slice none 0 0] 86 (0, 0))).alloc (.cells #[.slice none 0 0] 86 (0, 0))) (.cells #[.int .i64 0, .int .i64 0, .int .i64 0, .int .i64 0, .int .i64 0, .int .i64 0, .int .i64 0, .int .i64 0, .int .i64 0, .int .i64 0, .int .i64 0, .int .i64 0, .int .i64 0, .int .i64 0, .int .i64 0, .int .i64 0, .int .i64 0, .int .i64 0, .int .i64 0] 112 (0, 0))
    rw [show ((w.alloc (.cells #[.slice none 0 0] 86 (0, 0))).alloc (.cells #[.slice none 0 0] 86 (0, 0))).heap.size = w.heap.size + 1 + 1 by simp] at h
    rw [hwz]
    exact h
  have HWZ : Hid _ := hwz
  have hzr := HZ.out
  rw [hwz] at hzr
  have HZr : Hid _ := hzr
  clear hzr
  have HFz : Hid (Fr noB w wz) := by rw [hwz]; exact (((Fr.refl noB w).alloc _).alloc _).alloc _
  have HZ1 : Hid (wz.heap[w.heap.size]? = some (.cells #[.slice none 0 0] 86 (0, 0))) := by
    rw [hwz]
    exact (((Fr.refl noB _).alloc _).alloc _).obj (heap_alloc_new w _) id
  have HZ2 : Hid (wz.heap[w.heap.size + 1]? = some (.cells #[.slice none 0 0] 86 (0, 0))) := by
    have h := heap_alloc_new (w.alloc (.cells #[.slice none 0 0] 86 (0, 0))) (.cells #[.slice none 0 0] 86 (0, 0))
    rw [show (w.alloc (.cells #[.slice none 0 0] 86 (0, 0))).heap.size = w.heap.size + 1 by simp] at h
    rw [hwz]
    exact ((Fr.refl noB _).alloc _).obj h id
  obtain ⟨w1, hw1⟩ : ∃ w1, w1 = wz.setRow (w.heap.size + 1 + 1) ordV := ⟨_, rfl⟩
  have HF01 : Hid (Fr noB w w1) := by rw [hw1]; exact HFz.out.setRow _ (Or.inr (by omega)) _
  have HO1 : Hid (w1.heap[w.heap.size + 1 + 1]? = some (.cells ordV 112 (0, 0))) := by rw [hw1]; exact setRow_heap _ _ _ _ _ _ HZ.out
  have HP1 : Hid (w1.heap[w.heap.size]? = some (.cells #[.slice none 0 0] 86 (0, 0))) := by rw [hw1]; exact (setRow_other _ _ _ _ (by omega)).trans HZ1.out
  have HP2 : Hid (w1.heap[w.heap.size + 1]? = some (.cells #[.slice none 0 0] 86 (0, 0))) := by rw [hw1]; exact (setRow_other _ _ _ _ (by omega)).trans HZ2.out
  have HI1 : Hid (StIs w1 ib v B p mo ov O 0 bv) := h.rdr HF01.out.weak (HF01.out.obj h.at_ id)
  have HW1 : Hid _ := hw1
  have hs1 : w.heap.size + 1 + 1 < w1.heap.size := lt_of_block HO1.out
  obtain ⟨x1, e1, p1, x2, e2, p2, x3, e3, p3, hr1, hr2, hr3, hx1, hx2, hx3, hp1, hp2, hp3, hcase⟩ := head_rb B p hp
  have C1 := rbits_any mo ov bv 0 ib v B p 5 w1 HI1.out.at_ HI1.out.bs hB hp (by omega) (by decide)
  have C2 := fun w' (hs : SfAt mo ov bv e1 w' ib v p1) (hb : Bs w' v B) => rbits_any mo ov bv e1 ib v B p1 5 w' hs hb hB hp1 (by omega) (by decide)
  have C3 := fun w' (hs : SfAt mo ov bv e2 w' ib v p2) (hb : Bs w' v B) => rbits_any mo ov bv e2 ib v B p2 4 w' hs hb hB hp2 (by omega) (by decide)
  rw [hr1] at C1
  rw [hr2] at C2
  rw [hr3] at C3
  have HC2 : Hid _ := C2
  have HC3 : Hid _ := C3
  obtain ⟨lit, hlit⟩ : ∃ lit, x1 + 257 = lit := ⟨_, rfl⟩
  obtain ⟨dis, hdis⟩ : ∃ dis, x2 + 1 = dis := ⟨_, rfl⟩
  obtain ⟨many, hmany⟩ : ∃ many, x3 + 4 = many := ⟨_, rfl⟩
  have hlitI : (x1 : Int) + 257 = (lit : Int) := by omega
  have hdisI : (x2 : Int) + 1 = (dis : Int) := by omega
  have hmanyI : (x3 : Int) + 4 = (many : Int) := by omega
  have hm19 : many ≤ 19 := by omega
  have hlit2 : lit ≤ 288 ∧ 257 ≤ lit := by omega
  have hdis2 : dis ≤ 32 ∧ 1 ≤ dis := by omega
  rw [hlit, hdis, hmany] at hcase
  have HCS : Hid _ := hcase
  clear h hB hw1 hwz C2 C3 hr1 hr2 hr3 hcase hlit hdis hmany
  go_enter Tryd.func43, Tryd.ntmps43
  go_wp2_with (first | refine wpList_ord rfl _ rfl rfl ?_ | (refine wpList_store_row rfl 112 _ _ rfl (w.heap.size + 1 + 1) ordV rfl rfl 112 _ HZr.out ordV_size rfl ordV_one ?_; rw [← HWZ.out, ← HW1.out]))
  refine C1.mono ?_
  rintro e w2 ⟨rfl, hS2, hF2⟩
  have HI2 : Hid (StIs w2 ib v B p1 mo ov O e1 bv) := HI1.out.rdr hF2 hS2
  have HF2 : Hid (Fr (oneB ib) w1 w2) := hF2
  have C2 := HC2.out w2 hS2 HI2.out.bs
  clear C1 hS2 hF2 HC2
  go_wp2_with fail
  refine C2.mono ?_
  rintro e w3 ⟨rfl, hS3, hF3⟩
  have HI3 : Hid (StIs w3 ib v B p2 mo ov O e2 bv) := HI2.out.rdr hF3 hS3
  have HF3 : Hid (Fr (oneB ib) w1 w3) := HF2.out.trans hF3
  have C3 := HC3.out w3 hS3 HI3.out.bs
  clear C2 hS3 hF3 HC3
  go_wp2_with fail
  refine C3.mono ?_
  rintro e w4 ⟨rfl, hS4, hF4⟩
  have HI4 : Hid (StIs w4 ib v B p3 mo ov O e3 bv) := HI3.out.rdr hF4 hS4
  have HF4 : Hid (Fr (oneB ib) w1 w4) := HF3.out.trans hF4
  have c44 := cellOf (o := 4) HI4.out.at_ rfl
  clear C3 hS4 hF4 HI2 HF2 HI3 HF3
  rcases HCS.out with ⟨hsh, he3⟩ | ⟨hen, he3, hpp, hL1, hL2, hL3⟩
  · subst he3
    have hdm : Hid ((hdA B p).1 = 33) := by
      show _ = _
      unfold hdA
      rw [if_pos hsh]
    go_wp2_with (at_make; refine wpList_make_full _ rfl _ _ 73 rfl w4.heap.size 3 i0 (.int .i64 0) 1 Tryd.underlying73 hi hz0 hz1 .i64 .i64 19 19 19 rfl rfl rfl rfl (by rw [hz2]; decide) (by decide) (Nat.le_refl _) ?_)
    intro wm hownm hgm
    have hFm : Fr noB w4 wm := (Fr.refl noB w4).grown hgm (by simp)
    have hRm : RowN wm w4.heap.size 3 .i64 (List.replicate 19 0) := made_nums hownm
    obtain ⟨r, hr⟩ : ∃ r, w4.heap.size = r := ⟨_, rfl⟩
    have HR : Hid (w4.heap.size = r) := hr
    rw [hr] at hRm ⊢
    obtain ⟨cb, hcb⟩ : ∃ cb, wm.heap.size = cb := ⟨_, rfl⟩
    have HCB : Hid (wm.heap.size = cb) := hcb
    obtain ⟨w5, hw5⟩ : ∃ w5, w5 = wm.alloc (.cells #[.slice (some ⟨r, 0, none⟩) 19 19] 86 (0, 0)) := ⟨_, rfl⟩
    have hrs : r < wm.heap.size := lt_of_block hRm
    have hk5 := HF4.out.size
    have HF5 : Hid (Fr noB w4 w5) := by
      rw [hw5]
      exact hFm.alloc _
    have HC5 : Hid (w5.heap[cb]? = some (.cells #[.slice (some ⟨r, 0, none⟩) 19 19] 86 (0, 0))) := by rw [hw5, ← hcb]; exact heap_alloc_new _ _
    have HR5 : Hid (RowN w5 r 3 .i64 (List.replicate 19 0)) := by
      rw [hw5]
      exact hRm.keep ((Fr.refl noB wm).alloc _) id
    have HI5 : Hid (StIs w5 ib v B p3 mo ov O 33 bv) := HI4.out.rdr HF5.out.weak (HF5.out.obj HI4.out.at_ id)
    have HFG : Hid (Fr (oneB ib) w1 w5) := HF4.out.trans HF5.out.weak
    have HW5 : Hid _ := hw5
    clear hownm hgm hFm hRm hw5 hr hcb
    try rw [HCB.out]
    go_wp2_with fail
    try rw [HCB.out]
    rw [← HW5.out]
    clear HW5
    have HQ1 : Hid (w5.heap[w.heap.size]? = some (.cells #[.slice none 0 0] 86 (0, 0))) := HFG.out.obj HP1.out (fun e => by have e' : w.heap.size = ib := e; omega)
    have HQ2 : Hid (w5.heap[w.heap.size + 1]? = some (.cells #[.slice none 0 0] 86 (0, 0))) := HFG.out.obj HP2.out (fun e => by have e' : w.heap.size + 1 = ib := e; omega)
    have HO5 : Hid (w5.heap[w.heap.size + 1 + 1]? = some (.cells ordV 112 (0, 0))) := HFG.out.obj HO1.out (fun e => by have e' : w.heap.size + 1 + 1 = ib := e; omega)
    have hrr := HR.out
    have hcc := HCB.out
    go_loopg [9] many (fun gh iv wr => ∃ i : Nat, i ≤ many ∧ gh = many - i ∧ iv = .int .i64 (i : Int) ∧ Hid (RowN wr r 3 .i64 (List.replicate 19 0)) ∧ Hid (StIs wr ib v B p3 mo ov O 33 bv) ∧ Hid (Fr (fun k => k = ib ∨ k = r) w5 wr))
    case atStart => exact ⟨0, Nat.zero_le _, rfl, rfl, HR5.out, HI5.out, Fr.refl _ _⟩
    case round =>
      obtain ⟨i, hi1, rfl, rfl, HRr, HIr, HFr⟩ := hrel
      by_cases hlt : i < many
      · have C := fun w' (hf : Fr noB wr w') => rbits_any mo ov bv 33 ib v B p3 3 w' (hf.obj HIr.out.at_ id) (HIr.out.bsK w' hf.weak) HHB.out hp3 (by omega) (by decide)
        rw [show rbA B 33 p3 3 = (0, 33, p3) from rfl, show ((3 : Nat) : Int) = 3 from rfl] at C
        have HC : Hid _ := C
        obtain ⟨o, ho⟩ : ∃ o, ordr i = o := ⟨_, rfl⟩
        have ho19 : o < 19 := by rw [← ho]; exact ordr_lt i (by omega)
        have hoI : (o : Int) < 19 := by omega
        have hoJ : (0 : Int) ≤ (o : Int) := by omega
        have hiI : (i : Int) < (many : Int) := by omega
        have hiJ : (i : Int) < 19 := by omega
        have hiK : (0 : Int) ≤ (i : Int) := by omega
        have hrib : ib < r := by omega
        have hF15 : Fr (fun k => k = ib ∨ k = r) w5 wr := HFr.out
        have HPO : Hid (∀ w2, Fr (oneB ib) wr.drew w2 → Fr (oneB ib) wr w2 ∧ Fr (fun k => k = ib ∨ k = r) wr w2 ∧ RowN w2 r 3 .i64 (List.replicate 19 0) ∧ (∃ u, w2.cell? ⟨r, o, none⟩ = some u) ∧ w2.frozen? ⟨r, o, none⟩ = false) := fun w2 hf => by
          have hH2 : Fr (oneB ib) wr w2 := Fr.trans (Fr.weak (Fr.refl noB wr).drew) hf
          have hR2 : RowN w2 r 3 .i64 (List.replicate 19 0) := HRr.out.keep hH2 (fun e => by have e' : r = ib := e; omega)
          exact ⟨hH2, hH2.mono (fun _ _ h => Or.inl h), hR2, ⟨_, hR2.cell o (by simp only [List.length_replicate]; exact ho19)⟩, freeOf o hR2⟩
        have HK : Hid (∀ w', Fr (fun k => k = ib ∨ k = r) wr w' → w'.cell? ⟨cb, 0, none⟩ = some (.slice (some ⟨r, 0, none⟩) 19 19) ∧ w'.cell? ⟨w.heap.size + 1 + 1, i, none⟩ = some (.int .i64 (o : Int))) := fun w' hf => by
          have hh := hF15.trans hf
          refine ⟨cellOf (hh.obj HC5.out (by rintro (e | e) <;> omega)) rfl, cellOf (hh.obj HO5.out (by rintro (e | e) <;> omega)) ?_⟩
          rw [← ho]
          exact ordV_at i (by omega)
        have hFb : Fr noB wr wr.drew := (Fr.refl noB wr).drew
        clear C ho hF15
        go_wp2_with fail
        go_region_held3 (fun w' => w'.cell? ⟨cb, 0, none⟩ = some (.slice (some ⟨r, 0, none⟩) 19 19) ∧ w'.cell? ⟨w.heap.size + 1 + 1, i, none⟩ = some (.int .i64 (o : Int)))
          (first | (refine HK.out _ ?_; first | exact Fr.refl _ _ | exact (Fr.refl _ _).drew | exact hG2 | exact hG2.setCell _ (Or.inl (Or.inr rfl)) _) | fail)
          (first | (go_at_call 39; with_reducible refine (HC.out _ hFb).mono ?_; rintro e w2 ⟨rfl, hS2, hF2⟩; obtain ⟨hH2, hG2, hR2, ⟨u, cR⟩, fR⟩ := HPO.out w2 hF2))
        have HI3 : Hid (StIs w2 ib v B p3 mo ov O 33 bv) := HIr.out.rdr hH2 hS2
        have HI4 := HI3.out.row hR2 hrib o (.int .i64 ((0 : Nat) : Int))
        have HR4 := hR2.set o 0
        rw [show (List.replicate 19 0).set o 0 = List.replicate 19 0 from List.set_replicate_self] at HR4
        have HII4 : Hid _ := HI4
        have HRR4 : Hid _ := HR4
        have HFF4 : Hid (Fr (fun k => k = ib ∨ k = r) w5 (w2.setCell ⟨r, o, none⟩ (.int .i64 ((0 : Nat) : Int)))) := HFr.out.trans (hG2.setCell _ (Or.inl (Or.inr rfl)) _)
        clear HI4 HR4 hS2 hF2 cR fR HC HK hG2 hR2 HI3 HPO
        go_wp2_with fail
        go_roundg (many - (i + 1))
        case measure => omega
        case rel => exact ⟨i + 1, by omega, rfl, by go_num, HRR4.out, HII4.out, HFF4.out⟩
      · obtain rfl : i = many := by omega
        have k4 := cellOf (o := 4) HIr.out.at_ rfl
        have hcx := HFr.out.obj HC5.out (by rintro (e | e) <;> omega)
        have kc := cellOf (o := 0) hcx rfl
        have CL := rlengths_err ib p3 33 (lit + dis) v (.slice (some ⟨r, 0, none⟩) 19 19) ov bv B O mo wr HIr.out (by decide)
        rw [show ((lit + dis : Nat) : Int) = (lit : Int) + (dis : Int) by omega] at CL
        go_wp2_with fail
        refine CL.mono ?_
        rintro e w8 ⟨rfl, hI8, hF8⟩
        have hG8 : Fr (fun k => k = ib ∨ k = r) w5 w8 := (HFr.out.trans (hF8.mono (fun _ _ h => Or.inl h)))
        have k48 := cellOf (o := 4) hI8.at_ rfl
        have r1 := hG8.obj HQ1.out (by rintro (e | e) <;> omega)
        have r2 := hG8.obj HQ2.out (by rintro (e | e) <;> omega)
        have c1 := cellOf (o := 0) r1 rfl
        have c2 := cellOf (o := 0) r2 rfl
        have f1 := freeOf 0 r1
        have f2 := freeOf 0 r2
        have HI8 : Hid _ := hI8
        have HG8 : Hid (Fr (fun k => k = ib ∨ k = r) w5 w8) := hG8
        have HR1 : Hid (w8.heap[w.heap.size]? = some (.cells #[.slice none 0 0] 86 (0, 0))) := r1
        have HR2' : Hid (w8.heap[w.heap.size + 1]? = some (.cells #[.slice none 0 0] 86 (0, 0))) := r2
        clear hI8 hG8 r1 r2
        go_wp2_with fail
        obtain ⟨W9, hW9⟩ : ∃ W9, (w8.setCell ⟨w.heap.size, 0, none⟩ (.slice none 0 0)).setCell ⟨w.heap.size + 1, 0, none⟩ (.slice none 0 0) = W9 := ⟨_, rfl⟩
        rw [hW9]
        have hF9 : Fr (fun k => k = w.heap.size ∨ k = w.heap.size + 1) w8 W9 := by
          rw [← hW9]
          exact ((Fr.refl _ _).setCell _ (Or.inl (Or.inl rfl)) _).setCell _ (Or.inl (Or.inr rfl)) _
        have q0 : W9.heap[w.heap.size]? = some (.cells #[.slice none 0 0] 86 (0, 0)) := by
          rw [← hW9]
          exact (Below.heap_setCell _ _ _ _ (by show w.heap.size ≠ w.heap.size + 1; omega)).trans (setOf 0 _ HR1.out)
        have q1 : W9.heap[w.heap.size + 1]? = some (.cells #[.slice none 0 0] 86 (0, 0)) := by
          rw [← hW9]
          exact setOf 0 _ ((Below.heap_setCell _ _ _ _ (by show w.heap.size + 1 ≠ w.heap.size; omega)).trans HR2'.out)
        have p0 := cellOf (o := 0) q0 rfl
        have p1' := cellOf (o := 0) q1 rfl
        refine bodyPost_ret (v := .tuple #[.agg #[.slice none 0 0], .agg #[.slice none 0 0]]) ?_ rfl ⟨.slice none 0 0, .slice none 0 0, ⟨rfl, ⟨_, _, _, rfl⟩, ⟨_, _, _, rfl⟩⟩, ?_, fun _ => ⟨p3, ?_, by omega⟩, fun h => absurd (hdm.out ▸ h) (by decide)⟩
        · simp [results, Tryd.results43, go_sem, p0, p1']
        · exact dfr HF01.out HFG.out HG8.out hF9 (by omega) (by have := HR.out; omega)
        · rw [hdm.out]
          exact HI8.out.keep hF9 (by rintro (e | e) <;> omega) (fun b hb => by rintro (e | e) <;> omega) (fun k cur _ hk => by
            rintro (e | e)
            · rw [e, HR1.out] at hk; cases hk
            · rw [e, HR2'.out] at hk; cases hk)
  · subst he3
    have HLL : Hid (p3 = p + 14 ∧ lit = hLit B p ∧ dis = hDis B p ∧ many = hMny B p) := ⟨hpp, hL1, hL2, hL3⟩
    clear hpp hL1 hL2 hL3 HCS
    by_cases ca : 286 < lit
    · have i1 : (286 : Int) < (lit : Int) := by omega
      have hdm : Hid ((hdA B p).1 = 30) := by
        obtain ⟨hpp, hL1, hL2, hL3⟩ := HLL.out
        show _ = _
        unfold hdA
        rw [if_neg (by omega), if_pos (by omega)]
      have CF := fail_any mo ov bv 0 30 ib v p3 w4 HI4.out.at_
      rw [show erA 0 30 = 30 from rfl] at CF
      go_wp2_with fail
      refine CF.mono ?_
      rintro e w6 ⟨rfl, hS6, hF6⟩
      have HI6 : Hid (StIs w6 ib v B p3 mo ov O 30 bv) := HI4.out.rdr hF6 hS6
      have HF6 : Hid (Fr (oneB ib) w1 w6) := HF4.out.trans hF6
      clear CF hS6 hF6 c44
      go_wp2_with (at_make; refine wpList_make_full _ rfl _ _ 73 rfl w6.heap.size 3 i0 (.int .i64 0) 1 Tryd.underlying73 hi hz0 hz1 .i64 .i64 19 19 19 rfl rfl rfl rfl (by rw [hz2]; decide) (by decide) (Nat.le_refl _) ?_)
      intro wm hownm hgm
      have hFm : Fr noB w6 wm := (Fr.refl noB w6).grown hgm (by simp)
      have hRm : RowN wm w6.heap.size 3 .i64 (List.replicate 19 0) := made_nums hownm
      obtain ⟨r, hr⟩ : ∃ r, w6.heap.size = r := ⟨_, rfl⟩
      have HR : Hid (w6.heap.size = r) := hr
      rw [hr] at hRm ⊢
      obtain ⟨cb, hcb⟩ : ∃ cb, wm.heap.size = cb := ⟨_, rfl⟩
      have HCB : Hid (wm.heap.size = cb) := hcb
      obtain ⟨w5, hw5⟩ : ∃ w5, w5 = wm.alloc (.cells #[.slice (some ⟨r, 0, none⟩) 19 19] 86 (0, 0)) := ⟨_, rfl⟩
      have hrs : r < wm.heap.size := lt_of_block hRm
      have hk5 := HF6.out.size
      have HF5 : Hid (Fr noB w6 w5) := by
        rw [hw5]
        exact hFm.alloc _
      have HC5 : Hid (w5.heap[cb]? = some (.cells #[.slice (some ⟨r, 0, none⟩) 19 19] 86 (0, 0))) := by rw [hw5, ← hcb]; exact heap_alloc_new _ _
      have HR5 : Hid (RowN w5 r 3 .i64 (List.replicate 19 0)) := by
        rw [hw5]
        exact hRm.keep ((Fr.refl noB wm).alloc _) id
      have HI5 : Hid (StIs w5 ib v B p3 mo ov O 30 bv) := HI6.out.rdr HF5.out.weak (HF5.out.obj HI6.out.at_ id)
      have HFG : Hid (Fr (oneB ib) w1 w5) := HF6.out.trans HF5.out.weak
      have HW5 : Hid _ := hw5
      clear hownm hgm hFm hRm hw5 hr hcb
      try rw [HCB.out]
      go_wp2_with fail
      try rw [HCB.out]
      rw [← HW5.out]
      clear HW5
      have HQ1 : Hid (w5.heap[w.heap.size]? = some (.cells #[.slice none 0 0] 86 (0, 0))) := HFG.out.obj HP1.out (fun e => by have e' : w.heap.size = ib := e; omega)
      have HQ2 : Hid (w5.heap[w.heap.size + 1]? = some (.cells #[.slice none 0 0] 86 (0, 0))) := HFG.out.obj HP2.out (fun e => by have e' : w.heap.size + 1 = ib := e; omega)
      have HO5 : Hid (w5.heap[w.heap.size + 1 + 1]? = some (.cells ordV 112 (0, 0))) := HFG.out.obj HO1.out (fun e => by have e' : w.heap.size + 1 + 1 = ib := e; omega)
      have hrr := HR.out
      have hcc := HCB.out
      go_loopg [9] many (fun gh iv wr => ∃ i : Nat, i ≤ many ∧ gh = many - i ∧ iv = .int .i64 (i : Int) ∧ Hid (RowN wr r 3 .i64 (List.replicate 19 0)) ∧ Hid (StIs wr ib v B p3 mo ov O 30 bv) ∧ Hid (Fr (fun k => k = ib ∨ k = r) w5 wr))
      case atStart => exact ⟨0, Nat.zero_le _, rfl, rfl, HR5.out, HI5.out, Fr.refl _ _⟩
      case round =>
        obtain ⟨i, hi1, rfl, rfl, HRr, HIr, HFr⟩ := hrel
        by_cases hlt : i < many
        · have C := fun w' (hf : Fr noB wr w') => rbits_any mo ov bv 30 ib v B p3 3 w' (hf.obj HIr.out.at_ id) (HIr.out.bsK w' hf.weak) HHB.out hp3 (by omega) (by decide)
          rw [show rbA B 30 p3 3 = (0, 30, p3) from rfl, show ((3 : Nat) : Int) = 3 from rfl] at C
          have HC : Hid _ := C
          obtain ⟨o, ho⟩ : ∃ o, ordr i = o := ⟨_, rfl⟩
          have ho19 : o < 19 := by rw [← ho]; exact ordr_lt i (by omega)
          have hoI : (o : Int) < 19 := by omega
          have hoJ : (0 : Int) ≤ (o : Int) := by omega
          have hiI : (i : Int) < (many : Int) := by omega
          have hiJ : (i : Int) < 19 := by omega
          have hiK : (0 : Int) ≤ (i : Int) := by omega
          have hrib : ib < r := by omega
          have hF15 : Fr (fun k => k = ib ∨ k = r) w5 wr := HFr.out
          have HPO : Hid (∀ w2, Fr (oneB ib) wr.drew w2 → Fr (oneB ib) wr w2 ∧ Fr (fun k => k = ib ∨ k = r) wr w2 ∧ RowN w2 r 3 .i64 (List.replicate 19 0) ∧ (∃ u, w2.cell? ⟨r, o, none⟩ = some u) ∧ w2.frozen? ⟨r, o, none⟩ = false) := fun w2 hf => by
            have hH2 : Fr (oneB ib) wr w2 := Fr.trans (Fr.weak (Fr.refl noB wr).drew) hf
            have hR2 : RowN w2 r 3 .i64 (List.replicate 19 0) := HRr.out.keep hH2 (fun e => by have e' : r = ib := e; omega)
            exact ⟨hH2, hH2.mono (fun _ _ h => Or.inl h), hR2, ⟨_, hR2.cell o (by simp only [List.length_replicate]; exact ho19)⟩, freeOf o hR2⟩
          have HK : Hid (∀ w', Fr (fun k => k = ib ∨ k = r) wr w' → w'.cell? ⟨cb, 0, none⟩ = some (.slice (some ⟨r, 0, none⟩) 19 19) ∧ w'.cell? ⟨w.heap.size + 1 + 1, i, none⟩ = some (.int .i64 (o : Int))) := fun w' hf => by
            have hh := hF15.trans hf
            refine ⟨cellOf (hh.obj HC5.out (by rintro (e | e) <;> omega)) rfl, cellOf (hh.obj HO5.out (by rintro (e | e) <;> omega)) ?_⟩
            rw [← ho]
            exact ordV_at i (by omega)
          have hFb : Fr noB wr wr.drew := (Fr.refl noB wr).drew
          clear C ho hF15
          go_wp2_with fail
          go_region_held3 (fun w' => w'.cell? ⟨cb, 0, none⟩ = some (.slice (some ⟨r, 0, none⟩) 19 19) ∧ w'.cell? ⟨w.heap.size + 1 + 1, i, none⟩ = some (.int .i64 (o : Int)))
            (first | (refine HK.out _ ?_; first | exact Fr.refl _ _ | exact (Fr.refl _ _).drew | exact hG2 | exact hG2.setCell _ (Or.inl (Or.inr rfl)) _) | fail)
            (first | (go_at_call 39; with_reducible refine (HC.out _ hFb).mono ?_; rintro e w2 ⟨rfl, hS2, hF2⟩; obtain ⟨hH2, hG2, hR2, ⟨u, cR⟩, fR⟩ := HPO.out w2 hF2))
          have HI3 : Hid (StIs w2 ib v B p3 mo ov O 30 bv) := HIr.out.rdr hH2 hS2
          have HI4 := HI3.out.row hR2 hrib o (.int .i64 ((0 : Nat) : Int))
          have HR4 := hR2.set o 0
          rw [show (List.replicate 19 0).set o 0 = List.replicate 19 0 from List.set_replicate_self] at HR4
          have HII4 : Hid _ := HI4
          have HRR4 : Hid _ := HR4
          have HFF4 : Hid (Fr (fun k => k = ib ∨ k = r) w5 (w2.setCell ⟨r, o, none⟩ (.int .i64 ((0 : Nat) : Int)))) := HFr.out.trans (hG2.setCell _ (Or.inl (Or.inr rfl)) _)
          clear HI4 HR4 hS2 hF2 cR fR HC HK hG2 hR2 HI3 HPO
          go_wp2_with fail
          go_roundg (many - (i + 1))
          case measure => omega
          case rel => exact ⟨i + 1, by omega, rfl, by go_num, HRR4.out, HII4.out, HFF4.out⟩
        · obtain rfl : i = many := by omega
          have k4 := cellOf (o := 4) HIr.out.at_ rfl
          have hcx := HFr.out.obj HC5.out (by rintro (e | e) <;> omega)
          have kc := cellOf (o := 0) hcx rfl
          have CL := rlengths_err ib p3 30 (lit + dis) v (.slice (some ⟨r, 0, none⟩) 19 19) ov bv B O mo wr HIr.out (by decide)
          rw [show ((lit + dis : Nat) : Int) = (lit : Int) + (dis : Int) by omega] at CL
          go_wp2_with fail
          refine CL.mono ?_
          rintro e w8 ⟨rfl, hI8, hF8⟩
          have hG8 : Fr (fun k => k = ib ∨ k = r) w5 w8 := (HFr.out.trans (hF8.mono (fun _ _ h => Or.inl h)))
          have k48 := cellOf (o := 4) hI8.at_ rfl
          have r1 := hG8.obj HQ1.out (by rintro (e | e) <;> omega)
          have r2 := hG8.obj HQ2.out (by rintro (e | e) <;> omega)
          have c1 := cellOf (o := 0) r1 rfl
          have c2 := cellOf (o := 0) r2 rfl
          have f1 := freeOf 0 r1
          have f2 := freeOf 0 r2
          have HI8 : Hid _ := hI8
          have HG8 : Hid (Fr (fun k => k = ib ∨ k = r) w5 w8) := hG8
          have HR1 : Hid (w8.heap[w.heap.size]? = some (.cells #[.slice none 0 0] 86 (0, 0))) := r1
          have HR2' : Hid (w8.heap[w.heap.size + 1]? = some (.cells #[.slice none 0 0] 86 (0, 0))) := r2
          clear hI8 hG8 r1 r2
          go_wp2_with fail
          obtain ⟨W9, hW9⟩ : ∃ W9, (w8.setCell ⟨w.heap.size, 0, none⟩ (.slice none 0 0)).setCell ⟨w.heap.size + 1, 0, none⟩ (.slice none 0 0) = W9 := ⟨_, rfl⟩
          rw [hW9]
          have hF9 : Fr (fun k => k = w.heap.size ∨ k = w.heap.size + 1) w8 W9 := by
            rw [← hW9]
            exact ((Fr.refl _ _).setCell _ (Or.inl (Or.inl rfl)) _).setCell _ (Or.inl (Or.inr rfl)) _
          have q0 : W9.heap[w.heap.size]? = some (.cells #[.slice none 0 0] 86 (0, 0)) := by
            rw [← hW9]
            exact (Below.heap_setCell _ _ _ _ (by show w.heap.size ≠ w.heap.size + 1; omega)).trans (setOf 0 _ HR1.out)
          have q1 : W9.heap[w.heap.size + 1]? = some (.cells #[.slice none 0 0] 86 (0, 0)) := by
            rw [← hW9]
            exact setOf 0 _ ((Below.heap_setCell _ _ _ _ (by show w.heap.size + 1 ≠ w.heap.size; omega)).trans HR2'.out)
          have p0 := cellOf (o := 0) q0 rfl
          have p1' := cellOf (o := 0) q1 rfl
          refine bodyPost_ret (v := .tuple #[.agg #[.slice none 0 0], .agg #[.slice none 0 0]]) ?_ rfl ⟨.slice none 0 0, .slice none 0 0, ⟨rfl, ⟨_, _, _, rfl⟩, ⟨_, _, _, rfl⟩⟩, ?_, fun _ => ⟨p3, ?_, by omega⟩, fun h => absurd (hdm.out ▸ h) (by decide)⟩
          · simp [results, Tryd.results43, go_sem, p0, p1']
          · exact dfr HF01.out HFG.out HG8.out hF9 (by omega) (by have := HR.out; omega)
          · rw [hdm.out]
            exact HI8.out.keep hF9 (by rintro (e | e) <;> omega) (fun b hb => by rintro (e | e) <;> omega) (fun k cur _ hk => by
              rintro (e | e)
              · rw [e, HR1.out] at hk; cases hk
              · rw [e, HR2'.out] at hk; cases hk)
    by_cases cb' : 30 < dis
    · have i1 : decide ((286 : Int) < (lit : Int)) = false := by simp; omega
      have i2 : (30 : Int) < (dis : Int) := by omega
      have hdm : Hid ((hdA B p).1 = 30) := by
        obtain ⟨hpp, hL1, hL2, hL3⟩ := HLL.out
        show _ = _
        unfold hdA
        rw [if_neg (by omega), if_pos (by omega)]
      have CF := fail_any mo ov bv 0 30 ib v p3 w4 HI4.out.at_
      rw [show erA 0 30 = 30 from rfl] at CF
      go_wp2_with fail
      refine CF.mono ?_
      rintro e w6 ⟨rfl, hS6, hF6⟩
      have HI6 : Hid (StIs w6 ib v B p3 mo ov O 30 bv) := HI4.out.rdr hF6 hS6
      have HF6 : Hid (Fr (oneB ib) w1 w6) := HF4.out.trans hF6
      clear CF hS6 hF6 c44
      go_wp2_with (at_make; refine wpList_make_full _ rfl _ _ 73 rfl w6.heap.size 3 i0 (.int .i64 0) 1 Tryd.underlying73 hi hz0 hz1 .i64 .i64 19 19 19 rfl rfl rfl rfl (by rw [hz2]; decide) (by decide) (Nat.le_refl _) ?_)
      intro wm hownm hgm
      have hFm : Fr noB w6 wm := (Fr.refl noB w6).grown hgm (by simp)
      have hRm : RowN wm w6.heap.size 3 .i64 (List.replicate 19 0) := made_nums hownm
      obtain ⟨r, hr⟩ : ∃ r, w6.heap.size = r := ⟨_, rfl⟩
      have HR : Hid (w6.heap.size = r) := hr
      rw [hr] at hRm ⊢
      obtain ⟨cb, hcb⟩ : ∃ cb, wm.heap.size = cb := ⟨_, rfl⟩
      have HCB : Hid (wm.heap.size = cb) := hcb
      obtain ⟨w5, hw5⟩ : ∃ w5, w5 = wm.alloc (.cells #[.slice (some ⟨r, 0, none⟩) 19 19] 86 (0, 0)) := ⟨_, rfl⟩
      have hrs : r < wm.heap.size := lt_of_block hRm
      have hk5 := HF6.out.size
      have HF5 : Hid (Fr noB w6 w5) := by
        rw [hw5]
        exact hFm.alloc _
      have HC5 : Hid (w5.heap[cb]? = some (.cells #[.slice (some ⟨r, 0, none⟩) 19 19] 86 (0, 0))) := by rw [hw5, ← hcb]; exact heap_alloc_new _ _
      have HR5 : Hid (RowN w5 r 3 .i64 (List.replicate 19 0)) := by
        rw [hw5]
        exact hRm.keep ((Fr.refl noB wm).alloc _) id
      have HI5 : Hid (StIs w5 ib v B p3 mo ov O 30 bv) := HI6.out.rdr HF5.out.weak (HF5.out.obj HI6.out.at_ id)
      have HFG : Hid (Fr (oneB ib) w1 w5) := HF6.out.trans HF5.out.weak
      have HW5 : Hid _ := hw5
      clear hownm hgm hFm hRm hw5 hr hcb
      try rw [HCB.out]
      go_wp2_with fail
      try rw [HCB.out]
      rw [← HW5.out]
      clear HW5
      have HQ1 : Hid (w5.heap[w.heap.size]? = some (.cells #[.slice none 0 0] 86 (0, 0))) := HFG.out.obj HP1.out (fun e => by have e' : w.heap.size = ib := e; omega)
      have HQ2 : Hid (w5.heap[w.heap.size + 1]? = some (.cells #[.slice none 0 0] 86 (0, 0))) := HFG.out.obj HP2.out (fun e => by have e' : w.heap.size + 1 = ib := e; omega)
      have HO5 : Hid (w5.heap[w.heap.size + 1 + 1]? = some (.cells ordV 112 (0, 0))) := HFG.out.obj HO1.out (fun e => by have e' : w.heap.size + 1 + 1 = ib := e; omega)
      have hrr := HR.out
      have hcc := HCB.out
      go_loopg [9] many (fun gh iv wr => ∃ i : Nat, i ≤ many ∧ gh = many - i ∧ iv = .int .i64 (i : Int) ∧ Hid (RowN wr r 3 .i64 (List.replicate 19 0)) ∧ Hid (StIs wr ib v B p3 mo ov O 30 bv) ∧ Hid (Fr (fun k => k = ib ∨ k = r) w5 wr))
      case atStart => exact ⟨0, Nat.zero_le _, rfl, rfl, HR5.out, HI5.out, Fr.refl _ _⟩
      case round =>
        obtain ⟨i, hi1, rfl, rfl, HRr, HIr, HFr⟩ := hrel
        by_cases hlt : i < many
        · have C := fun w' (hf : Fr noB wr w') => rbits_any mo ov bv 30 ib v B p3 3 w' (hf.obj HIr.out.at_ id) (HIr.out.bsK w' hf.weak) HHB.out hp3 (by omega) (by decide)
          rw [show rbA B 30 p3 3 = (0, 30, p3) from rfl, show ((3 : Nat) : Int) = 3 from rfl] at C
          have HC : Hid _ := C
          obtain ⟨o, ho⟩ : ∃ o, ordr i = o := ⟨_, rfl⟩
          have ho19 : o < 19 := by rw [← ho]; exact ordr_lt i (by omega)
          have hoI : (o : Int) < 19 := by omega
          have hoJ : (0 : Int) ≤ (o : Int) := by omega
          have hiI : (i : Int) < (many : Int) := by omega
          have hiJ : (i : Int) < 19 := by omega
          have hiK : (0 : Int) ≤ (i : Int) := by omega
          have hrib : ib < r := by omega
          have hF15 : Fr (fun k => k = ib ∨ k = r) w5 wr := HFr.out
          have HPO : Hid (∀ w2, Fr (oneB ib) wr.drew w2 → Fr (oneB ib) wr w2 ∧ Fr (fun k => k = ib ∨ k = r) wr w2 ∧ RowN w2 r 3 .i64 (List.replicate 19 0) ∧ (∃ u, w2.cell? ⟨r, o, none⟩ = some u) ∧ w2.frozen? ⟨r, o, none⟩ = false) := fun w2 hf => by
            have hH2 : Fr (oneB ib) wr w2 := Fr.trans (Fr.weak (Fr.refl noB wr).drew) hf
            have hR2 : RowN w2 r 3 .i64 (List.replicate 19 0) := HRr.out.keep hH2 (fun e => by have e' : r = ib := e; omega)
            exact ⟨hH2, hH2.mono (fun _ _ h => Or.inl h), hR2, ⟨_, hR2.cell o (by simp only [List.length_replicate]; exact ho19)⟩, freeOf o hR2⟩
          have HK : Hid (∀ w', Fr (fun k => k = ib ∨ k = r) wr w' → w'.cell? ⟨cb, 0, none⟩ = some (.slice (some ⟨r, 0, none⟩) 19 19) ∧ w'.cell? ⟨w.heap.size + 1 + 1, i, none⟩ = some (.int .i64 (o : Int))) := fun w' hf => by
            have hh := hF15.trans hf
            refine ⟨cellOf (hh.obj HC5.out (by rintro (e | e) <;> omega)) rfl, cellOf (hh.obj HO5.out (by rintro (e | e) <;> omega)) ?_⟩
            rw [← ho]
            exact ordV_at i (by omega)
          have hFb : Fr noB wr wr.drew := (Fr.refl noB wr).drew
          clear C ho hF15
          go_wp2_with fail
          go_region_held3 (fun w' => w'.cell? ⟨cb, 0, none⟩ = some (.slice (some ⟨r, 0, none⟩) 19 19) ∧ w'.cell? ⟨w.heap.size + 1 + 1, i, none⟩ = some (.int .i64 (o : Int)))
            (first | (refine HK.out _ ?_; first | exact Fr.refl _ _ | exact (Fr.refl _ _).drew | exact hG2 | exact hG2.setCell _ (Or.inl (Or.inr rfl)) _) | fail)
            (first | (go_at_call 39; with_reducible refine (HC.out _ hFb).mono ?_; rintro e w2 ⟨rfl, hS2, hF2⟩; obtain ⟨hH2, hG2, hR2, ⟨u, cR⟩, fR⟩ := HPO.out w2 hF2))
          have HI3 : Hid (StIs w2 ib v B p3 mo ov O 30 bv) := HIr.out.rdr hH2 hS2
          have HI4 := HI3.out.row hR2 hrib o (.int .i64 ((0 : Nat) : Int))
          have HR4 := hR2.set o 0
          rw [show (List.replicate 19 0).set o 0 = List.replicate 19 0 from List.set_replicate_self] at HR4
          have HII4 : Hid _ := HI4
          have HRR4 : Hid _ := HR4
          have HFF4 : Hid (Fr (fun k => k = ib ∨ k = r) w5 (w2.setCell ⟨r, o, none⟩ (.int .i64 ((0 : Nat) : Int)))) := HFr.out.trans (hG2.setCell _ (Or.inl (Or.inr rfl)) _)
          clear HI4 HR4 hS2 hF2 cR fR HC HK hG2 hR2 HI3 HPO
          go_wp2_with fail
          go_roundg (many - (i + 1))
          case measure => omega
          case rel => exact ⟨i + 1, by omega, rfl, by go_num, HRR4.out, HII4.out, HFF4.out⟩
        · obtain rfl : i = many := by omega
          have k4 := cellOf (o := 4) HIr.out.at_ rfl
          have hcx := HFr.out.obj HC5.out (by rintro (e | e) <;> omega)
          have kc := cellOf (o := 0) hcx rfl
          have CL := rlengths_err ib p3 30 (lit + dis) v (.slice (some ⟨r, 0, none⟩) 19 19) ov bv B O mo wr HIr.out (by decide)
          rw [show ((lit + dis : Nat) : Int) = (lit : Int) + (dis : Int) by omega] at CL
          go_wp2_with fail
          refine CL.mono ?_
          rintro e w8 ⟨rfl, hI8, hF8⟩
          have hG8 : Fr (fun k => k = ib ∨ k = r) w5 w8 := (HFr.out.trans (hF8.mono (fun _ _ h => Or.inl h)))
          have k48 := cellOf (o := 4) hI8.at_ rfl
          have r1 := hG8.obj HQ1.out (by rintro (e | e) <;> omega)
          have r2 := hG8.obj HQ2.out (by rintro (e | e) <;> omega)
          have c1 := cellOf (o := 0) r1 rfl
          have c2 := cellOf (o := 0) r2 rfl
          have f1 := freeOf 0 r1
          have f2 := freeOf 0 r2
          have HI8 : Hid _ := hI8
          have HG8 : Hid (Fr (fun k => k = ib ∨ k = r) w5 w8) := hG8
          have HR1 : Hid (w8.heap[w.heap.size]? = some (.cells #[.slice none 0 0] 86 (0, 0))) := r1
          have HR2' : Hid (w8.heap[w.heap.size + 1]? = some (.cells #[.slice none 0 0] 86 (0, 0))) := r2
          clear hI8 hG8 r1 r2
          go_wp2_with fail
          obtain ⟨W9, hW9⟩ : ∃ W9, (w8.setCell ⟨w.heap.size, 0, none⟩ (.slice none 0 0)).setCell ⟨w.heap.size + 1, 0, none⟩ (.slice none 0 0) = W9 := ⟨_, rfl⟩
          rw [hW9]
          have hF9 : Fr (fun k => k = w.heap.size ∨ k = w.heap.size + 1) w8 W9 := by
            rw [← hW9]
            exact ((Fr.refl _ _).setCell _ (Or.inl (Or.inl rfl)) _).setCell _ (Or.inl (Or.inr rfl)) _
          have q0 : W9.heap[w.heap.size]? = some (.cells #[.slice none 0 0] 86 (0, 0)) := by
            rw [← hW9]
            exact (Below.heap_setCell _ _ _ _ (by show w.heap.size ≠ w.heap.size + 1; omega)).trans (setOf 0 _ HR1.out)
          have q1 : W9.heap[w.heap.size + 1]? = some (.cells #[.slice none 0 0] 86 (0, 0)) := by
            rw [← hW9]
            exact setOf 0 _ ((Below.heap_setCell _ _ _ _ (by show w.heap.size + 1 ≠ w.heap.size; omega)).trans HR2'.out)
          have p0 := cellOf (o := 0) q0 rfl
          have p1' := cellOf (o := 0) q1 rfl
          refine bodyPost_ret (v := .tuple #[.agg #[.slice none 0 0], .agg #[.slice none 0 0]]) ?_ rfl ⟨.slice none 0 0, .slice none 0 0, ⟨rfl, ⟨_, _, _, rfl⟩, ⟨_, _, _, rfl⟩⟩, ?_, fun _ => ⟨p3, ?_, by omega⟩, fun h => absurd (hdm.out ▸ h) (by decide)⟩
          · simp [results, Tryd.results43, go_sem, p0, p1']
          · exact dfr HF01.out HFG.out HG8.out hF9 (by omega) (by have := HR.out; omega)
          · rw [hdm.out]
            exact HI8.out.keep hF9 (by rintro (e | e) <;> omega) (fun b hb => by rintro (e | e) <;> omega) (fun k cur _ hk => by
              rintro (e | e)
              · rw [e, HR1.out] at hk; cases hk
              · rw [e, HR2'.out] at hk; cases hk)
    have i1 : decide ((286 : Int) < (lit : Int)) = false := by simp; omega
    have i2 : decide ((30 : Int) < (dis : Int)) = false := by simp; omega
    go_wp2_with (at_make; refine wpList_make_full _ rfl _ _ 73 rfl w4.heap.size 3 i0 (.int .i64 0) 1 Tryd.underlying73 hi hz0 hz1 .i64 .i64 19 19 19 rfl rfl rfl rfl (by rw [hz2]; decide) (by decide) (Nat.le_refl _) ?_)
    intro wm hownm hgm
    have hFm : Fr noB w4 wm := (Fr.refl noB w4).grown hgm (by simp)
    have hRm : RowN wm w4.heap.size 3 .i64 (List.replicate 19 0) := made_nums hownm
    obtain ⟨r, hr⟩ : ∃ r, w4.heap.size = r := ⟨_, rfl⟩
    have HR : Hid (w4.heap.size = r) := hr
    rw [hr] at hRm ⊢
    obtain ⟨cb, hcb⟩ : ∃ cb, wm.heap.size = cb := ⟨_, rfl⟩
    have HCB : Hid (wm.heap.size = cb) := hcb
    obtain ⟨w5, hw5⟩ : ∃ w5, w5 = wm.alloc (.cells #[.slice (some ⟨r, 0, none⟩) 19 19] 86 (0, 0)) := ⟨_, rfl⟩
    have hrs : r < wm.heap.size := lt_of_block hRm
    have hk5 := HF4.out.size
    have HF5 : Hid (Fr noB w4 w5) := by
      rw [hw5]
      exact hFm.alloc _
    have HC5 : Hid (w5.heap[cb]? = some (.cells #[.slice (some ⟨r, 0, none⟩) 19 19] 86 (0, 0))) := by rw [hw5, ← hcb]; exact heap_alloc_new _ _
    have HR5 : Hid (RowN w5 r 3 .i64 (List.replicate 19 0)) := by
      rw [hw5]
      exact hRm.keep ((Fr.refl noB wm).alloc _) id
    have HI5 : Hid (StIs w5 ib v B p3 mo ov O 0 bv) := HI4.out.rdr HF5.out.weak (HF5.out.obj HI4.out.at_ id)
    have HFG : Hid (Fr (oneB ib) w1 w5) := HF4.out.trans HF5.out.weak
    have HW5 : Hid _ := hw5
    clear hownm hgm hFm hRm hw5 hr hcb
    try rw [HCB.out]
    go_wp2_with fail
    try rw [HCB.out]
    rw [← HW5.out]
    clear HW5
    have HQ1 : Hid (w5.heap[w.heap.size]? = some (.cells #[.slice none 0 0] 86 (0, 0))) := HFG.out.obj HP1.out (fun e => by have e' : w.heap.size = ib := e; omega)
    have HQ2 : Hid (w5.heap[w.heap.size + 1]? = some (.cells #[.slice none 0 0] 86 (0, 0))) := HFG.out.obj HP2.out (fun e => by have e' : w.heap.size + 1 = ib := e; omega)
    have HO5 : Hid (w5.heap[w.heap.size + 1 + 1]? = some (.cells ordV 112 (0, 0))) := HFG.out.obj HO1.out (fun e => by have e' : w.heap.size + 1 + 1 = ib := e; omega)
    have hrr := HR.out
    have hcc := HCB.out
    go_loopg [9] many (fun gh iv wr => ∃ (i pi eri : Nat) (X : List Nat), i ≤ many ∧ gh = many - i ∧ iv = .int .i64 (i : Int) ∧ X.length = 19 ∧ Hid (RowN wr r 3 .i64 X) ∧ Hid (StIs wr ib v B pi mo ov O eri bv) ∧ pi ≤ 8 * B.length ∧ Hid (Fr (fun k => k = ib ∨ k = r) w5 wr) ∧ ((eri = 0 ∧ pi = p3 + 3 * i ∧ Hid (X = colL B p3 i)) ∨ (eri = 33 ∧ 8 * B.length < p3 + 3 * many)))
    case atStart => exact ⟨0, p3, 0, List.replicate 19 0, Nat.zero_le _, rfl, rfl, by simp, HR5.out, HI5.out, hp3, Fr.refl _ _, Or.inl ⟨rfl, by omega, rfl⟩⟩
    case round =>
      obtain ⟨i, pi, eri, X, hi1, rfl, rfl, hX19, HRr, HIr, hpi, HFr, hor⟩ := hrel
      by_cases hlt : i < many
      · have C := fun w' (hf : Fr noB wr w') => rbits_any mo ov bv eri ib v B pi 3 w' (hf.obj HIr.out.at_ id) (HIr.out.bsK w' hf.weak) HHB.out hpi (by omega) (by decide)
        obtain ⟨o, ho⟩ : ∃ o, ordr i = o := ⟨_, rfl⟩
        have ho19 : o < 19 := by rw [← ho]; exact ordr_lt i (by omega)
        obtain ⟨x, e', p', hrb, hpq, hnx⟩ : ∃ x e' p' : Nat, rbA B eri pi 3 = (x, e', p') ∧ p' ≤ 8 * B.length ∧ ((e' = 0 ∧ p' = p3 + 3 * (i + 1) ∧ X.set o x = colL B p3 (i + 1)) ∨ (e' = 33 ∧ 8 * B.length < p3 + 3 * many)) := by
          rcases hor with ⟨rfl, h2, HX⟩ | ⟨rfl, h2⟩
          · by_cases hfit : pi + 3 ≤ 8 * B.length
            · refine ⟨numAt B pi 3, 0, pi + 3, by unfold rbA bitA; rw [if_pos rfl, if_pos hfit], hfit, Or.inl ⟨rfl, by omega, ?_⟩⟩
              rw [HX.out, ← ho, h2]
              rfl
            · exact ⟨0, 33, pi, by unfold rbA bitA; rw [if_pos rfl, if_neg hfit], hpi, Or.inr ⟨rfl, by omega⟩⟩
          · exact ⟨0, 33, pi, rfl, hpi, Or.inr ⟨rfl, h2⟩⟩
        rw [hrb, show ((3 : Nat) : Int) = 3 from rfl] at C
        have HC : Hid _ := C
        have HNX : Hid _ := hnx
        clear hrb hnx hor
        have hoI : (o : Int) < 19 := by omega
        have hoJ : (0 : Int) ≤ (o : Int) := by omega
        have hiI : (i : Int) < (many : Int) := by omega
        have hiJ : (i : Int) < 19 := by omega
        have hiK : (0 : Int) ≤ (i : Int) := by omega
        have hrib : ib < r := by omega
        have hF15 : Fr (fun k => k = ib ∨ k = r) w5 wr := HFr.out
        have HPO : Hid (∀ w2, Fr (oneB ib) wr.drew w2 → Fr (oneB ib) wr w2 ∧ Fr (fun k => k = ib ∨ k = r) wr w2 ∧ RowN w2 r 3 .i64 (X) ∧ (∃ u, w2.cell? ⟨r, o, none⟩ = some u) ∧ w2.frozen? ⟨r, o, none⟩ = false) := fun w2 hf => by
          have hH2 : Fr (oneB ib) wr w2 := Fr.trans (Fr.weak (Fr.refl noB wr).drew) hf
          have hR2 : RowN w2 r 3 .i64 (X) := HRr.out.keep hH2 (fun e => by have e' : r = ib := e; omega)
          exact ⟨hH2, hH2.mono (fun _ _ h => Or.inl h), hR2, ⟨_, hR2.cell o (by rw [hX19]; exact ho19)⟩, freeOf o hR2⟩
        have HK : Hid (∀ w', Fr (fun k => k = ib ∨ k = r) wr w' → w'.cell? ⟨cb, 0, none⟩ = some (.slice (some ⟨r, 0, none⟩) 19 19) ∧ w'.cell? ⟨w.heap.size + 1 + 1, i, none⟩ = some (.int .i64 (o : Int))) := fun w' hf => by
          have hh := hF15.trans hf
          refine ⟨cellOf (hh.obj HC5.out (by rintro (e | e) <;> omega)) rfl, cellOf (hh.obj HO5.out (by rintro (e | e) <;> omega)) ?_⟩
          rw [← ho]
          exact ordV_at i (by omega)
        have hFb : Fr noB wr wr.drew := (Fr.refl noB wr).drew
        clear C ho hF15
        go_wp2_with fail
        go_region_held3 (fun w' => w'.cell? ⟨cb, 0, none⟩ = some (.slice (some ⟨r, 0, none⟩) 19 19) ∧ w'.cell? ⟨w.heap.size + 1 + 1, i, none⟩ = some (.int .i64 (o : Int)))
          (first | (refine HK.out _ ?_; first | exact Fr.refl _ _ | exact (Fr.refl _ _).drew | exact hG2 | exact hG2.setCell _ (Or.inl (Or.inr rfl)) _) | fail)
          (first | (go_at_call 39; with_reducible refine (HC.out _ hFb).mono ?_; rintro e w2 ⟨rfl, hS2, hF2⟩; obtain ⟨hH2, hG2, hR2, ⟨u, cR⟩, fR⟩ := HPO.out w2 hF2))
        have HI3 : Hid (StIs w2 ib v B p' mo ov O e' bv) := HIr.out.rdr hH2 hS2
        have HI4 := HI3.out.row hR2 hrib o (.int .i64 (x : Int))
        have HR4 := hR2.set o x
        have HII4 : Hid _ := HI4
        have HRR4 : Hid _ := HR4
        have HFF4 : Hid (Fr (fun k => k = ib ∨ k = r) w5 (w2.setCell ⟨r, o, none⟩ (.int .i64 (x : Int)))) := HFr.out.trans (hG2.setCell _ (Or.inl (Or.inr rfl)) _)
        clear HI4 HR4 hS2 hF2 cR fR HC HK hG2 hR2 HI3 HPO
        go_wp2_with fail
        go_roundg (many - (i + 1))
        case measure => omega
        case rel => exact ⟨i + 1, p', e', X.set o x, by omega, rfl, by go_num, by rw [List.length_set]; exact hX19, HRR4.out, HII4.out, hpq, HFF4.out, HNX.out⟩
      · obtain rfl : i = many := by omega
        have hiI : ¬ (i : Int) < (i : Int) := by omega
        rcases hor with ⟨rfl, hpi2, HX⟩ | ⟨rfl, hshort⟩
        case inr =>
          have hdm : Hid ((hdA B p).1 = 33) := by
            obtain ⟨hpp, hL1, hL2, hL3⟩ := HLL.out
            show _ = _
            unfold hdA
            rw [if_neg (by omega), if_neg (by omega), if_pos (by omega)]
          have k4 := cellOf (o := 4) HIr.out.at_ rfl
          have hcx := HFr.out.obj HC5.out (by rintro (e | e) <;> omega)
          have kc := cellOf (o := 0) hcx rfl
          have CL := rlengths_err ib pi 33 (lit + dis) v (.slice (some ⟨r, 0, none⟩) 19 19) ov bv B O mo wr HIr.out (by decide)
          rw [show ((lit + dis : Nat) : Int) = (lit : Int) + (dis : Int) by omega] at CL
          go_wp2_with fail
          refine CL.mono ?_
          rintro e w8 ⟨rfl, hI8, hF8⟩
          have hG8 : Fr (fun k => k = ib ∨ k = r) w5 w8 := (HFr.out.trans (hF8.mono (fun _ _ h => Or.inl h)))
          have k48 := cellOf (o := 4) hI8.at_ rfl
          have r1 := hG8.obj HQ1.out (by rintro (e | e) <;> omega)
          have r2 := hG8.obj HQ2.out (by rintro (e | e) <;> omega)
          have c1 := cellOf (o := 0) r1 rfl
          have c2 := cellOf (o := 0) r2 rfl
          have f1 := freeOf 0 r1
          have f2 := freeOf 0 r2
          have HI8 : Hid _ := hI8
          have HG8 : Hid (Fr (fun k => k = ib ∨ k = r) w5 w8) := hG8
          have HR1 : Hid (w8.heap[w.heap.size]? = some (.cells #[.slice none 0 0] 86 (0, 0))) := r1
          have HR2' : Hid (w8.heap[w.heap.size + 1]? = some (.cells #[.slice none 0 0] 86 (0, 0))) := r2
          clear hI8 hG8 r1 r2
          go_wp2_with fail
          obtain ⟨W9, hW9⟩ : ∃ W9, (w8.setCell ⟨w.heap.size, 0, none⟩ (.slice none 0 0)).setCell ⟨w.heap.size + 1, 0, none⟩ (.slice none 0 0) = W9 := ⟨_, rfl⟩
          rw [hW9]
          have hF9 : Fr (fun k => k = w.heap.size ∨ k = w.heap.size + 1) w8 W9 := by
            rw [← hW9]
            exact ((Fr.refl _ _).setCell _ (Or.inl (Or.inl rfl)) _).setCell _ (Or.inl (Or.inr rfl)) _
          have q0 : W9.heap[w.heap.size]? = some (.cells #[.slice none 0 0] 86 (0, 0)) := by
            rw [← hW9]
            exact (Below.heap_setCell _ _ _ _ (by show w.heap.size ≠ w.heap.size + 1; omega)).trans (setOf 0 _ HR1.out)
          have q1 : W9.heap[w.heap.size + 1]? = some (.cells #[.slice none 0 0] 86 (0, 0)) := by
            rw [← hW9]
            exact setOf 0 _ ((Below.heap_setCell _ _ _ _ (by show w.heap.size + 1 ≠ w.heap.size; omega)).trans HR2'.out)
          have p0 := cellOf (o := 0) q0 rfl
          have p1' := cellOf (o := 0) q1 rfl
          refine bodyPost_ret (v := .tuple #[.agg #[.slice none 0 0], .agg #[.slice none 0 0]]) ?_ rfl ⟨.slice none 0 0, .slice none 0 0, ⟨rfl, ⟨_, _, _, rfl⟩, ⟨_, _, _, rfl⟩⟩, ?_, fun _ => ⟨pi, ?_, by omega⟩, fun h => absurd (hdm.out ▸ h) (by decide)⟩
          · simp [results, Tryd.results43, go_sem, p0, p1']
          · exact dfr HF01.out HFG.out HG8.out hF9 (by omega) (by have := HR.out; omega)
          · rw [hdm.out]
            exact HI8.out.keep hF9 (by rintro (e | e) <;> omega) (fun b hb => by rintro (e | e) <;> omega) (fun k cur _ hk => by
              rintro (e | e)
              · rw [e, HR1.out] at hk; cases hk
              · rw [e, HR2'.out] at hk; cases hk)
        have hXC : X = hCol B p := by
          obtain ⟨hpp, hL1, hL2, hL3⟩ := HLL.out
          rw [HX.out, hpp, hL3]
          rfl
        have CM := may_any (.slice (some ⟨r, 0, none⟩) 19 19) X wr (by have := HRr.out.ns (by rw [hX19]; unfold maxLen; decide); rw [hX19] at this; exact this) (fun x hx => by rw [HX.out] at hx; have := colL_le B p3 i x hx; omega) (by omega)
        have k4 := cellOf (o := 4) HIr.out.at_ rfl
        have hcx := HFr.out.obj HC5.out (by rintro (e | e) <;> omega)
        have kc := cellOf (o := 0) hcx rfl
        have hfit : ¬ 8 * B.length < p + 14 + 3 * hMny B p := by
          obtain ⟨hpp, hL1, hL2, hL3⟩ := HLL.out
          omega
        by_cases c4 : chk (up X) = 0
        case neg =>
          have hdm : Hid ((hdA B p).1 = 31) := by
            obtain ⟨hpp, hL1, hL2, hL3⟩ := HLL.out
            show _ = _
            unfold hdA
            rw [if_neg (by omega), if_neg (by omega), if_neg hfit, ← hXC, if_pos c4]
          rw [show decide (chk (up X) = 0) = false by simp [c4]] at CM
          have CF := fail_any mo ov bv 0 31 ib v pi wr HIr.out.at_
          rw [show erA 0 31 = 31 from rfl] at CF
          clear hXC c4
          go_wp2_with fail
          refine CM.mono ?_
          rintro e wr' ⟨rfl, hwr⟩
          have hwr' := hwr.symm
          subst hwr'
          go_wp2_with fail
          refine CF.mono ?_
          rintro e w7 ⟨rfl, hS7, hF7⟩
          have HI7 : Hid (StIs w7 ib v B pi mo ov O 31 bv) := HIr.out.rdr hF7 hS7
          have HG7 : Hid (Fr (fun k => k = ib ∨ k = r) w5 w7) := HFr.out.trans (hF7.mono (fun _ _ h => Or.inl h))
          clear CM CF hS7 hF7 k4 hcx kc
          have k4 := cellOf (o := 4) HI7.out.at_ rfl
          have hcx := HG7.out.obj HC5.out (by rintro (e | e) <;> omega)
          have kc := cellOf (o := 0) hcx rfl
          have CL := rlengths_err ib pi 31 (lit + dis) v (.slice (some ⟨r, 0, none⟩) 19 19) ov bv B O mo w7 HI7.out (by decide)
          rw [show ((lit + dis : Nat) : Int) = (lit : Int) + (dis : Int) by omega] at CL
          go_wp2_with fail
          refine CL.mono ?_
          rintro e w8 ⟨rfl, hI8, hF8⟩
          have hG8 : Fr (fun k => k = ib ∨ k = r) w5 w8 := (HG7.out.trans (hF8.mono (fun _ _ h => Or.inl h)))
          have k48 := cellOf (o := 4) hI8.at_ rfl
          have r1 := hG8.obj HQ1.out (by rintro (e | e) <;> omega)
          have r2 := hG8.obj HQ2.out (by rintro (e | e) <;> omega)
          have c1 := cellOf (o := 0) r1 rfl
          have c2 := cellOf (o := 0) r2 rfl
          have f1 := freeOf 0 r1
          have f2 := freeOf 0 r2
          have HI8 : Hid _ := hI8
          have HG8 : Hid (Fr (fun k => k = ib ∨ k = r) w5 w8) := hG8
          have HR1 : Hid (w8.heap[w.heap.size]? = some (.cells #[.slice none 0 0] 86 (0, 0))) := r1
          have HR2' : Hid (w8.heap[w.heap.size + 1]? = some (.cells #[.slice none 0 0] 86 (0, 0))) := r2
          clear hI8 hG8 r1 r2
          go_wp2_with fail
          obtain ⟨W9, hW9⟩ : ∃ W9, (w8.setCell ⟨w.heap.size, 0, none⟩ (.slice none 0 0)).setCell ⟨w.heap.size + 1, 0, none⟩ (.slice none 0 0) = W9 := ⟨_, rfl⟩
          rw [hW9]
          have hF9 : Fr (fun k => k = w.heap.size ∨ k = w.heap.size + 1) w8 W9 := by
            rw [← hW9]
            exact ((Fr.refl _ _).setCell _ (Or.inl (Or.inl rfl)) _).setCell _ (Or.inl (Or.inr rfl)) _
          have q0 : W9.heap[w.heap.size]? = some (.cells #[.slice none 0 0] 86 (0, 0)) := by
            rw [← hW9]
            exact (Below.heap_setCell _ _ _ _ (by show w.heap.size ≠ w.heap.size + 1; omega)).trans (setOf 0 _ HR1.out)
          have q1 : W9.heap[w.heap.size + 1]? = some (.cells #[.slice none 0 0] 86 (0, 0)) := by
            rw [← hW9]
            exact setOf 0 _ ((Below.heap_setCell _ _ _ _ (by show w.heap.size + 1 ≠ w.heap.size; omega)).trans HR2'.out)
          have p0 := cellOf (o := 0) q0 rfl
          have p1' := cellOf (o := 0) q1 rfl
          refine bodyPost_ret (v := .tuple #[.agg #[.slice none 0 0], .agg #[.slice none 0 0]]) ?_ rfl ⟨.slice none 0 0, .slice none 0 0, ⟨rfl, ⟨_, _, _, rfl⟩, ⟨_, _, _, rfl⟩⟩, ?_, fun _ => ⟨pi, ?_, by omega⟩, fun h => absurd (hdm.out ▸ h) (by decide)⟩
          · simp [results, Tryd.results43, go_sem, p0, p1']
          · exact dfr HF01.out HFG.out HG8.out hF9 (by omega) (by have := HR.out; omega)
          · rw [hdm.out]
            exact HI8.out.keep hF9 (by rintro (e | e) <;> omega) (fun b hb => by rintro (e | e) <;> omega) (fun k cur _ hk => by
              rintro (e | e)
              · rw [e, HR1.out] at hk; cases hk
              · rw [e, HR2'.out] at hk; cases hk)
        rw [show decide (chk (up X) = 0) = true by simp [c4]] at CM
        have hCode := code_is X c4
        have CL := rlengths_any ib pi (lit + dis) v (.slice (some ⟨r, 0, none⟩) 19 19) ov bv B X O mo wr HIr.out (fun w' hf => by
          have hr' := HRr.out.keep hf (fun e => by have e' : r = ib := e; omega)
          have := hr'.ns (by rw [hX19]; unfold maxLen; decide)
          rw [hX19] at this
          exact this) hCode hX19 HHB.out hpi hl (by omega)
        have hRL : lenA X B (lit + dis) (lit + dis + 1) pi [] = hLen B p := by
          obtain ⟨hpp, hL1, hL2, hL3⟩ := HLL.out
          unfold hLen
          rw [← hXC, ← hL1, ← hL2, ← hL3, ← hpp, hpi2]
        have hok := lenA_ok X B (lit + dis) (lit + dis + 1) pi [] (by simp) hpi
        have h15 := lenA_le X B (lit + dis) (lit + dis + 1) pi [] (by simp)
        rw [hRL] at CL hok h15
        have HHD0 : hdA B p = if (hLen B p).1 ≠ 0 then ((hLen B p).1, p, [], []) else if (hLen B p).2.2.getD 256 0 = 0 then (30, p, [], []) else if chk (up ((hLen B p).2.2.take lit)) ≠ 0 ∨ chk (up ((hLen B p).2.2.drop lit)) ≠ 0 then (31, p, [], []) else (0, (hLen B p).2.1, (hLen B p).2.2.take lit, (hLen B p).2.2.drop lit) := by
          obtain ⟨hpp, hL1, hL2, hL3⟩ := HLL.out
          unfold hdA
          rw [if_neg (by omega), if_neg (by omega), if_neg hfit, ← hXC, if_neg (by simpa using c4), hL1]
        obtain ⟨⟨er8, p8, L⟩, hRR⟩ : ∃ y, hLen B p = y := ⟨_, rfl⟩
        rw [hRR] at CL hok h15 HHD0
        simp only at CL hok h15 HHD0
        rw [show ((lit + dis : Nat) : Int) = (lit : Int) + (dis : Int) by omega] at CL
        clear hXC c4 hCode hRL hRR
        go_wp2_with fail
        refine CM.mono ?_
        rintro e wr' ⟨rfl, hwr⟩
        have hwr' := hwr.symm
        subst hwr'
        clear CM
        by_cases c5 : er8 = 0
        case neg =>
          have hdm : Hid ((hdA B p).1 = er8) := by show _ = _; rw [HHD0, if_pos c5]
          have HNE : Hid (er8 ≠ 0) := c5
          have CL' := CL.mono (fun e w' hh => (⟨hh.1 c5, hh.2.2⟩ : (∃ so n sc p', e = .returned (.slice so n sc) ∧ StIs w' ib v B p' mo ov O er8 bv ∧ p' ≤ 8 * B.length) ∧ Fr (oneB ib) wr w'))
          have e8 : ¬ (er8 : Int) = 0 := by omega
          have e8' : ((er8 : Int) != 0) = true := by rw [bne_iff_ne]; omega
          clear CL c5 hok h15 HHD0
          go_wp2_with fail
          refine CL'.mono ?_
          rintro e w8 ⟨⟨so, n, sc, p9, rfl, hI8, hp9⟩, hF8⟩
          have hG8 : Fr (fun k => k = ib ∨ k = r) w5 w8 := HFr.out.trans (hF8.mono (fun _ _ h => Or.inl h))
          have k48 := cellOf (o := 4) hI8.at_ rfl
          have r1 := hG8.obj HQ1.out (by rintro (e | e) <;> omega)
          have r2 := hG8.obj HQ2.out (by rintro (e | e) <;> omega)
          have c1 := cellOf (o := 0) r1 rfl
          have c2 := cellOf (o := 0) r2 rfl
          have f1 := freeOf 0 r1
          have f2 := freeOf 0 r2
          have HI8 : Hid _ := hI8
          have HG8 : Hid (Fr (fun k => k = ib ∨ k = r) w5 w8) := hG8
          have HR1 : Hid (w8.heap[w.heap.size]? = some (.cells #[.slice none 0 0] 86 (0, 0))) := r1
          have HR2' : Hid (w8.heap[w.heap.size + 1]? = some (.cells #[.slice none 0 0] 86 (0, 0))) := r2
          clear hI8 hG8 r1 r2
          go_wp2_with fail
          obtain ⟨W9, hW9⟩ : ∃ W9, (w8.setCell ⟨w.heap.size, 0, none⟩ (.slice none 0 0)).setCell ⟨w.heap.size + 1, 0, none⟩ (.slice none 0 0) = W9 := ⟨_, rfl⟩
          rw [hW9]
          have hF9 : Fr (fun k => k = w.heap.size ∨ k = w.heap.size + 1) w8 W9 := by
            rw [← hW9]
            exact ((Fr.refl _ _).setCell _ (Or.inl (Or.inl rfl)) _).setCell _ (Or.inl (Or.inr rfl)) _
          have q0 : W9.heap[w.heap.size]? = some (.cells #[.slice none 0 0] 86 (0, 0)) := by
            rw [← hW9]
            exact (Below.heap_setCell _ _ _ _ (by show w.heap.size ≠ w.heap.size + 1; omega)).trans (setOf 0 _ HR1.out)
          have q1 : W9.heap[w.heap.size + 1]? = some (.cells #[.slice none 0 0] 86 (0, 0)) := by
            rw [← hW9]
            exact setOf 0 _ ((Below.heap_setCell _ _ _ _ (by show w.heap.size + 1 ≠ w.heap.size; omega)).trans HR2'.out)
          have p0 := cellOf (o := 0) q0 rfl
          have p1' := cellOf (o := 0) q1 rfl
          refine bodyPost_ret (v := .tuple #[.agg #[.slice none 0 0], .agg #[.slice none 0 0]]) ?_ rfl ⟨.slice none 0 0, .slice none 0 0, ⟨rfl, ⟨_, _, _, rfl⟩, ⟨_, _, _, rfl⟩⟩, ?_, fun _ => ⟨p9, ?_, by omega⟩, fun h => absurd (hdm.out ▸ h) HNE.out⟩
          · simp [results, Tryd.results43, go_sem, p0, p1']
          · exact dfr HF01.out HFG.out HG8.out hF9 (by omega) (by have := HR.out; omega)
          · rw [hdm.out]
            exact HI8.out.keep hF9 (by rintro (e | e) <;> omega) (fun b hb => by rintro (e | e) <;> omega) (fun k cur _ hk => by
              rintro (e | e)
              · rw [e, HR1.out] at hk; cases hk
              · rw [e, HR2'.out] at hk; cases hk)
        subst c5
        obtain ⟨hLl, hp8a, hp8⟩ := hok rfl
        have CL' := CL.mono (fun e w' hh => (⟨hh.2.1 rfl, hh.2.2⟩ : (∃ so sc, e = .returned (.slice so L.length sc) ∧ OwnN (wr.heap.size + 1) w' so sc L ∧ StIs w' ib v B p8 mo ov O 0 bv) ∧ Fr (oneB ib) wr w'))
        rw [if_neg (by simp)] at HHD0
        have HL15 : Hid (∀ x ∈ L, x ≤ 15) := h15
        have HHDD : Hid _ := HHD0
        have hszr := HFr.out.size
        clear CL hok h15 HHD0
        go_wp2_with fail
        refine CL'.mono ?_
        rintro e w8 ⟨⟨so, sc, rfl, hO8, hI8⟩, hF8⟩
        obtain ⟨x, hx⟩ : ∃ x, L[256]? = some x := ⟨L[256]'(by omega), by simp [show 256 < L.length by omega]⟩
        obtain ⟨g0, e0, hg1, hg2, hcx8⟩ := hO8.cells 256 x hx
        obtain ⟨gg, e1, hgb, hLs, hsm, hn1, hn2⟩ := hO8.parts lit (by omega) (by omega)
        rw [e0] at e1
        obtain rfl : g0 = gg := by injection e1 with e1; injection e1
        subst e0
        obtain ⟨-, cur0, hgt⟩ := own_blk hO8 g0 rfl
        have hgd : L.getD 256 0 = x := by simp [List.getD, hx]
        have HG8 : Hid (Fr (fun k => k = ib ∨ k = r) w5 w8) := HFr.out.trans (hF8.mono (fun _ _ h => Or.inl h))
        have HI8 : Hid (StIs w8 ib v B p8 mo ov O 0 bv) := hI8
        have k48 := cellOf (o := 4) hI8.at_ rfl
        have hHD8 := HHDD.out
        rw [hgd] at hHD8
        have HHD8 : Hid _ := hHD8
        have HGT8 : Hid (w8.heap[g0]? = some (.cells cur0 3 (0, 0))) := hgt
        have hL256 : (256 : Int) < (L.length : Int) := by omega
        have hL256' : 256 < L.length := by omega
        rw [hLl, show lit + dis - lit = dis by omega] at hn2
        have HN18 : Hid (Ns .i64 w8 (.slice (some ⟨g0, 0, none⟩) lit sc) (up (L.take lit))) := hn1
        have HN28 : Hid (Ns .i64 w8 (.slice (some ⟨g0, lit, none⟩) dis (sc - lit)) (up (L.drop lit))) := hn2
        have s1 : (lit : Int) ≤ (sc : Int) := by omega
        have s2 : (lit : Int) ≤ (lit : Int) + (dis : Int) := by omega
        have s3 : ¬ sc - lit = 0 := by omega
        have s4 : (0 : Int) ≤ (lit : Int) := by omega
        have s6 : (lit : Int) + (dis : Int) ≤ (sc : Int) := by omega
        have s7 : lit + dis ≤ sc := by omega
        have s8 : lit < sc := by omega
        have s9 : ¬ sc ≤ lit := by omega
        have s10 : lit ≤ sc := by omega
        have s12 : ¬ sc = lit := by omega
        have s11 : (0 : Int) ≤ (dis : Int) := by omega
        have hc5 : cb < w5.heap.size := lt_of_block HC5.out
        have hgbig : w.heap.size + 1 < g0 := by omega
        have hgr : g0 ≠ r := by omega
        clear CL' hO8 hI8 hn1 hn2 hx hgd hHD8 HHDD hF8 hgt k4 hcx kc
        by_cases c6 : x = 0
        · subst c6
          have hdm : Hid ((hdA B p).1 = 30) := by show _ = _; rw [HHD8.out, if_pos rfl]
          have CF8 := fail_any mo ov bv 0 30 ib v p8 w8 HI8.out.at_
          rw [show erA 0 30 = 30 from rfl] at CF8
          go_wp2_with fail
          refine CF8.mono ?_
          rintro e w9 ⟨rfl, hS9, hF9'⟩
          have HI9 : Hid (StIs w9 ib v B p8 mo ov O 30 bv) := HI8.out.rdr hF9' hS9
          have HG9 : Hid (Fr (fun k => k = ib ∨ k = r) w5 w9) := HG8.out.trans (hF9'.mono (fun _ _ h => Or.inl h))
          have HN1 : Hid (Ns .i64 w9 (.slice (some ⟨g0, 0, none⟩) lit sc) (up (L.take lit))) := HN18.out.fr hF9' (fun ao len cap b off e1 e2 e => by
            have e' : b = ib := e
            injection e1 with e1
            rw [e2] at e1
            injection e1 with e1
            injection e1 with e1
            omega)
          have HN2 : Hid (Ns .i64 w9 (.slice (some ⟨g0, lit, none⟩) dis (sc - lit)) (up (L.drop lit))) := HN28.out.fr hF9' (fun ao len cap b off e1 e2 e => by
            have e' : b = ib := e
            injection e1 with e1
            rw [e2] at e1
            injection e1 with e1
            injection e1 with e1
            omega)
          clear CF8 hS9 hF9' k48 hcx8
          have CM1 := may_any (.slice (some ⟨g0, 0, none⟩) lit sc) (L.take lit) w9 HN1.out (fun x hx => HL15.out x (List.mem_of_mem_take hx)) (by rw [List.length_take]; omega)
          have CM2 := may_any (.slice (some ⟨g0, lit, none⟩) dis (sc - lit)) (L.drop lit) w9 HN2.out (fun x hx => HL15.out x (List.mem_of_mem_drop hx)) (by rw [List.length_drop]; omega)
          by_cases m1 : chk (up (L.take lit)) = 0
          · rw [show decide (chk (up (L.take lit)) = 0) = true by simp [m1]] at CM1
            by_cases m2 : chk (up (L.drop lit)) = 0
            · rw [show decide (chk (up (L.drop lit)) = 0) = true by simp [m2]] at CM2
              clear m1 m2
              go_wp2_with fail
              refine CM1.mono ?_
              rintro e w9' ⟨rfl, hw9⟩
              have hw9' := hw9.symm
              subst hw9'
              go_wp2_with fail
              refine CM2.mono ?_
              rintro e w9' ⟨rfl, hw9⟩
              have hw9' := hw9.symm
              subst hw9'
              clear CM1 CM2
              have r1 := HG9.out.obj HQ1.out (by rintro (e | e) <;> omega)
              have r2 := HG9.out.obj HQ2.out (by rintro (e | e) <;> omega)
              have c1 := cellOf (o := 0) r1 rfl
              have c2 := cellOf (o := 0) r2 rfl
              have f1 := freeOf 0 r1
              have f2 := freeOf 0 r2
              have HR1 : Hid (w9.heap[w.heap.size]? = some (.cells #[.slice none 0 0] 86 (0, 0))) := r1
              have HR2' : Hid (w9.heap[w.heap.size + 1]? = some (.cells #[.slice none 0 0] 86 (0, 0))) := r2
              clear r1 r2
              go_wp2_with fail
              go_region_held3 (fun _ => True) (exact trivial) (fail)
              go_wp2_with fail
              obtain ⟨W9, hW9⟩ : ∃ W9, ((w9.setCell ⟨w.heap.size, 0, none⟩ (.slice (some ⟨g0, 0, none⟩) lit sc)).setCell ⟨w.heap.size + 1, 0, none⟩ (.slice (some ⟨g0, lit, none⟩) dis (sc - lit))).drew = W9 := ⟨_, rfl⟩
              rw [hW9]
              have hF9 : Fr (fun k => k = w.heap.size ∨ k = w.heap.size + 1) w9 W9 := by
                rw [← hW9]
                exact (((Fr.refl _ _).setCell _ (Or.inl (Or.inl rfl)) _).setCell _ (Or.inl (Or.inr rfl)) _).drew
              have q0 : W9.heap[w.heap.size]? = some (.cells #[.slice (some ⟨g0, 0, none⟩) lit sc] 86 (0, 0)) := by
                rw [← hW9]
                exact (Below.heap_setCell _ _ _ _ (by show w.heap.size ≠ w.heap.size + 1; omega)).trans (setOf 0 _ HR1.out)
              have q1 : W9.heap[w.heap.size + 1]? = some (.cells #[.slice (some ⟨g0, lit, none⟩) dis (sc - lit)] 86 (0, 0)) := by
                rw [← hW9]
                exact setOf 0 _ ((Below.heap_setCell _ _ _ _ (by show w.heap.size + 1 ≠ w.heap.size; omega)).trans HR2'.out)
              have p0 := cellOf (o := 0) q0 rfl
              have p1' := cellOf (o := 0) q1 rfl
              have HIW : StIs W9 ib v B p8 mo ov O 30 bv := HI9.out.keep hF9 (by rintro (e | e) <;> omega) (fun b hb => by rintro (e | e) <;> omega) (fun k cur _ hk => by
                  rintro (e | e)
                  · rw [e, HR1.out] at hk; cases hk
                  · rw [e, HR2'.out] at hk; cases hk)
              refine bodyPost_ret (v := .tuple #[.agg #[.slice (some ⟨g0, 0, none⟩) lit sc], .agg #[.slice (some ⟨g0, lit, none⟩) dis (sc - lit)]]) ?_ rfl ⟨_, _, ⟨rfl, ⟨_, _, _, rfl⟩, ⟨_, _, _, rfl⟩⟩, ?_, fun _ => ⟨p8, ?_, by omega⟩, fun h => absurd (hdm.out ▸ h) (by decide)⟩
              · simp [results, Tryd.results43, go_sem, p0, p1']
              · exact dfr HF01.out HFG.out HG9.out hF9 (by omega) (by omega)
              · rw [hdm.out]
                exact HIW
            · rw [show decide (chk (up (L.drop lit)) = 0) = false by simp [m2]] at CM2
              clear m1 m2
              go_wp2_with fail
              refine CM1.mono ?_
              rintro e w9' ⟨rfl, hw9⟩
              have hw9' := hw9.symm
              subst hw9'
              go_wp2_with fail
              refine CM2.mono ?_
              rintro e w9' ⟨rfl, hw9⟩
              have hw9' := hw9.symm
              subst hw9'
              clear CM1 CM2
              have CF := fail_any mo ov bv 30 31 ib v p8 w9 HI9.out.at_
              rw [show erA 30 31 = 30 from rfl] at CF
              go_wp2_with fail
              refine CF.mono ?_
              rintro e w10 ⟨rfl, hS10, hF10⟩
              have HI10 : Hid (StIs w10 ib v B p8 mo ov O 30 bv) := HI9.out.rdr hF10 hS10
              have HG10 : Hid (Fr (fun k => k = ib ∨ k = r) w5 w10) := HG9.out.trans (hF10.mono (fun _ _ h => Or.inl h))
              clear CF hS10 hF10
              have r1 := HG10.out.obj HQ1.out (by rintro (e | e) <;> omega)
              have r2 := HG10.out.obj HQ2.out (by rintro (e | e) <;> omega)
              have c1 := cellOf (o := 0) r1 rfl
              have c2 := cellOf (o := 0) r2 rfl
              have f1 := freeOf 0 r1
              have f2 := freeOf 0 r2
              have HR1 : Hid (w10.heap[w.heap.size]? = some (.cells #[.slice none 0 0] 86 (0, 0))) := r1
              have HR2' : Hid (w10.heap[w.heap.size + 1]? = some (.cells #[.slice none 0 0] 86 (0, 0))) := r2
              clear r1 r2
              go_wp2_with fail
              go_region_held3 (fun _ => True) (exact trivial) (fail)
              go_wp2_with fail
              obtain ⟨W9, hW9⟩ : ∃ W9, ((w10.setCell ⟨w.heap.size, 0, none⟩ (.slice (some ⟨g0, 0, none⟩) lit sc)).setCell ⟨w.heap.size + 1, 0, none⟩ (.slice (some ⟨g0, lit, none⟩) dis (sc - lit))).drew = W9 := ⟨_, rfl⟩
              rw [hW9]
              have hF9 : Fr (fun k => k = w.heap.size ∨ k = w.heap.size + 1) w10 W9 := by
                rw [← hW9]
                exact (((Fr.refl _ _).setCell _ (Or.inl (Or.inl rfl)) _).setCell _ (Or.inl (Or.inr rfl)) _).drew
              have q0 : W9.heap[w.heap.size]? = some (.cells #[.slice (some ⟨g0, 0, none⟩) lit sc] 86 (0, 0)) := by
                rw [← hW9]
                exact (Below.heap_setCell _ _ _ _ (by show w.heap.size ≠ w.heap.size + 1; omega)).trans (setOf 0 _ HR1.out)
              have q1 : W9.heap[w.heap.size + 1]? = some (.cells #[.slice (some ⟨g0, lit, none⟩) dis (sc - lit)] 86 (0, 0)) := by
                rw [← hW9]
                exact setOf 0 _ ((Below.heap_setCell _ _ _ _ (by show w.heap.size + 1 ≠ w.heap.size; omega)).trans HR2'.out)
              have p0 := cellOf (o := 0) q0 rfl
              have p1' := cellOf (o := 0) q1 rfl
              have HIW : StIs W9 ib v B p8 mo ov O 30 bv := HI10.out.keep hF9 (by rintro (e | e) <;> omega) (fun b hb => by rintro (e | e) <;> omega) (fun k cur _ hk => by
                  rintro (e | e)
                  · rw [e, HR1.out] at hk; cases hk
                  · rw [e, HR2'.out] at hk; cases hk)
              refine bodyPost_ret (v := .tuple #[.agg #[.slice (some ⟨g0, 0, none⟩) lit sc], .agg #[.slice (some ⟨g0, lit, none⟩) dis (sc - lit)]]) ?_ rfl ⟨_, _, ⟨rfl, ⟨_, _, _, rfl⟩, ⟨_, _, _, rfl⟩⟩, ?_, fun _ => ⟨p8, ?_, by omega⟩, fun h => absurd (hdm.out ▸ h) (by decide)⟩
              · simp [results, Tryd.results43, go_sem, p0, p1']
              · exact dfr HF01.out HFG.out HG10.out hF9 (by omega) (by omega)
              · rw [hdm.out]
                exact HIW
          · rw [show decide (chk (up (L.take lit)) = 0) = false by simp [m1]] at CM1
            clear m1
            go_wp2_with fail
            refine CM1.mono ?_
            rintro e w9' ⟨rfl, hw9⟩
            have hw9' := hw9.symm
            subst hw9'
            clear CM1 CM2
            have CF := fail_any mo ov bv 30 31 ib v p8 w9 HI9.out.at_
            rw [show erA 30 31 = 30 from rfl] at CF
            go_wp2_with fail
            refine CF.mono ?_
            rintro e w10 ⟨rfl, hS10, hF10⟩
            have HI10 : Hid (StIs w10 ib v B p8 mo ov O 30 bv) := HI9.out.rdr hF10 hS10
            have HG10 : Hid (Fr (fun k => k = ib ∨ k = r) w5 w10) := HG9.out.trans (hF10.mono (fun _ _ h => Or.inl h))
            clear CF hS10 hF10
            have r1 := HG10.out.obj HQ1.out (by rintro (e | e) <;> omega)
            have r2 := HG10.out.obj HQ2.out (by rintro (e | e) <;> omega)
            have c1 := cellOf (o := 0) r1 rfl
            have c2 := cellOf (o := 0) r2 rfl
            have f1 := freeOf 0 r1
            have f2 := freeOf 0 r2
            have HR1 : Hid (w10.heap[w.heap.size]? = some (.cells #[.slice none 0 0] 86 (0, 0))) := r1
            have HR2' : Hid (w10.heap[w.heap.size + 1]? = some (.cells #[.slice none 0 0] 86 (0, 0))) := r2
            clear r1 r2
            go_wp2_with fail
            go_region_held3 (fun _ => True) (exact trivial) (fail)
            go_wp2_with fail
            obtain ⟨W9, hW9⟩ : ∃ W9, ((w10.setCell ⟨w.heap.size, 0, none⟩ (.slice (some ⟨g0, 0, none⟩) lit sc)).setCell ⟨w.heap.size + 1, 0, none⟩ (.slice (some ⟨g0, lit, none⟩) dis (sc - lit))).drew = W9 := ⟨_, rfl⟩
            rw [hW9]
            have hF9 : Fr (fun k => k = w.heap.size ∨ k = w.heap.size + 1) w10 W9 := by
              rw [← hW9]
              exact (((Fr.refl _ _).setCell _ (Or.inl (Or.inl rfl)) _).setCell _ (Or.inl (Or.inr rfl)) _).drew
            have q0 : W9.heap[w.heap.size]? = some (.cells #[.slice (some ⟨g0, 0, none⟩) lit sc] 86 (0, 0)) := by
              rw [← hW9]
              exact (Below.heap_setCell _ _ _ _ (by show w.heap.size ≠ w.heap.size + 1; omega)).trans (setOf 0 _ HR1.out)
            have q1 : W9.heap[w.heap.size + 1]? = some (.cells #[.slice (some ⟨g0, lit, none⟩) dis (sc - lit)] 86 (0, 0)) := by
              rw [← hW9]
              exact setOf 0 _ ((Below.heap_setCell _ _ _ _ (by show w.heap.size + 1 ≠ w.heap.size; omega)).trans HR2'.out)
            have p0 := cellOf (o := 0) q0 rfl
            have p1' := cellOf (o := 0) q1 rfl
            have HIW : StIs W9 ib v B p8 mo ov O 30 bv := HI10.out.keep hF9 (by rintro (e | e) <;> omega) (fun b hb => by rintro (e | e) <;> omega) (fun k cur _ hk => by
                rintro (e | e)
                · rw [e, HR1.out] at hk; cases hk
                · rw [e, HR2'.out] at hk; cases hk)
            refine bodyPost_ret (v := .tuple #[.agg #[.slice (some ⟨g0, 0, none⟩) lit sc], .agg #[.slice (some ⟨g0, lit, none⟩) dis (sc - lit)]]) ?_ rfl ⟨_, _, ⟨rfl, ⟨_, _, _, rfl⟩, ⟨_, _, _, rfl⟩⟩, ?_, fun _ => ⟨p8, ?_, by omega⟩, fun h => absurd (hdm.out ▸ h) (by decide)⟩
            · simp [results, Tryd.results43, go_sem, p0, p1']
            · exact dfr HF01.out HFG.out HG10.out hF9 (by omega) (by omega)
            · rw [hdm.out]
              exact HIW
        have c6I : ((x : Int) == 0) = false := by simp; omega
        have HHD : Hid (hdA B p = if chk (up (L.take lit)) ≠ 0 ∨ chk (up (L.drop lit)) ≠ 0 then (31, p, [], []) else (0, p8, L.take lit, L.drop lit)) := by show _ = _; rw [HHD8.out, if_neg c6]
        obtain ⟨w9, hw9⟩ : ∃ w9, w8 = w9 := ⟨_, rfl⟩
        subst hw9
        have HI9 := HI8
        have HG9 := HG8
        have HN1 := HN18
        have HN2 := HN28
        have HGT := HGT8
        clear HI8 HG8 HN18 HN28 HGT8 HHD8
        have CM1 := may_any (.slice (some ⟨g0, 0, none⟩) lit sc) (L.take lit) w8 HN1.out (fun x hx => HL15.out x (List.mem_of_mem_take hx)) (by rw [List.length_take]; omega)
        have CM2 := may_any (.slice (some ⟨g0, lit, none⟩) dis (sc - lit)) (L.drop lit) w8 HN2.out (fun x hx => HL15.out x (List.mem_of_mem_drop hx)) (by rw [List.length_drop]; omega)
        by_cases m1 : chk (up (L.take lit)) = 0
        · rw [show decide (chk (up (L.take lit)) = 0) = true by simp [m1]] at CM1
          by_cases m2 : chk (up (L.drop lit)) = 0
          · rw [show decide (chk (up (L.drop lit)) = 0) = true by simp [m2]] at CM2
            have hdm0 : hdA B p = (0, p8, L.take lit, L.drop lit) := by
              rw [HHD.out, if_neg (by simp [m1, m2])]
            have hdm : Hid ((hdA B p).1 = 0) := by show _ = _; rw [hdm0]
            have hdp : Hid ((hdA B p).2.1 = p8) := by show _ = _; rw [hdm0]
            have hdM : Hid ((hdA B p).2.2.1 = L.take lit) := by show _ = _; rw [hdm0]
            have hdN : Hid ((hdA B p).2.2.2 = L.drop lit) := by show _ = _; rw [hdm0]
            clear hdm0
            clear m1 m2
            go_wp2_with fail
            refine CM1.mono ?_
            rintro e w8q ⟨rfl, hw8⟩
            have hw8q := hw8.symm
            subst hw8q
            go_wp2_with fail
            refine CM2.mono ?_
            rintro e w8q ⟨rfl, hw8⟩
            have hw8q := hw8.symm
            subst hw8q
            clear CM1 CM2
            have r1 := HG9.out.obj HQ1.out (by rintro (e | e) <;> omega)
            have r2 := HG9.out.obj HQ2.out (by rintro (e | e) <;> omega)
            have c1 := cellOf (o := 0) r1 rfl
            have c2 := cellOf (o := 0) r2 rfl
            have f1 := freeOf 0 r1
            have f2 := freeOf 0 r2
            have HR1 : Hid (w8.heap[w.heap.size]? = some (.cells #[.slice none 0 0] 86 (0, 0))) := r1
            have HR2' : Hid (w8.heap[w.heap.size + 1]? = some (.cells #[.slice none 0 0] 86 (0, 0))) := r2
            clear r1 r2
            go_wp2_with fail
            go_region_held3 (fun _ => True) (exact trivial) (fail)
            go_wp2_with fail
            obtain ⟨W9, hW9⟩ : ∃ W9, ((w8.setCell ⟨w.heap.size, 0, none⟩ (.slice (some ⟨g0, 0, none⟩) lit sc)).setCell ⟨w.heap.size + 1, 0, none⟩ (.slice (some ⟨g0, lit, none⟩) dis (sc - lit))).drew = W9 := ⟨_, rfl⟩
            rw [hW9]
            have hF9 : Fr (fun k => k = w.heap.size ∨ k = w.heap.size + 1) w8 W9 := by
              rw [← hW9]
              exact (((Fr.refl _ _).setCell _ (Or.inl (Or.inl rfl)) _).setCell _ (Or.inl (Or.inr rfl)) _).drew
            have q0 : W9.heap[w.heap.size]? = some (.cells #[.slice (some ⟨g0, 0, none⟩) lit sc] 86 (0, 0)) := by
              rw [← hW9]
              exact (Below.heap_setCell _ _ _ _ (by show w.heap.size ≠ w.heap.size + 1; omega)).trans (setOf 0 _ HR1.out)
            have q1 : W9.heap[w.heap.size + 1]? = some (.cells #[.slice (some ⟨g0, lit, none⟩) dis (sc - lit)] 86 (0, 0)) := by
              rw [← hW9]
              exact setOf 0 _ ((Below.heap_setCell _ _ _ _ (by show w.heap.size + 1 ≠ w.heap.size; omega)).trans HR2'.out)
            have p0 := cellOf (o := 0) q0 rfl
            have p1' := cellOf (o := 0) q1 rfl
            have HIW : StIs W9 ib v B p8 mo ov O 0 bv := HI9.out.keep hF9 (by rintro (e | e) <;> omega) (fun b hb => by rintro (e | e) <;> omega) (fun k cur _ hk => by
                rintro (e | e)
                · rw [e, HR1.out] at hk; cases hk
                · rw [e, HR2'.out] at hk; cases hk)
            have hNk : ∀ w'', Fr (wS W9 ib) W9 w'' → Fr (fun k => k = w.heap.size ∨ k = w.heap.size + 1 ∨ wS W9 ib k) w8 w'' := fun w'' hf => (hF9.mono (fun k _ hk => by
                rcases hk with e | e
                · exact Or.inl e
                · exact Or.inr (Or.inl e))).trans (hf.mono (fun k _ hk => Or.inr (Or.inr hk)))
            have hgW : ¬ (g0 = w.heap.size ∨ g0 = w.heap.size + 1 ∨ wS W9 ib g0) := by
              rintro (e | e | e | ⟨_, cs, fr, e⟩)
              · omega
              · omega
              · omega
              · have hh := hF9.obj HGT.out (by rintro (e | e) <;> omega)
                rw [e] at hh
                cases hh
            refine bodyPost_ret (v := .tuple #[.agg #[.slice (some ⟨g0, 0, none⟩) lit sc], .agg #[.slice (some ⟨g0, lit, none⟩) dis (sc - lit)]]) ?_ rfl ⟨_, _, ⟨rfl, ⟨_, _, _, rfl⟩, ⟨_, _, _, rfl⟩⟩, ?_, fun h => absurd hdm.out h, fun _ => ⟨?_, fun w'' hf => ?_, fun w'' hf => ?_⟩⟩
            · simp [results, Tryd.results43, go_sem, p0, p1']
            · exact dfr HF01.out HFG.out HG9.out hF9 (by omega) (by omega)
            · rw [hdp.out]
              exact HIW
            · rw [hdM.out]
              refine HN1.out.fr (hNk w'' hf) (fun ao len cap b off e1 e2 => ?_)
              injection e1 with e1
              rw [e2] at e1
              injection e1 with e1
              injection e1 with e1
              rw [← e1]
              exact hgW
            · rw [hdN.out]
              refine HN2.out.fr (hNk w'' hf) (fun ao len cap b off e1 e2 => ?_)
              injection e1 with e1
              rw [e2] at e1
              injection e1 with e1
              injection e1 with e1
              rw [← e1]
              exact hgW
          · rw [show decide (chk (up (L.drop lit)) = 0) = false by simp [m2]] at CM2
            have hdm : Hid ((hdA B p).1 = 31) := by show _ = _; rw [HHD.out, if_pos (by simp [m1, m2])]
            clear m1 m2
            go_wp2_with fail
            refine CM1.mono ?_
            rintro e w8q ⟨rfl, hw8⟩
            have hw8q := hw8.symm
            subst hw8q
            go_wp2_with fail
            refine CM2.mono ?_
            rintro e w8q ⟨rfl, hw8⟩
            have hw8q := hw8.symm
            subst hw8q
            clear CM1 CM2
            have CF := fail_any mo ov bv 0 31 ib v p8 w8 HI9.out.at_
            rw [show erA 0 31 = 31 from rfl] at CF
            go_wp2_with fail
            refine CF.mono ?_
            rintro e w10 ⟨rfl, hS10, hF10⟩
            have HI10 : Hid (StIs w10 ib v B p8 mo ov O 31 bv) := HI9.out.rdr hF10 hS10
            have HG10 : Hid (Fr (fun k => k = ib ∨ k = r) w5 w10) := HG9.out.trans (hF10.mono (fun _ _ h => Or.inl h))
            clear CF hS10 hF10
            have r1 := HG10.out.obj HQ1.out (by rintro (e | e) <;> omega)
            have r2 := HG10.out.obj HQ2.out (by rintro (e | e) <;> omega)
            have c1 := cellOf (o := 0) r1 rfl
            have c2 := cellOf (o := 0) r2 rfl
            have f1 := freeOf 0 r1
            have f2 := freeOf 0 r2
            have HR1 : Hid (w10.heap[w.heap.size]? = some (.cells #[.slice none 0 0] 86 (0, 0))) := r1
            have HR2' : Hid (w10.heap[w.heap.size + 1]? = some (.cells #[.slice none 0 0] 86 (0, 0))) := r2
            clear r1 r2
            go_wp2_with fail
            go_region_held3 (fun _ => True) (exact trivial) (fail)
            go_wp2_with fail
            obtain ⟨W9, hW9⟩ : ∃ W9, ((w10.setCell ⟨w.heap.size, 0, none⟩ (.slice (some ⟨g0, 0, none⟩) lit sc)).setCell ⟨w.heap.size + 1, 0, none⟩ (.slice (some ⟨g0, lit, none⟩) dis (sc - lit))).drew = W9 := ⟨_, rfl⟩
            rw [hW9]
            have hF9 : Fr (fun k => k = w.heap.size ∨ k = w.heap.size + 1) w10 W9 := by
              rw [← hW9]
              exact (((Fr.refl _ _).setCell _ (Or.inl (Or.inl rfl)) _).setCell _ (Or.inl (Or.inr rfl)) _).drew
            have q0 : W9.heap[w.heap.size]? = some (.cells #[.slice (some ⟨g0, 0, none⟩) lit sc] 86 (0, 0)) := by
              rw [← hW9]
              exact (Below.heap_setCell _ _ _ _ (by show w.heap.size ≠ w.heap.size + 1; omega)).trans (setOf 0 _ HR1.out)
            have q1 : W9.heap[w.heap.size + 1]? = some (.cells #[.slice (some ⟨g0, lit, none⟩) dis (sc - lit)] 86 (0, 0)) := by
              rw [← hW9]
              exact setOf 0 _ ((Below.heap_setCell _ _ _ _ (by show w.heap.size + 1 ≠ w.heap.size; omega)).trans HR2'.out)
            have p0 := cellOf (o := 0) q0 rfl
            have p1' := cellOf (o := 0) q1 rfl
            have HIW : StIs W9 ib v B p8 mo ov O 31 bv := HI10.out.keep hF9 (by rintro (e | e) <;> omega) (fun b hb => by rintro (e | e) <;> omega) (fun k cur _ hk => by
                rintro (e | e)
                · rw [e, HR1.out] at hk; cases hk
                · rw [e, HR2'.out] at hk; cases hk)
            refine bodyPost_ret (v := .tuple #[.agg #[.slice (some ⟨g0, 0, none⟩) lit sc], .agg #[.slice (some ⟨g0, lit, none⟩) dis (sc - lit)]]) ?_ rfl ⟨_, _, ⟨rfl, ⟨_, _, _, rfl⟩, ⟨_, _, _, rfl⟩⟩, ?_, fun _ => ⟨p8, ?_, by omega⟩, fun h => absurd (hdm.out ▸ h) (by decide)⟩
            · simp [results, Tryd.results43, go_sem, p0, p1']
            · exact dfr HF01.out HFG.out HG10.out hF9 (by omega) (by omega)
            · rw [hdm.out]
              exact HIW
        · rw [show decide (chk (up (L.take lit)) = 0) = false by simp [m1]] at CM1
          have hdm : Hid ((hdA B p).1 = 31) := by show _ = _; rw [HHD.out, if_pos (by simp [m1])]
          clear m1
          go_wp2_with fail
          refine CM1.mono ?_
          rintro e w8q ⟨rfl, hw8⟩
          have hw8q := hw8.symm
          subst hw8q
          clear CM1 CM2
          have CF := fail_any mo ov bv 0 31 ib v p8 w8 HI9.out.at_
          rw [show erA 0 31 = 31 from rfl] at CF
          go_wp2_with fail
          refine CF.mono ?_
          rintro e w10 ⟨rfl, hS10, hF10⟩
          have HI10 : Hid (StIs w10 ib v B p8 mo ov O 31 bv) := HI9.out.rdr hF10 hS10
          have HG10 : Hid (Fr (fun k => k = ib ∨ k = r) w5 w10) := HG9.out.trans (hF10.mono (fun _ _ h => Or.inl h))
          clear CF hS10 hF10
          have r1 := HG10.out.obj HQ1.out (by rintro (e | e) <;> omega)
          have r2 := HG10.out.obj HQ2.out (by rintro (e | e) <;> omega)
          have c1 := cellOf (o := 0) r1 rfl
          have c2 := cellOf (o := 0) r2 rfl
          have f1 := freeOf 0 r1
          have f2 := freeOf 0 r2
          have HR1 : Hid (w10.heap[w.heap.size]? = some (.cells #[.slice none 0 0] 86 (0, 0))) := r1
          have HR2' : Hid (w10.heap[w.heap.size + 1]? = some (.cells #[.slice none 0 0] 86 (0, 0))) := r2
          clear r1 r2
          go_wp2_with fail
          go_region_held3 (fun _ => True) (exact trivial) (fail)
          go_wp2_with fail
          obtain ⟨W9, hW9⟩ : ∃ W9, ((w10.setCell ⟨w.heap.size, 0, none⟩ (.slice (some ⟨g0, 0, none⟩) lit sc)).setCell ⟨w.heap.size + 1, 0, none⟩ (.slice (some ⟨g0, lit, none⟩) dis (sc - lit))).drew = W9 := ⟨_, rfl⟩
          rw [hW9]
          have hF9 : Fr (fun k => k = w.heap.size ∨ k = w.heap.size + 1) w10 W9 := by
            rw [← hW9]
            exact (((Fr.refl _ _).setCell _ (Or.inl (Or.inl rfl)) _).setCell _ (Or.inl (Or.inr rfl)) _).drew
          have q0 : W9.heap[w.heap.size]? = some (.cells #[.slice (some ⟨g0, 0, none⟩) lit sc] 86 (0, 0)) := by
            rw [← hW9]
            exact (Below.heap_setCell _ _ _ _ (by show w.heap.size ≠ w.heap.size + 1; omega)).trans (setOf 0 _ HR1.out)
          have q1 : W9.heap[w.heap.size + 1]? = some (.cells #[.slice (some ⟨g0, lit, none⟩) dis (sc - lit)] 86 (0, 0)) := by
            rw [← hW9]
            exact setOf 0 _ ((Below.heap_setCell _ _ _ _ (by show w.heap.size + 1 ≠ w.heap.size; omega)).trans HR2'.out)
          have p0 := cellOf (o := 0) q0 rfl
          have p1' := cellOf (o := 0) q1 rfl
          have HIW : StIs W9 ib v B p8 mo ov O 31 bv := HI10.out.keep hF9 (by rintro (e | e) <;> omega) (fun b hb => by rintro (e | e) <;> omega) (fun k cur _ hk => by
              rintro (e | e)
              · rw [e, HR1.out] at hk; cases hk
              · rw [e, HR2'.out] at hk; cases hk)
          refine bodyPost_ret (v := .tuple #[.agg #[.slice (some ⟨g0, 0, none⟩) lit sc], .agg #[.slice (some ⟨g0, lit, none⟩) dis (sc - lit)]]) ?_ rfl ⟨_, _, ⟨rfl, ⟨_, _, _, rfl⟩, ⟨_, _, _, rfl⟩⟩, ?_, fun _ => ⟨p8, ?_, by omega⟩, fun h => absurd (hdm.out ▸ h) (by decide)⟩
          · simp [results, Tryd.results43, go_sem, p0, p1']
          · exact dfr HF01.out HFG.out HG10.out hF9 (by omega) (by omega)
          · rw [hdm.out]
            exact HIW
#print axioms rdynamic_any
end Go.Proofs.YthgnhcdodfildaaDoor
/- The document's fixed codes. -/
namespace Go.Proofs.YthgnhcdodfildaaDoor
open Go.RowKit Go.Shelf
attribute [local go_sem ↓] Go.wp_at_zero Go.wp_at_succ

/-- The first k lengths of the fixed code. -/
def fixK (k : Nat) : List Nat := (List.range k).map fixL
@[simp] theorem fixK_length (k : Nat) : (fixK k).length = k := by simp [fixK]
theorem fixK_succ (k : Nat) : fixK (k + 1) = fixK k ++ [fixL k] := by simp [fixK, List.range_succ]
/-- The two codes while they are made: four cells from N on, and the two rows behind. -/
structure FxIs (w W : World) (N M : Nat) (so : Option Addr) (sc : Nat) (D : List Nat) (so2 : Option Addr) (sc2 : Nat) (D2 : List Nat) : Prop where
  c0 : W.heap[N]? = some (.cells #[.slice none 0 0] 86 (0, 0))
  c1 : W.heap[N + 1]? = some (.cells #[.slice none 0 0] 86 (0, 0))
  c2 : W.heap[N + 1 + 1]? = some (.cells #[.slice so D.length sc] 86 (0, 0))
  c3 : W.heap[N + 1 + 1 + 1]? = some (.cells #[.slice so2 D2.length sc2] 86 (0, 0))
  own : OwnN (N + 4) W so sc D
  own2 : OwnN M W so2 sc2 D2
  low : N + 4 ≤ M
  top : M ≤ W.heap.size
  sep : ∀ b, (Value.slice so D.length sc).ownBlock = some b → b < M
  size : w.heap.size = N
  fr : Fr noB w W
theorem OwnN.keepB {base : Nat} {w w' : World} {so : Option Addr} {sc : Nat} {D : List Nat} {S : Nat → Prop} (h : OwnN base w so sc D) (hF : Fr S w w') (hS : ∀ b, (Value.slice so D.length sc).ownBlock = some b → ¬ S b) : OwnN base w' so sc D := by
  refine ⟨h.1, ?_⟩
  rcases h.2 with h0 | ⟨g, cap, cur, hv, hb, hg, r⟩
  · exact .inl h0
  · refine .inr ⟨g, cap, cur, hv, hb, hF.obj hg (hS g ?_), r⟩
    rw [hv]
    rfl
/-- The second row grows by x. -/
theorem FxIs.app2 {w W W4 : World} {N M : Nat} {so so2 so4 : Option Addr} {sc sc2 sc4 : Nat} {D D2 : List Nat} (h : FxIs w W N M so sc D so2 sc2 D2) (x : Nat) (hF : Fr (fun b => (Value.slice so2 D2.length sc2).ownBlock = some b) W W4) (ho : OwnN M W4 so4 sc4 (D2 ++ [x])) : FxIs w (W4.setCell ⟨N + 1 + 1 + 1, 0, none⟩ (.slice so4 (D2 ++ [x]).length sc4)) N M so sc D so4 sc4 (D2 ++ [x]) := by
  have hb := fun k hk => (own_blk h.own2 k hk).1
  have hl := h.low
  have hone : Fr (oneB (N + 1 + 1 + 1)) W4 (W4.setCell ⟨N + 1 + 1 + 1, 0, none⟩ (.slice so4 (D2 ++ [x]).length sc4)) := (Fr.refl _ W4).setOne _ _
  have lo : ∀ k, k < M → ¬ (Value.slice so2 D2.length sc2).ownBlock = some k := fun k hk e => by have := hb k e; omega
  refine ⟨?_, ?_, ?_, setOf 0 _ (hF.obj h.c3 (lo _ (by omega))), ?_, ?_, h.low, by have := hF.size; have := hone.size; have := h.top; omega, h.sep, h.size, ?_⟩
  · exact hone.obj (hF.obj h.c0 (lo _ (by omega))) (fun e => by have e' : N = N + 1 + 1 + 1 := e; omega)
  · exact hone.obj (hF.obj h.c1 (lo _ (by omega))) (fun e => by have e' : N + 1 = N + 1 + 1 + 1 := e; omega)
  · exact hone.obj (hF.obj h.c2 (lo _ (by omega))) (fun e => by have e' : N + 1 + 1 = N + 1 + 1 + 1 := e; omega)
  · refine (h.own.keepB hF (fun b e => lo b (h.sep b e))).keepB hone (fun b e e2 => ?_)
    have e' : b = N + 1 + 1 + 1 := e2
    have := (own_blk h.own b e).1
    omega
  · refine ho.keepB hone (fun b e e2 => ?_)
    have e' : b = N + 1 + 1 + 1 := e2
    have := (own_blk ho b e).1
    omega
  · exact (h.fr.then hF (fun k hk => Or.inr (by have := hb k hk; have := h.size; omega))).then hone (fun k hk => Or.inr (by have e' : k = N + 1 + 1 + 1 := hk; have := h.size; omega))
/-- The first row grows by x, while there is no second one. -/
theorem FxIs.app1 {w W W4 : World} {N : Nat} {so so4 : Option Addr} {sc sc4 : Nat} {D : List Nat} (h : FxIs w W N W.heap.size so sc D none 0 []) (x : Nat) (hF : Fr (fun b => (Value.slice so D.length sc).ownBlock = some b) W W4) (ho : OwnN (N + 4) W4 so4 sc4 (D ++ [x])) : FxIs w (W4.setCell ⟨N + 1 + 1, 0, none⟩ (.slice so4 (D ++ [x]).length sc4)) N (W4.setCell ⟨N + 1 + 1, 0, none⟩ (.slice so4 (D ++ [x]).length sc4)).heap.size so4 sc4 (D ++ [x]) none 0 [] := by
  have hb := fun k hk => (own_blk h.own k hk).1
  have hl := h.low
  have hone : Fr (oneB (N + 1 + 1)) W4 (W4.setCell ⟨N + 1 + 1, 0, none⟩ (.slice so4 (D ++ [x]).length sc4)) := (Fr.refl _ W4).setOne _ _
  have lo : ∀ k, k < N + 4 → ¬ (Value.slice so D.length sc).ownBlock = some k := fun k hk e => by have := hb k e; omega
  have hs1 := hF.size
  have hs2 := hone.size
  refine ⟨?_, ?_, setOf 0 _ (hF.obj h.c2 (lo _ (by omega))), ?_, ?_, World.ownsRow_nil _ _ _ _, by omega, Nat.le_refl _, ?_, h.size, ?_⟩
  · exact hone.obj (hF.obj h.c0 (lo _ (by omega))) (fun e => by have e' : N = N + 1 + 1 := e; omega)
  · exact hone.obj (hF.obj h.c1 (lo _ (by omega))) (fun e => by have e' : N + 1 = N + 1 + 1 := e; omega)
  · exact hone.obj (hF.obj h.c3 (lo _ (by omega))) (fun e => by have e' : N + 1 + 1 + 1 = N + 1 + 1 := e; omega)
  · refine ho.keepB hone (fun b e e2 => ?_)
    have e' : b = N + 1 + 1 := e2
    have := (own_blk ho b e).1
    omega
  · intro b e
    obtain ⟨_, cur, hc⟩ := own_blk ho b e
    have := lt_of_block hc
    omega
  · exact (h.fr.then hF (fun k hk => Or.inr (by have := hb k hk; have := h.size; omega))).then hone (fun k hk => Or.inr (by have e' : k = N + 1 + 1 := hk; have := h.size; omega))
#print axioms FxIs.app1
#print axioms FxIs.app2
end Go.Proofs.YthgnhcdodfildaaDoor
/- The document's fixed codes: the walk. -/
namespace Go.Proofs.YthgnhcdodfildaaDoor
open Go.RowKit Go.Shelf
attribute [local go_sem ↓] Go.wp_at_zero Go.wp_at_succ

theorem OwnN.base {base base' : Nat} {w : World} {so : Option Addr} {sc : Nat} {D : List Nat} (h : OwnN base w so sc D) (hb : base' ≤ base) : OwnN base' w so sc D := by
  refine ⟨h.1, ?_⟩
  rcases h.2 with h0 | ⟨g, cap, cur, hv, hg, r⟩
  · exact .inl h0
  · exact .inr ⟨g, cap, cur, hv, by omega, r⟩
set_option maxRecDepth 100000 in
set_option maxHeartbeats 3200000 in
theorem rfixed_any (w : World) :
    Calls Tryd.prog 41 #[] w fun e w' => ∃ so sc so2 sc2, e = .returned (.tuple #[.agg #[.slice so 288 sc], .agg #[.slice so2 32 sc2]]) ∧ OwnN w.heap.size w' so sc fixLit ∧ OwnN w.heap.size w' so2 sc2 fixDis ∧ Fr noB w w' := by
  obtain ⟨i0, hi, hz0, hz1, hz2⟩ := info_parts info64N
  obtain ⟨N, hN⟩ : ∃ N, w.heap.size = N := ⟨_, rfl⟩
  go_enter Tryd.func41, Tryd.ntmps41
  go_wp2_with fail
  obtain ⟨w0, hw0⟩ : ∃ w0, (((w.alloc (.cells #[.slice none 0 0] 86 (0, 0))).alloc (.cells #[.slice none 0 0] 86 (0, 0))).alloc (.cells #[.slice none 0 0] 86 (0, 0))).alloc (.cells #[.slice none 0 0] 86 (0, 0)) = w0 := ⟨_, rfl⟩
  have H0 : Hid (FxIs w w0 N w0.heap.size none 0 (fixK 0) none 0 []) := by
    have hs : w0.heap.size = N + 4 := by rw [← hw0]; simp; omega
    refine ⟨?_, ?_, ?_, ?_, World.ownsRow_nil _ _ _ _, World.ownsRow_nil _ _ _ _, by omega, Nat.le_refl _, fun b e => by simp [Value.ownBlock] at e, hN, ?_⟩
    · rw [← hw0, ← hN]
      exact (Below.heap_alloc _ _ _ (by simp <;> omega)).trans ((Below.heap_alloc _ _ _ (by simp <;> omega)).trans ((Below.heap_alloc _ _ _ (by simp)).trans (heap_alloc_new w _)))
    · rw [← hw0, ← hN]
      have e := heap_alloc_new (w.alloc (.cells #[.slice none 0 0] 86 (0, 0))) (.cells #[.slice none 0 0] 86 (0, 0))
      rw [World.size_alloc] at e
      exact (Below.heap_alloc _ _ _ (by simp <;> omega)).trans ((Below.heap_alloc _ _ _ (by simp)).trans e)
    · rw [← hw0, ← hN]
      have e := heap_alloc_new ((w.alloc (.cells #[.slice none 0 0] 86 (0, 0))).alloc (.cells #[.slice none 0 0] 86 (0, 0))) (.cells #[.slice none 0 0] 86 (0, 0))
      rw [World.size_alloc, World.size_alloc] at e
      exact (Below.heap_alloc _ _ _ (by simp)).trans e
    · rw [← hw0, ← hN]
      have e := heap_alloc_new (((w.alloc (.cells #[.slice none 0 0] 86 (0, 0))).alloc (.cells #[.slice none 0 0] 86 (0, 0))).alloc (.cells #[.slice none 0 0] 86 (0, 0))) (.cells #[.slice none 0 0] 86 (0, 0))
      rw [World.size_alloc, World.size_alloc, World.size_alloc] at e
      exact e
    · rw [← hw0]
      exact ((((Fr.refl noB w).alloc _).alloc _).alloc _).alloc _
  rw [hw0]
  clear hw0
  go_loopg [4] 288 (fun gh iv wr => ∃ (k : Nat) (so : Option Addr) (sc : Nat), k ≤ 288 ∧ gh = 288 - k ∧ iv = .int .i64 (k : Int) ∧ FxIs w wr N wr.heap.size so sc (fixK k) none 0 [])
  case atStart => exact ⟨0, none, 0, by omega, rfl, rfl, H0.out⟩
  case round =>
    obtain ⟨k, so, sc, hk, rfl, rfl, hX⟩ := hrel
    have HX : Hid (FxIs w wr N wr.heap.size so sc (fixK k) none 0 []) := hX
    have d2 : wr.cell? ⟨N + 1 + 1, 0, none⟩ = some (.slice so k sc) := by have := cellOf (o := 0) hX.c2 rfl; simpa using this
    have hlow := hX.low
    have hO : wr.ownsRow (N + 4) 3 1 (.slice so k sc) k (nVals .i64 (fixK k)) := by have := hX.own; unfold OwnN at this; rw [fixK_length] at this; exact this
    have HO : Hid (wr.ownsRow (N + 4) 3 1 (.slice so k sc) k (nVals .i64 (fixK k))) := hO
    clear hX hO
    by_cases hlt : k < 288
    · have hkI : (k : Int) < 288 := by omega
      rcases (show k < 144 ∨ (144 ≤ k ∧ k < 256) ∨ (256 ≤ k ∧ k < 280) ∨ 280 ≤ k by omega) with hc | hc | hc | hc
      · have HF : Hid (fixL k = 8) := by show _ = _; unfold fixL; rw [if_pos hc]
        have i1 : ¬ (144 : Int) ≤ (k : Int) := by omega
        have i2 : ¬ (256 : Int) ≤ (k : Int) := by omega
        clear hc
        go_wp2_with (at_builtin; refine wpList_append_own _ rfl (.tmp 24) (.tmp 26) 73 rfl (N + 4) 3 i0 (.int .i64 0) 1 8 Tryd.underlying73 hi hz0 hz1 hz2 rfl (by decide) _ k (nVals .i64 (fixK k)) rfl (HO.out.alloc _) ⟨wr.heap.size, 0, none⟩ 1 1 [.int .i64 8] rfl rfl (one_srcN wr _ _) (by intro u hu; simp at hu; subst hu; rfl) (by unfold maxLen; omega) (by omega) (by simp; omega) ?_)
        intro v' w4 hown hg _
        have hF4 : Fr (fun b => (Value.slice so k sc).ownBlock = some b) wr w4 := ((Fr.refl _ wr).alloc (.cells #[.int .i64 8] 3 (0, 0))).grown hg (fun k hk => Or.inl hk)
        have hown' : w4.ownsRow (N + 4) 3 1 v' (k + 1) (nVals .i64 (fixK k ++ [8])) := by rw [← nVals_app]; exact hown
        obtain ⟨so4, sc4, rfl⟩ := own_formN hown'
        have hc2 := hF4.obj HX.out.c2 (fun e => by have := (own_blk HO.out _ e).1; omega)
        have c4 := cellOf (o := 0) hc2 rfl
        have f4 := freeOf 0 hc2
        have hN1 := HX.out.app1 8 (W4 := w4) (so4 := so4) (sc4 := sc4) (by rw [fixK_length]; exact hF4) (by unfold OwnN; rw [List.length_append, fixK_length]; exact hown')
        rw [List.length_append, fixK_length, List.length_singleton] at hN1
        rw [show fixK k ++ [8] = fixK (k + 1) by rw [fixK_succ, HF.out]] at hN1
        have HN1 : Hid _ := hN1
        clear hN1 hown hown' hg hF4 HO hc2 d2
        go_wp2_with fail
        go_roundg (288 - (k + 1))
        case measure => omega
        case rel => exact ⟨k + 1, so4, sc4, by omega, rfl, by go_num, HN1.out⟩
      · have HF : Hid (fixL k = 9) := by show _ = _; unfold fixL; rw [if_neg (by omega), if_pos (by omega)]
        have i1 : (144 : Int) ≤ (k : Int) := by omega
        have i2 : ¬ (256 : Int) ≤ (k : Int) := by omega
        have i3 : (k : Int) < 256 := by omega
        clear hc
        go_wp2_with (at_builtin; refine wpList_append_own _ rfl (.tmp 24) (.tmp 26) 73 rfl (N + 4) 3 i0 (.int .i64 0) 1 8 Tryd.underlying73 hi hz0 hz1 hz2 rfl (by decide) _ k (nVals .i64 (fixK k)) rfl (HO.out.alloc _) ⟨wr.heap.size, 0, none⟩ 1 1 [.int .i64 9] rfl rfl (one_srcN wr _ _) (by intro u hu; simp at hu; subst hu; rfl) (by unfold maxLen; omega) (by omega) (by simp; omega) ?_)
        intro v' w4 hown hg _
        have hF4 : Fr (fun b => (Value.slice so k sc).ownBlock = some b) wr w4 := ((Fr.refl _ wr).alloc (.cells #[.int .i64 9] 3 (0, 0))).grown hg (fun k hk => Or.inl hk)
        have hown' : w4.ownsRow (N + 4) 3 1 v' (k + 1) (nVals .i64 (fixK k ++ [9])) := by rw [← nVals_app]; exact hown
        obtain ⟨so4, sc4, rfl⟩ := own_formN hown'
        have hc2 := hF4.obj HX.out.c2 (fun e => by have := (own_blk HO.out _ e).1; omega)
        have c4 := cellOf (o := 0) hc2 rfl
        have f4 := freeOf 0 hc2
        have hN1 := HX.out.app1 9 (W4 := w4) (so4 := so4) (sc4 := sc4) (by rw [fixK_length]; exact hF4) (by unfold OwnN; rw [List.length_append, fixK_length]; exact hown')
        rw [List.length_append, fixK_length, List.length_singleton] at hN1
        rw [show fixK k ++ [9] = fixK (k + 1) by rw [fixK_succ, HF.out]] at hN1
        have HN1 : Hid _ := hN1
        clear hN1 hown hown' hg hF4 HO hc2 d2
        go_wp2_with fail
        go_roundg (288 - (k + 1))
        case measure => omega
        case rel => exact ⟨k + 1, so4, sc4, by omega, rfl, by go_num, HN1.out⟩
      · have HF : Hid (fixL k = 7) := by show _ = _; unfold fixL; rw [if_neg (by omega), if_neg (by omega), if_pos (by omega)]
        have i1 : (144 : Int) ≤ (k : Int) := by omega
        have i2 : (256 : Int) ≤ (k : Int) := by omega
        have i3 : ¬ (k : Int) < 256 := by omega
        have i4 : (k : Int) < 280 := by omega
        clear hc
        go_wp2_with (at_builtin; refine wpList_append_own _ rfl (.tmp 24) (.tmp 26) 73 rfl (N + 4) 3 i0 (.int .i64 0) 1 8 Tryd.underlying73 hi hz0 hz1 hz2 rfl (by decide) _ k (nVals .i64 (fixK k)) rfl (HO.out.alloc _) ⟨wr.heap.size, 0, none⟩ 1 1 [.int .i64 7] rfl rfl (one_srcN wr _ _) (by intro u hu; simp at hu; subst hu; rfl) (by unfold maxLen; omega) (by omega) (by simp; omega) ?_)
        intro v' w4 hown hg _
        have hF4 : Fr (fun b => (Value.slice so k sc).ownBlock = some b) wr w4 := ((Fr.refl _ wr).alloc (.cells #[.int .i64 7] 3 (0, 0))).grown hg (fun k hk => Or.inl hk)
        have hown' : w4.ownsRow (N + 4) 3 1 v' (k + 1) (nVals .i64 (fixK k ++ [7])) := by rw [← nVals_app]; exact hown
        obtain ⟨so4, sc4, rfl⟩ := own_formN hown'
        have hc2 := hF4.obj HX.out.c2 (fun e => by have := (own_blk HO.out _ e).1; omega)
        have c4 := cellOf (o := 0) hc2 rfl
        have f4 := freeOf 0 hc2
        have hN1 := HX.out.app1 7 (W4 := w4) (so4 := so4) (sc4 := sc4) (by rw [fixK_length]; exact hF4) (by unfold OwnN; rw [List.length_append, fixK_length]; exact hown')
        rw [List.length_append, fixK_length, List.length_singleton] at hN1
        rw [show fixK k ++ [7] = fixK (k + 1) by rw [fixK_succ, HF.out]] at hN1
        have HN1 : Hid _ := hN1
        clear hN1 hown hown' hg hF4 HO hc2 d2
        go_wp2_with fail
        go_roundg (288 - (k + 1))
        case measure => omega
        case rel => exact ⟨k + 1, so4, sc4, by omega, rfl, by go_num, HN1.out⟩
      · have HF : Hid (fixL k = 8) := by show _ = _; unfold fixL; rw [if_neg (by omega), if_neg (by omega), if_neg (by omega)]
        have i1 : (144 : Int) ≤ (k : Int) := by omega
        have i2 : (256 : Int) ≤ (k : Int) := by omega
        have i3 : ¬ (k : Int) < 256 := by omega
        have i4 : ¬ (k : Int) < 280 := by omega
        clear hc
        go_wp2_with (at_builtin; refine wpList_append_own _ rfl (.tmp 24) (.tmp 26) 73 rfl (N + 4) 3 i0 (.int .i64 0) 1 8 Tryd.underlying73 hi hz0 hz1 hz2 rfl (by decide) _ k (nVals .i64 (fixK k)) rfl (HO.out.alloc _) ⟨wr.heap.size, 0, none⟩ 1 1 [.int .i64 8] rfl rfl (one_srcN wr _ _) (by intro u hu; simp at hu; subst hu; rfl) (by unfold maxLen; omega) (by omega) (by simp; omega) ?_)
        intro v' w4 hown hg _
        have hF4 : Fr (fun b => (Value.slice so k sc).ownBlock = some b) wr w4 := ((Fr.refl _ wr).alloc (.cells #[.int .i64 8] 3 (0, 0))).grown hg (fun k hk => Or.inl hk)
        have hown' : w4.ownsRow (N + 4) 3 1 v' (k + 1) (nVals .i64 (fixK k ++ [8])) := by rw [← nVals_app]; exact hown
        obtain ⟨so4, sc4, rfl⟩ := own_formN hown'
        have hc2 := hF4.obj HX.out.c2 (fun e => by have := (own_blk HO.out _ e).1; omega)
        have c4 := cellOf (o := 0) hc2 rfl
        have f4 := freeOf 0 hc2
        have hN1 := HX.out.app1 8 (W4 := w4) (so4 := so4) (sc4 := sc4) (by rw [fixK_length]; exact hF4) (by unfold OwnN; rw [List.length_append, fixK_length]; exact hown')
        rw [List.length_append, fixK_length, List.length_singleton] at hN1
        rw [show fixK k ++ [8] = fixK (k + 1) by rw [fixK_succ, HF.out]] at hN1
        have HN1 : Hid _ := hN1
        clear hN1 hown hown' hg hF4 HO hc2 d2
        go_wp2_with fail
        go_roundg (288 - (k + 1))
        case measure => omega
        case rel => exact ⟨k + 1, so4, sc4, by omega, rfl, by go_num, HN1.out⟩
    · obtain rfl : k = 288 := by omega
      have e288 : fixK 288 = fixLit := rfl
      rw [e288] at HX
      obtain ⟨M, hM⟩ : ∃ M, wr.heap.size = M := ⟨_, rfl⟩
      rw [hM] at HX hlow
      clear HO d2 e288 hM
      go_wp2_with fail
      go_loopg [6] 32 (fun gh iv wr' => ∃ (j : Nat) (so2 : Option Addr) (sc2 : Nat), j ≤ 32 ∧ gh = 32 - j ∧ iv = .int .i64 (j : Int) ∧ FxIs w wr' N M so sc fixLit so2 sc2 (List.replicate j 5))
      case atStart => exact ⟨0, none, 0, by omega, rfl, rfl, HX.out⟩
      case round =>
        obtain ⟨j, so2, sc2, hj, rfl, rfl, hY⟩ := hrel
        have HY : Hid (FxIs w wr N M so sc fixLit so2 sc2 (List.replicate j 5)) := hY
        have d3 : wr.cell? ⟨N + 1 + 1 + 1, 0, none⟩ = some (.slice so2 j sc2) := by have := cellOf (o := 0) hY.c3 rfl; simpa using this
        have hO : wr.ownsRow M 3 1 (.slice so2 j sc2) j (nVals .i64 (List.replicate j 5)) := by have := hY.own2; unfold OwnN at this; rw [List.length_replicate] at this; exact this
        have HO : Hid (wr.ownsRow M 3 1 (.slice so2 j sc2) j (nVals .i64 (List.replicate j 5))) := hO
        have hwr : M ≤ wr.heap.size := hY.top
        clear hY hO
        by_cases hlt2 : j < 32
        · have hjI : (j : Int) < 32 := by omega
          go_wp2_with (at_builtin; refine wpList_append_own _ rfl _ _ 73 rfl M 3 i0 (.int .i64 0) 1 8 Tryd.underlying73 hi hz0 hz1 hz2 rfl (by decide) _ j (nVals .i64 (List.replicate j 5)) rfl (HO.out.alloc _) ⟨wr.heap.size, 0, none⟩ 1 1 [.int .i64 5] rfl rfl (one_srcN wr _ _) (by intro u hu; simp at hu; subst hu; rfl) (by unfold maxLen; omega) (by omega) (by simp; omega) ?_)
          intro v' w4 hown hg _
          have hF4 : Fr (fun b => (Value.slice so2 j sc2).ownBlock = some b) wr w4 := ((Fr.refl _ wr).alloc (.cells #[.int .i64 5] 3 (0, 0))).grown hg (fun k hk => Or.inl hk)
          have hown' : w4.ownsRow M 3 1 v' (j + 1) (nVals .i64 (List.replicate j 5 ++ [5])) := by rw [← nVals_app]; exact hown
          obtain ⟨so4, sc4, rfl⟩ := own_formN hown'
          have hc3 := hF4.obj HY.out.c3 (fun e => by have := (own_blk HO.out _ e).1; omega)
          have c4 := cellOf (o := 0) hc3 rfl
          have f4 := freeOf 0 hc3
          have hN1 := HY.out.app2 5 (W4 := w4) (so4 := so4) (sc4 := sc4) (by rw [List.length_replicate]; exact hF4) (by unfold OwnN; rw [List.length_append, List.length_replicate]; exact hown')
          rw [List.length_append, List.length_replicate, List.length_singleton, ← List.replicate_succ'] at hN1
          have HN1 : Hid _ := hN1
          clear hN1 hown hown' hg hF4 HO hc3 d3
          go_wp2_with fail
          go_roundg (32 - (j + 1))
          case measure => omega
          case rel => exact ⟨j + 1, so4, sc4, by omega, rfl, by go_num, HN1.out⟩
        · obtain rfl : j = 32 := by omega
          have hY := HY.out
          have d2 : wr.cell? ⟨N + 1 + 1, 0, none⟩ = some (.slice so 288 sc) := by have := cellOf (o := 0) hY.c2 rfl; simpa using this
          have d0 := cellOf (o := 0) hY.c0 rfl
          have d1 := cellOf (o := 0) hY.c1 rfl
          have f0 := freeOf 0 hY.c0
          have f1 := freeOf 0 hY.c1
          have d3' : wr.cell? ⟨N + 1 + 1 + 1, 0, none⟩ = some (.slice so2 32 sc2) := d3
          have HK : Hid (∀ w', Fr (fun k => N ≤ k ∧ k ≤ N + 1) wr w' → w'.cell? ⟨N + 1 + 1, 0, none⟩ = some (.slice so 288 sc) ∧ w'.cell? ⟨N + 1 + 1 + 1, 0, none⟩ = some (.slice so2 32 sc2)) := fun w' hw =>
            ⟨(hw.cell (lt_of_block hY.c2) (by show ¬ (N ≤ N + 1 + 1 ∧ N + 1 + 1 ≤ N + 1); omega)).trans d2, (hw.cell (lt_of_block hY.c3) (by show ¬ (N ≤ N + 1 + 1 + 1 ∧ N + 1 + 1 + 1 ≤ N + 1); omega)).trans d3'⟩
          clear HO hY d3
          go_wp2_with fail
          go_region_held3 (fun w' => w'.cell? ⟨N + 1 + 1, 0, none⟩ = some (.slice so 288 sc) ∧ w'.cell? ⟨N + 1 + 1 + 1, 0, none⟩ = some (.slice so2 32 sc2))
            (first | (refine HK.out _ ?_; repeat (first | exact Fr.refl _ _ | refine Fr.drew ?_ | refine Fr.setCell ?_ _ (Or.inl (by constructor <;> simp <;> omega)) _)))
            (fail)
          go_wp2_with fail
          obtain ⟨W5, hW5⟩ : ∃ W5, ((wr.setCell ⟨N, 0, none⟩ (.slice so 288 sc)).setCell ⟨N + 1, 0, none⟩ (.slice so2 32 sc2)).drew = W5 := ⟨_, rfl⟩
          have hF5 : Fr (fun k => N ≤ k ∧ k ≤ N + 1) wr W5 := by
            rw [← hW5]
            exact (((Fr.refl _ wr).setCell _ (Or.inl (by constructor <;> simp)) _).setCell _ (Or.inl (by constructor <;> simp)) _).drew
          have q0 : W5.heap[N]? = some (.cells #[.slice so 288 sc] 86 (0, 0)) := by
            rw [← hW5]
            exact (Below.heap_setCell _ _ _ _ (by show N ≠ N + 1; omega)).trans (setOf 0 _ HY.out.c0)
          have q1 : W5.heap[N + 1]? = some (.cells #[.slice so2 32 sc2] 86 (0, 0)) := by
            rw [← hW5]
            exact setOf 0 _ ((Below.heap_setCell _ _ _ _ (by show N + 1 ≠ N; omega)).trans HY.out.c1)
          have p0 := cellOf (o := 0) q0 rfl
          have p1 := cellOf (o := 0) q1 rfl
          rw [hW5]
          have hfd : List.replicate 32 5 = fixDis := rfl
          refine bodyPost_ret (v := .tuple #[.agg #[.slice so 288 sc], .agg #[.slice so2 32 sc2]]) ?_ rfl ⟨so, sc, so2, sc2, rfl, (HY.out.own.keepB hF5 (fun b e h => ?_)).base (by omega), ?_, HY.out.fr.then hF5 (fun k hk => Or.inr (by omega))⟩
          · simp [results, Tryd.results41, go_sem, p0, p1]
          · have := (own_blk HY.out.own b e).1
            omega
          · rw [← hfd]
            refine (HY.out.own2.keepB hF5 (fun b e h => ?_)).base (by omega)
            have := (own_blk HY.out.own2 b e).1
            omega
#print axioms rfixed_any
end Go.Proofs.YthgnhcdodfildaaDoor
