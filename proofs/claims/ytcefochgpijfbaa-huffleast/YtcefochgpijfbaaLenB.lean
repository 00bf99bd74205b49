/- The contract of Lengths, what is refused; one symbol, and none. -/
import Derived.Test.YtcefochgpijfbaaLen
namespace Go.Proofs.Ytcefochgpijfbaa
open Go.RowKit

/-- The error of Lengths: 0 if there is none. -/
def lenE (L : List Int) (most : Int) : Int :=
  if 512 < L.length then 3 else if numsB L = false ∨ most < 1 ∨ 15 < most then 1 else if 2 ^ most.toNat < (leavesP 0 (L.map Int.toNat)).length then 20 else 0

set_option maxHeartbeats 800000 in
theorem lengths_long (v : Value) (L : List Int) (most : Int) (w : World) (hv : Ns .i64 w v L) (h : 512 < L.length) :
    Calls Try.prog 4 #[v, .int .i64 most] w fun e w' => e = .returned (.tuple #[.slice none 0 0, .int .i64 3]) ∧ w' = w := by
  obtain ⟨ao, cap, rfl, h1, hc2, h4, h3⟩ := hv
  clear h3 h4
  unfold maxLen at hc2
  have hI : (512 : Int) < (L.length : Int) := by omega
  go_enter Try.func4, Try.ntmps4
  go_wp2_with fail
  go_ret2
  exact ⟨rfl, rfl⟩

set_option maxHeartbeats 800000 in
theorem lengths_arg (v : Value) (L : List Int) (most : Int) (w : World) (hv : Ns .i64 w v L) (h : L.length ≤ 512) (hb : numsB L = false ∨ most < 1 ∨ 15 < most) :
    Calls Try.prog 4 #[v, .int .i64 most] w fun e w' => e = .returned (.tuple #[.slice none 0 0, .int .i64 1]) ∧ w' = w := by
  have HAll := allNumbers_any v L w hv
  obtain ⟨ao, cap, rfl, h1, hc2, h4, h3⟩ := hv
  clear h3 h4
  unfold maxLen at hc2
  have hI : ¬ (512 : Int) < (L.length : Int) := by omega
  by_cases hn : numsB L = false
  · rw [hn] at HAll
    clear hb
    go_enter Try.func4, Try.ntmps4
    go_wp2_with fail
    refine HAll.mono ?_
    rintro e w0 ⟨rfl, rfl⟩
    go_wp2_with fail
    go_ret2
    exact ⟨rfl, rfl⟩
  · have hn' : numsB L = true := by simpa using hn
    rw [hn'] at HAll
    by_cases h5 : most < 1
    · clear hb hn
      go_enter Try.func4, Try.ntmps4
      go_wp2_with fail
      refine HAll.mono ?_
      rintro e w0 ⟨rfl, rfl⟩
      go_wp2_with fail
      go_ret2
      exact ⟨rfl, rfl⟩
    · have h6 : 15 < most := by
        rcases hb with h | h | h
        · exact absurd h hn
        · exact absurd h h5
        · exact h
      clear hb hn
      go_enter Try.func4, Try.ntmps4
      go_wp2_with fail
      refine HAll.mono ?_
      rintro e w0 ⟨rfl, rfl⟩
      go_wp2_with fail
      go_ret2
      exact ⟨rfl, rfl⟩

set_option maxHeartbeats 800000 in
theorem lengths_over (v : Value) (C : List Nat) (most : Nat) (w : World) (hv : Ns .i64 w v (up C)) (hC : C.length ≤ 512) (hn : numsB (up C) = true) (hm1 : 1 ≤ most) (hm2 : most ≤ 15) (hNm : 2 ^ most < (leavesP 0 C).length) :
    Calls Try.prog 4 #[v, .int .i64 (most : Int)] w fun e w' => e = .returned (.tuple #[.slice none 0 0, .int .i64 20]) ∧ Fr noB w w' := by
  have HAll := allNumbers_any v (up C) w hv
  rw [hn] at HAll
  have HSing := singles_any v C w hv hC
  obtain ⟨ao, cap, hvv, h1, hc2, h4, h3⟩ := hv
  clear h3 h4
  rw [length_up] at h1 hvv
  subst hvv
  obtain ⟨n, hn'⟩ : ∃ n, C.length = n := ⟨_, rfl⟩
  rw [hn'] at hC h1 HAll HSing ⊢
  have hp := pow_most most hm2
  have hp' : (2 : Int) ^ most < (((leavesP 0 C).length : Nat) : Int) := by
    have e : ((2 ^ most : Nat) : Int) = (2 : Int) ^ most := by simp
    omega
  have hl512 : (leavesP 0 C).length ≤ 512 := by have := leaves_len C 0; omega
  have hmI : (1 : Int) ≤ (most : Int) := by omega
  have hmI2 : (most : Int) ≤ 15 := by omega
  unfold maxLen at hc2
  clear hn' hn hNm
  go_enter Try.func4, Try.ntmps4
  go_wp2_with fail
  refine HAll.mono ?_
  rintro e w0 ⟨rfl, hw0⟩
  have hw0' := hw0.symm
  subst hw0'
  go_wp2_with fail
  refine HSing.mono ?_
  rintro e w1 ⟨lv, D, rfl, hO, hR, hF1⟩
  have hDl := hR.length
  obtain ⟨so, sc, rfl⟩ := hO.slice
  rw [← hDl] at hp' hl512
  generalize D.length = N at *
  clear hO hR hDl
  go_wp2_with fail
  go_ret2
  exact ⟨rfl, hF1⟩

set_option maxRecDepth 100000 in
set_option maxHeartbeats 1600000 in
theorem lengths_none (v : Value) (C : List Nat) (most : Nat) (w : World) (hv : Ns .i64 w v (up C)) (hC : C.length ≤ 512) (hn : numsB (up C) = true) (hm1 : 1 ≤ most) (hm2 : most ≤ 15) (hz : (leavesP 0 C).length = 0) :
    Calls Try.prog 4 #[v, .int .i64 (most : Int)] w fun e w' => ∃ g, e = .returned (.tuple #[.slice (some ⟨g, 0, none⟩) C.length C.length, .int .i64 0]) ∧ w.heap.size ≤ g ∧ RowN w' g 3 .i64 (List.replicate C.length 0) ∧ Fr noB w w' := by
  have HAll := allNumbers_any v (up C) w hv
  rw [hn] at HAll
  have HSing := singles_any v C w hv hC
  obtain ⟨i0, hi, hz0, hz1, hz2⟩ := info_parts Try.infoI
  obtain ⟨ao, cap, hvv, h1, hc2, h4, h3⟩ := hv
  clear h3 h4
  rw [length_up] at h1 hvv
  subst hvv
  obtain ⟨n, hn'⟩ : ∃ n, C.length = n := ⟨_, rfl⟩
  rw [hn'] at hC h1 HAll HSing ⊢
  have hp := pow_most most hm2
  have HZ : Hid ((leavesP 0 C).length = 0) := hz
  have hmI : (1 : Int) ≤ (most : Int) := by omega
  have hmI2 : (most : Int) ≤ 15 := by omega
  have b1 : decide ((512 : Int) < (n : Int)) = false := by simp; omega
  have b2 : decide ((most : Int) < 1) = false := by simp; omega
  have b3 : decide ((15 : Int) < (most : Int)) = false := by simp; omega
  have b4 : ¬ (2 : Int) ^ most < 0 := by omega
  unfold maxLen at hc2
  clear hn' hn hz
  have HCh : ∀ so sc w', Calls Try.prog 11 #[.slice so 0 sc, .int .i64 (most : Int)] w' fun e w'' => e = .returned (.slice none 0 0) ∧ w'' = w' := by
    intro so sc w'
    go_enter Try.func11, Try.ntmps11
    go_wp2_with fail
    go_ret
    exact ⟨rfl, rfl⟩
  have HCH : Hid _ := HCh
  clear HCh
  go_enter Try.func4, Try.ntmps4
  go_wp2_with fail
  refine HAll.mono ?_
  rintro e w0 ⟨rfl, hw0⟩
  have hw0' := hw0.symm
  subst hw0'
  go_wp2_with fail
  refine HSing.mono ?_
  rintro e w1 ⟨lv, D, rfl, hO, hR, hF1⟩
  have hD : D = [] := List.eq_nil_of_length_eq_zero (by rw [hR.length]; exact HZ.out)
  subst hD
  obtain ⟨so, sc, rfl⟩ := hO.slice
  clear hO
  go_wp2_with (at_make; refine wpList_make_full _ rfl (.tmp 34) (.tmp 34) 22 rfl w1.heap.size 3 i0 (.int .i64 0) 1 Try.underlying22 hi hz0 hz1 .i64 .i64 _ _ n rfl rfl rfl rfl (by rw [hz2]; omega) (by unfold maxLen; omega) (Nat.le_refl _) ?_)
  intro w2 hown2 hgr2
  have hF12 : Fr noB w1 w2 := (Fr.refl noB w1).grown hgr2 (by simp)
  have HRow : Hid (RowN w2 w1.heap.size 3 .i64 (List.replicate n 0)) := made_nums hown2
  have hw1 : w.heap.size ≤ w1.heap.size := hF1.size
  clear hown2 hgr2
  generalize w1.heap.size = gl at *
  go_wp2_with fail
  refine (HCH.out so sc w2).mono ?_
  rintro e w3 ⟨rfl, hw3⟩
  have hw3' := hw3.symm
  subst hw3'
  go_wp2_with fail
  go_loopg [52] 0 (fun _ iv wr => iv = .int .i64 0 ∧ wr = w2)
  case atStart => exact ⟨rfl, rfl⟩
  case round =>
    obtain ⟨rfl, hwr⟩ := hrel
    have hwr' := hwr.symm
    subst hwr'
    go_wp2_with fail
    go_ret2
    exact ⟨gl, rfl, hw1, HRow.out, hF1.trans hF12⟩

set_option maxRecDepth 100000 in
set_option maxHeartbeats 1600000 in
theorem lengths_one (v : Value) (C : List Nat) (most x sy : Nat) (w : World) (hv : Ns .i64 w v (up C)) (hC : C.length ≤ 512) (hn : numsB (up C) = true) (hm1 : 1 ≤ most) (hm2 : most ≤ 15) (hz : leavesP 0 C = [⟨x, [sy]⟩]) (hsy : sy < C.length) :
    Calls Try.prog 4 #[v, .int .i64 (most : Int)] w fun e w' => ∃ g, e = .returned (.tuple #[.slice (some ⟨g, 0, none⟩) C.length C.length, .int .i64 0]) ∧ w.heap.size ≤ g ∧ RowN w' g 3 .i64 ((List.replicate C.length 0).set sy 1) ∧ Fr noB w w' := by
  have HAll := allNumbers_any v (up C) w hv
  rw [hn] at HAll
  have HSing := singles_any v C w hv hC
  rw [hz] at HSing
  obtain ⟨i0, hi, hz0, hz1, hz2⟩ := info_parts Try.infoI
  obtain ⟨ao, cap, hvv, h1, hc2, h4, h3⟩ := hv
  clear h3 h4 hz
  rw [length_up] at h1 hvv
  subst hvv
  obtain ⟨n, hn'⟩ : ∃ n, C.length = n := ⟨_, rfl⟩
  rw [hn'] at hC h1 HAll HSing hsy ⊢
  have hp := pow_most most hm2
  have hmI : (1 : Int) ≤ (most : Int) := by omega
  have hmI2 : (most : Int) ≤ 15 := by omega
  have b1 : decide ((512 : Int) < (n : Int)) = false := by simp; omega
  have b2 : decide ((most : Int) < 1) = false := by simp; omega
  have b3 : decide ((15 : Int) < (most : Int)) = false := by simp; omega
  have b4 : ¬ (2 : Int) ^ most < 1 := by omega
  unfold maxLen at hc2
  clear hn' hn
  go_enter Try.func4, Try.ntmps4
  go_wp2_with fail
  refine HAll.mono ?_
  rintro e w0 ⟨rfl, hw0⟩
  have hw0' := hw0.symm
  subst hw0'
  go_wp2_with fail
  refine HSing.mono ?_
  rintro e w1 ⟨lv, D, rfl, hO, hR, hF1⟩
  have hDl : D.length = 1 := by rw [hR.length]; rfl
  obtain ⟨g, cg, hlv, hg, hcg1, hcg2, hP⟩ := hO.row (by omega)
  rw [hDl] at hlv hcg1
  subst hlv
  obtain ⟨a1, l1, q1, e1, c11, c12⟩ := hP.two hR.sl 0 (by omega)
  have hSy := (hR.get 0 (by simp)).2
  rw [e1] at hSy
  obtain ⟨b, cp, e2, hb, hcell⟩ := hSy.cellAt
  have hc0 := hcell 0 (by simp)
  injection e2 with e2 e3 e4
  subst e2 e3 e4
  simp only [List.getElem_cons_zero, List.length_cons, List.length_nil, Nat.zero_add] at hc0 c12 hcell
  have hgw : g < w1.heap.size := by obtain ⟨_, hh⟩ := hP; exact lt_of_block hh
  have HCel : Hid (∀ w', Fr noB w1 w' → w'.cell? ⟨g, 1, none⟩ = some (.slice (some ⟨b, 0, none⟩) 1 q1) ∧ w'.cell? ⟨b, 0, none⟩ = some (.int .i64 (sy : Int))) := fun w' hw => ⟨(hw.cell (a := ⟨g, 1, none⟩) hgw id).trans c12, (hw.cell (a := ⟨b, 0, none⟩) hb id).trans hc0⟩
  unfold maxLen at hcg2
  clear hO hR hP hDl e1 hSy hcell hc0 c11 c12
  go_wp2_with (at_make; refine wpList_make_full _ rfl (.tmp 34) (.tmp 34) 22 rfl w1.heap.size 3 i0 (.int .i64 0) 1 Try.underlying22 hi hz0 hz1 .i64 .i64 _ _ n rfl rfl rfl rfl (by rw [hz2]; omega) (by unfold maxLen; omega) (Nat.le_refl _) ?_)
  intro w2 hown2 hgr2
  have hF12 : Fr noB w1 w2 := (Fr.refl noB w1).grown hgr2 (by simp)
  have hrow : RowN w2 w1.heap.size 3 .i64 (List.replicate n 0) := made_nums hown2
  have hw1 : w.heap.size ≤ w1.heap.size := hF1.size
  obtain ⟨d1, d2⟩ := HCel.out w2 hF12
  clear hown2 hgr2 HCel
  generalize w1.heap.size = gl at *
  have hset := hrow.set sy 1
  have hfree := freeOf (o := sy) (w := w2) (b := gl) hrow
  have hcl := hrow.cell sy (by simpa using hsy)
  have HSet : Hid (RowN (w2.setCell ⟨gl, sy, none⟩ (.int .i64 1)) gl 3 .i64 ((List.replicate n 0).set sy 1)) := hset
  have hs0 : (0 : Int) ≤ (sy : Int) := by omega
  have hs1 : (sy : Int) < (n : Int) := by omega
  have hF2 : Fr noB w w2 := hF1.trans hF12
  clear hset hrow
  go_wp2_with fail
  go_ret2
  exact ⟨gl, rfl, hw1, HSet.out, hF2.setCell _ (Or.inr hw1) _⟩
#print axioms lengths_none
#print axioms lengths_one
end Go.Proofs.Ytcefochgpijfbaa
