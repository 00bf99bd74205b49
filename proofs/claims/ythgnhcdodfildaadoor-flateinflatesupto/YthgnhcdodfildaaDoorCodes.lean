/- The contracts of huff.firstCodes and huff.Codes. -/
import Derived.Test.YthgnhcdodfildaaDoorChk
import Derived.Test.YthgnhcdodfildaaDoorK03
import Derived.BigRegion
import Derived.Deep.CutRange
namespace Go.Proofs.YthgnhcdodfildaaDoor
open Go.RowKit

set_option maxRecDepth 100000 in
set_option maxHeartbeats 1600000 in
theorem first_any (f : Nat → Nat) (hf : ∀ i, f i ≤ 512) (hr : rsum f 16 ≤ 32768) (w : World) :
    Calls Tryd.prog 69 #[.agg (A16 .i64 f)] w fun e w' => e = .returned (.agg (A16 .u32 (firstN f))) ∧ Fr noB w w' := by
  obtain ⟨W, hW⟩ : ∃ W, W = ((w.alloc (.cells (A16 .i64 f) 122 (0, 0))).alloc (.cells (A16 .u32 (fun _ => 0)) 119 (0, 0))).alloc (.cells (A16 .u32 (fun _ => 0)) 119 (0, 0)) := ⟨_, rfl⟩
  have hF0 : Fr noB w W := by rw [hW]; exact (((Fr.refl noB w).alloc _).alloc _).alloc _
  have hc0 : ArrAt W w.heap.size 122 .i64 f := by
    rw [hW]; exact (Below.heap_alloc _ _ _ (by simp; omega)).trans ((Below.heap_alloc _ _ _ (by simp)).trans (heap_alloc_new _ _))
  have hr0 : ArrAt W (w.heap.size + 1) 119 .u32 (fun _ => 0) := by
    rw [hW]
    have := heap_alloc_new (w.alloc (.cells (A16 .i64 f) 122 (0, 0))) (.cells (A16 .u32 (fun _ => 0)) 119 (0, 0))
    rw [World.size_alloc] at this
    exact (Below.heap_alloc _ _ _ (by simp)).trans this
  have hg0 : ArrAt W (w.heap.size + 2) 119 .u32 (fun _ => 0) := by
    rw [hW]
    have := heap_alloc_new ((w.alloc (.cells (A16 .i64 f) 122 (0, 0))).alloc (.cells (A16 .u32 (fun _ => 0)) 119 (0, 0))) (.cells (A16 .u32 (fun _ => 0)) 119 (0, 0))
    rw [World.size_alloc, World.size_alloc] at this
    exact this
  have hfit := first_fits f hr
  go_enter Tryd.func69, Tryd.ntmps69
  go_wp2_with fail
  go_loopw [4] (fun i wr => ∃ k : Nat, k ≤ 15 ∧ i = .int .i64 ((k : Int) + 1) ∧ ArrAt wr w.heap.size 122 .i64 f ∧ ArrAt wr (w.heap.size + 1) 119 .u32 (fun _ => 0) ∧ ArrAt wr (w.heap.size + 2) 119 .u32 (fun l => if l ≤ k then firstN f l else 0) ∧ Fr noB w wr) (fun i _ => 16 - (intOf i).toNat)
  case atStart => exact ⟨0, Nat.zero_le _, rfl, by rw [hW] at hc0; exact hc0, by rw [hW] at hr0; exact hr0, by rw [hW] at hg0; exact hg0, by rw [hW] at hF0; exact hF0⟩
  case round =>
    clear hr0 hg0 hF0 hc0 hW
    obtain ⟨k, hk, rfl, hc, hr', hg, hF⟩ := hrel
    by_cases hlt : k < 15
    · have cf := A16_cellOf hc k (by omega)
      have cg := A16_cellOf hg k (by omega)
      have fg := freeOf (k + 1) hg
      have cg1 := A16_cellOf hg (k + 1) (by omega)
      rw [if_pos (Nat.le_refl k)] at cg
      have h1 := hfit k (by omega)
      have h2 := pow_le_15 k (by omega)
      have hfk := hf k
      go_wp2_with fail
      go_region
      go_wp2
      rw [show ((((firstN f k : Nat) : Int) + ((f k : Nat) : Int)) * 2) = ((firstN f (k + 1) : Nat) : Int) from by show _ = ((2 * (firstN f k + f k) : Nat) : Int); omega]
      go_roundw
      case rel =>
        refine ⟨k + 1, by omega, by go_num, ?_, ?_, ?_, ?_⟩
        · exact hc.set_ne (by omega) _ _
        · exact hr'.set_ne (by omega) _ _
        · have := hg.set (k + 1) (firstN f (k + 1))
          have e : upd (fun l => if l ≤ k then firstN f l else 0) (k + 1) (firstN f (k + 1)) = (fun l => if l ≤ k + 1 then firstN f l else 0) := by
            funext l
            unfold upd
            by_cases e : l = k + 1
            · simp [e]
            · by_cases e2 : l ≤ k
              · rw [if_neg e]; show (if l ≤ k then firstN f l else 0) = _; rw [if_pos e2, if_pos (by omega)]
              · rw [if_neg e]; show (if l ≤ k then firstN f l else 0) = _; rw [if_neg e2, if_neg (by omega)]
          rw [e] at this
          exact this
        · exact (hF.setCell ⟨w.heap.size + 1 + 1, k + 1, none⟩ (Or.inr (by show w.heap.size ≤ w.heap.size + 1 + 1; omega)) _).drew
      case measure => simp [intOf]; omega
    · have hk15 : k = 15 := by omega
      subst hk15
      have hg' : ArrAt wr (w.heap.size + 2) 119 .u32 (firstN f) := by
        have e : A16 .u32 (fun l => if l ≤ 15 then firstN f l else 0) = A16 .u32 (firstN f) := by
          apply Array.ext
          · simp
          · intro i h1 h2
            have hi : i ≤ 15 := by have := A16_size .u32 (firstN f); omega
            simp [A16, hi]
        unfold ArrAt at hg ⊢
        rw [hg, e]
      go_wp2_with (first | (refine wpList_load_row rfl 119 (.tmp 3) rfl (w.heap.size + 2) rfl 119 (A16 .u32 (firstN f)) (0, 0) _ hg' Tryd.underlying119 rfl (infoAU _ .u32) ?_) | (refine wpList_store_row rfl 119 (.tmp 2) (.tmp 22) rfl (w.heap.size + 1) (A16 .u32 (firstN f)) rfl rfl 119 _ hr' (infoAU _ .u32) (by simp) (A16_one _ _) ?_))
      refine bodyPost_ret (v := .agg (A16 .u32 (firstN f))) (results_cell_row Tryd.results69 _ _ (w.heap.size + 1) 119 (A16 .u32 (firstN f)) (0, 0) _ rfl (setRow_heap _ _ _ _ _ _ hr') Tryd.underlying119 rfl (infoAU _ .u32)) rfl ⟨rfl, ?_⟩
      exact hF.setRow _ (Or.inr (by omega)) _

theorem Tryd.infoU : (Tryd.prog.info? 92).map (fun i => (i.zero, i.size, i.bytes)) = some (some (.int .u32 0), 1, 4) := by kernel_rfl

set_option maxRecDepth 100000 in
set_option maxHeartbeats 400000 in
theorem codes_bad (v : Value) (L : List Int) (w : World) (hv : Ns .i64 w v L) (hc : chk L ≠ 0) :
    Calls Tryd.prog 45 #[v] w fun e w' => e = .returned (.tuple #[.slice none 0 0, .int .i64 (chk L)]) ∧ Fr noB w w' := by
  have HC := check_any v L w hv
  generalize chk L = c at *
  have hb : (c == 0) = false := by simpa using hc
  obtain ⟨ao, cap, rfl, h1, h2, h4, h3⟩ := hv
  go_enter Tryd.func45, Tryd.ntmps45
  go_wp2_with (go_at_call 68; refine HC.mono ?_; rintro e w1 ⟨rfl, hF1⟩)
  go_ret2
  exact ⟨rfl, hF1⟩

set_option maxRecDepth 100000 in
set_option maxHeartbeats 1600000 in
theorem codes_good (v : Value) (M : List Nat) (w : World) (hv : Ns .i64 w v (up M)) (hM : Code M) :
    Calls Tryd.prog 45 #[v] w fun e w' => ∃ g, e = .returned (.tuple #[.slice (some ⟨g, 0, none⟩) M.length M.length, .int .i64 0]) ∧ w.heap.size ≤ g ∧ RowN w' g 92 .u32 (codesN M) ∧ Fr noB w w' := by
  obtain ⟨i0, hi, hz0, hz1, hz2⟩ := info_parts Tryd.infoU
  have HC := check_any v (up M) w hv
  rw [hM.ok] at HC
  have HN := fun w1 (hF : Fr noB w w1) => count_any v M w1 (hv.keep hF) hM.le hM.short
  have HI := first_any (cntN M) (cnt512 M hM.short) (by rw [rsum_all M hM.le]; exact hM.room)
  have hl := hM.short
  obtain ⟨ao, cap, rfl, h1, h2, h4, h3⟩ := hv
  rw [length_up] at *
  have hat : NsAt .i64 w ao (up M) := h3
  clear h3
  unfold maxLen at h2
  go_enter Tryd.func45, Tryd.ntmps45
  go_wp2_with (first | (go_at_call 68; refine HC.mono ?_; rintro e w1 ⟨rfl, hF1⟩) | (go_at_call 70; refine (HN _ hF1).mono ?_; rintro e w2 ⟨rfl, hF2⟩) | (go_at_call 69; refine (HI _).mono ?_; rintro e w3 ⟨rfl, hF3⟩) | (refine wpList_store_row rfl 119 (.tmp 5) (.tmp 16) rfl w3.heap.size (A16 .u32 (firstN (cntN M))) rfl rfl 119 _ (heap_alloc_new _ _) (infoAU _ .u32) rfl (A16_one _ _) ?_; rw [World.setRow_alloc_new]) | (at_make; refine wpList_make_full _ rfl (.tmp 18) (.tmp 18) 74 rfl _ 92 i0 (.int .u32 0) 1 Tryd.underlying74 hi hz0 hz1 .i64 .i64 _ _ M.length rfl rfl rfl rfl (by rw [hz2]; omega) (by unfold maxLen; omega) (Nat.le_refl _) ?_))
  intro w4 hown hgrow
  have hrow := made_nums hown
  have hF4 : Fr noB w w4 := (((hF1.trans hF2).trans hF3).alloc _).grown hgrow (by simp)
  have hp : ArrAt w4 w3.heap.size 119 .u32 (firstN (cntN M)) := (hgrow.block _ (by simp) (by simp)).trans (heap_alloc_new _ _)
  have hsz : w.heap.size ≤ w3.heap.size := ((hF1.trans hF2).trans hF3).size
  rw [← partN_none M (fun i => decide (i < 0)) (fun i _ => Or.inr (by simp))] at hrow
  rw [← nextN_zero] at hp
  generalize w3.heap.size = p at *
  clear hown hgrow HC HN HI hF1 hF2 hF3
  go_wp2_with fail
  go_loopw [22] (fun i wr => ∃ k : Nat, k ≤ M.length ∧ i = .int .i64 (k : Int) ∧ RowN wr (p + 1) 92 .u32 (partN M (fun i => decide (i < k))) ∧ ArrAt wr p 119 .u32 (nextN M k) ∧ Fr noB w wr) (fun i _ => M.length - (intOf i).toNat)
  case atStart => exact ⟨0, Nat.zero_le _, rfl, hrow, hp, hF4⟩
  case round =>
    clear hrow hp hF4
    obtain ⟨k, hk, rfl, hrow, hp, hF⟩ := hrel
    by_cases hlt : k < M.length
    · obtain ⟨b, off, rfl, hb, hcell⟩ := (hat.keep hF).get k (by simpa using hlt)
      rw [up_get _ _ hlt] at hcell
      have hx := hM.le M[k] (List.getElem_mem hlt)
      have cx := A16_cellOf hp M[k] (by omega)
      have fx := freeOf M[k] hp
      have hn := nextN_le hM k M[k] hx
      have cr := hrow.cell k (by simpa using hlt)
      have fr := freeOf k hrow
      have H0 : Hid (M[k] = 0 → nextN M (k + 1) = nextN M k ∧ codeN M k = 0) := fun h => ⟨nextN_snoc0 M k hlt h, codeN_of0 M k hlt h⟩
      have H1 : Hid (0 < M[k] → nextN M (k + 1) = upd (nextN M k) M[k] (nextN M k M[k] + 1) ∧ nextN M k M[k] = codeN M k) := fun h => ⟨nextN_snoc M k hlt h, (nextN_code M k hlt h).symm⟩
      generalize M[k] = x at *
      by_cases hx0 : x = 0
      · have hx0' : ¬ 0 < (x : Int) := by omega
        obtain ⟨e1, e2⟩ := H0.out hx0
        have E1 : Hid _ := e1
        have E2 : Hid _ := e2
        clear e1 e2 H0 H1 cr fr cx fx
        go_wp2
        go_roundw
        case rel =>
          refine ⟨k + 1, by omega, by go_num, ?_, by rw [E1.out]; exact hp, hF⟩
          rw [partN_same M (fun i => decide (i < k + 1)) (fun i => decide (i < k)) (fun i hi => ?_)]
          · exact hrow
          · by_cases e : i = k
            · subst e; exact Or.inl E2.out
            · right; apply decide_eq_decide.2; omega
        case measure => simp [intOf]; omega
      · have hx0' : 0 < (x : Int) := by omega
        obtain ⟨e1, e2⟩ := H1.out (by omega)
        have E1 : Hid _ := e1
        have E2 : Hid _ := e2
        have hne : ¬ p = p + 1 := by omega
        clear e1 e2 H0 H1
        go_wp2
        go_roundw
        case rel =>
          have h1 := (hrow.set k (nextN M k x)).set_ne (show p + 1 ≠ p by omega) x (.int .u32 ((nextN M k x + 1 : Nat) : Int))
          have h2 := (hp.set_ne (show p ≠ p + 1 by omega) k (.int .u32 ((nextN M k x : Nat) : Int))).set x (nextN M k x + 1)
          rw [← E1.out] at h2
          rw [E2.out] at h1 h2 ⊢
          rw [partN_set M (fun i => decide (i < k)) (fun i => decide (i < k + 1)) k (by simp) (fun i hi _ => by apply decide_eq_decide.2; omega)] at h1
          refine ⟨k + 1, by omega, by go_num, h1, h2, ?_⟩
          exact (hF.setCell ⟨p + 1, k, none⟩ (Or.inr (by show w.heap.size ≤ p + 1; omega)) _).setCell ⟨p, x, none⟩ (Or.inr hsz) _
        case measure => simp [intOf]; omega
    · have hkM : k = M.length := by omega
      subst hkM
      go_wp2_with fail
      go_ret2
      refine ⟨p + 1, rfl, by omega, ?_, hF⟩
      rw [partN_all M _ (fun i hi => Or.inr (by simpa using hi))] at hrow
      exact hrow
#print axioms codes_good
end Go.Proofs.YthgnhcdodfildaaDoor
