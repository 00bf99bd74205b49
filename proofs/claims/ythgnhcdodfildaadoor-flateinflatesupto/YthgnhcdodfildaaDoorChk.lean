/- The contracts of huff.Check and of what it calls. -/
import Derived.Test.YthgnhcdodfildaaDoorArr
import Derived.Test.YthgnhcdodfildaaDoorK06
import Derived.Laws.Rows
import Derived.Laws.Tables
import Derived.Deep.WholeRow
namespace Go.Proofs.YthgnhcdodfildaaDoor
open Go.RowKit

theorem ret_bool {a b : Bool} (h : a = b) : Ending.returned (.bool a) = .returned (.bool b) := by rw [h]
theorem w64 (x : Nat) (h : x ≤ 4611686018427387904) : wrap64 (x : Int) = (x : Int) := by unfold wrap64; omega

theorem room_step (f : Nat → Nat) (hf : ∀ i, f i ≤ 512) (k : Nat) (hk : k ≤ 16) : wrap64 (((rsum f k : Nat) : Int) + wrap64 (((f k : Nat) : Int) * 2 ^ (15 - k))) = ((rsum f (k + 1) : Nat) : Int) := by
  have h1 := rsum_le f hf k
  have h2 := term_le f hf k
  have e : ((f k : Nat) : Int) * 2 ^ (15 - k) = ((f k * 2 ^ (15 - k) : Nat) : Int) := by simp
  have e2 : ((rsum f k : Nat) : Int) + ((f k * 2 ^ (15 - k) : Nat) : Int) = ((rsum f (k + 1) : Nat) : Int) := by
    show _ = ((rsum f k + f k * 2 ^ (15 - k) : Nat) : Int); omega
  rw [e, w64 _ (by omega), e2, w64]
  have := rsum_le f hf (k + 1)
  omega

set_option maxHeartbeats 400000 in
theorem room_any (f : Nat → Nat) (hf : ∀ i, f i ≤ 512) (w : World) :
    Calls Tryd.prog 86 #[.agg (A16 .i64 f)] w fun e w' => e = .returned (.int .i64 ((rsum f 16 : Nat) : Int)) ∧ Fr noB w w' := by
  go_enter Tryd.func86, Tryd.ntmps86
  go_wp2_with (refine wpList_load_row rfl 122 (.tmp 1) rfl w.heap.size rfl 122 (A16 .i64 f) (0, 0) _ (heap_alloc_new _ _) Tryd.underlying122 rfl (infoBL f .i64) ?_)
  go_loop [3, 7] (fun t i => ∃ k : Nat, k ≤ 16 ∧ i = .int .i64 (k : Int) ∧ t = .int .i64 ((rsum f k : Nat) : Int)) (fun _ i => 16 - (intOf i).toNat)
  case atStart => exact ⟨0, Nat.zero_le _, rfl, rfl⟩
  case round =>
    obtain ⟨k, hk, rfl, rfl⟩ := hrel
    by_cases hlt : k < 16
    · have hi := fun w => index_BL f k hlt w
      go_wp2
      go_round
      case rel => exact ⟨k + 1, by omega, by go_num, congrArg (Value.int .i64) (room_step f hf k hk)⟩
      case measure => simp [intOf]; omega
    · go_wp2_with fail
      go_ret
      have : k = 16 := by omega
      subst this
      exact ⟨rfl, (Fr.refl _ _).alloc _⟩

set_option maxHeartbeats 400000 in
theorem symbols_any (f : Nat → Nat) (hf : ∀ i, f i ≤ 512) (w : World) :
    Calls Tryd.prog 97 #[.agg (A16 .i64 f)] w fun e w' => e = .returned (.int .i64 ((ssum f 16 : Nat) : Int)) ∧ Fr noB w w' := by
  go_enter Tryd.func97, Tryd.ntmps97
  go_wp2_with (refine wpList_load_row rfl 122 (.tmp 1) rfl w.heap.size rfl 122 (A16 .i64 f) (0, 0) _ (heap_alloc_new _ _) Tryd.underlying122 rfl (infoBL f .i64) ?_)
  go_loop [3, 7] (fun t i => ∃ k : Nat, k ≤ 16 ∧ i = .int .i64 (k : Int) ∧ t = .int .i64 ((ssum f k : Nat) : Int)) (fun _ i => 16 - (intOf i).toNat)
  case atStart => exact ⟨0, Nat.zero_le _, rfl, rfl⟩
  case round =>
    obtain ⟨k, hk, rfl, rfl⟩ := hrel
    by_cases hlt : k < 16
    · have hi := fun w => index_BL f k hlt w
      have h1 := ssum_le f hf k
      have h3 := hf k
      go_wp2
      go_round
      case rel => exact ⟨k + 1, by omega, by go_num, by go_num⟩
      case measure => simp [intOf]; omega
    · go_wp2_with fail
      go_ret
      have : k = 16 := by omega
      subst this
      exact ⟨rfl, (Fr.refl _ _).alloc _⟩

set_option maxHeartbeats 800000 in
theorem areCodes_any (f : Nat → Nat) (hf : ∀ i, f i ≤ 512) (w : World) :
    Calls Tryd.prog 87 #[.agg (A16 .i64 f)] w fun e w' => e = .returned (.bool (areB f)) ∧ Fr noB w w' := by
  have hblk := heap_alloc_new w (.cells (A16 .i64 f) 122 (0, 0))
  have hlt : w.heap.size < (w.alloc (.cells (A16 .i64 f) 122 (0, 0))).heap.size := by simp
  have hF := (Fr.refl noB w).alloc (.cells (A16 .i64 f) 122 (0, 0))
  obtain ⟨g, hg⟩ : ∃ g, g = w.heap.size := ⟨_, rfl⟩
  obtain ⟨R, hR⟩ : ∃ R, R = rsum f 16 := ⟨_, rfl⟩
  obtain ⟨S, hS⟩ : ∃ S, S = ssum f 16 := ⟨_, rfl⟩
  have HR := room_any f hf
  have HS := symbols_any f hf
  rw [← hR] at HR
  rw [← hS] at HS
  have he : areB f = decide (R = 32768 ∨ S = 0 ∨ (S = 1 ∧ f 1 = 1)) := by rw [hR, hS]; rfl
  rw [he]
  clear he hR hS
  go_enter Tryd.func87, Tryd.ntmps87
  go_wp2_with (refine wpList_load_row rfl 122 (.tmp 1) rfl w.heap.size rfl 122 (A16 .i64 f) (0, 0) _ hblk Tryd.underlying122 rfl (infoBL f .i64) ?_)
  refine (HS _).mono ?_
  rintro e w1 ⟨rfl, hF1⟩
  have hblk1 := hF1.obj hblk id
  have hF2 := Fr.trans hF hF1
  clear hF hF1 hblk
  go_wp2_with (refine wpList_load_row rfl 122 (.tmp 1) rfl w.heap.size rfl 122 (A16 .i64 f) (0, 0) _ hblk1 Tryd.underlying122 rfl (infoBL f .i64) ?_)
  refine (HR _).mono ?_
  rintro e w2 ⟨rfl, hF3⟩
  have hblk2 := hF3.obj hblk1 id
  have hF4 := Fr.trans hF2 hF3
  have c1 := A16_cellOf hblk2 1 (by omega)
  clear hF3 hF2 hblk1 hblk2
  go_wp2
  all_goals
    go_ret
    exact ⟨ret_bool (by rw [Bool.eq_iff_iff]; simp; omega), hF4⟩

set_option maxHeartbeats 800000 in
theorem count_any (v : Value) (M : List Nat) (w : World) (hv : Ns .i64 w v (up M)) (hM : ∀ x ∈ M, x ≤ 15) (hl : M.length ≤ 512) :
    Calls Tryd.prog 70 #[v] w fun e w' => e = .returned (.agg (A16 .i64 (cntN M))) ∧ Fr noB w w' := by
  obtain ⟨ao, cap, rfl, h1, h2, h4, h3⟩ := hv
  rw [length_up] at *
  have hat : NsAt .i64 w ao (up M) := h3
  clear h3
  have hF0 := ((Fr.refl noB w).alloc (.cells (A16 .i64 (fun _ => 0)) 122 (0, 0))).alloc (.cells (A16 .i64 (fun _ => 0)) 122 (0, 0))
  have hr0 : ArrAt ((w.alloc (.cells (A16 .i64 (fun _ => 0)) 122 (0, 0))).alloc (.cells (A16 .i64 (fun _ => 0)) 122 (0, 0))) w.heap.size 122 .i64 (fun _ => 0) := (Below.heap_alloc _ _ _ (by simp)).trans (heap_alloc_new _ _)
  have hg0 : ArrAt ((w.alloc (.cells (A16 .i64 (fun _ => 0)) 122 (0, 0))).alloc (.cells (A16 .i64 (fun _ => 0)) 122 (0, 0))) (w.heap.size + 1) 122 .i64 (fun _ => 0) := by
    have := heap_alloc_new (w.alloc (.cells (A16 .i64 (fun _ => 0)) 122 (0, 0))) (.cells (A16 .i64 (fun _ => 0)) 122 (0, 0))
    rw [show (w.alloc (.cells (A16 .i64 (fun _ => 0)) 122 (0, 0))).heap.size = w.heap.size + 1 by simp] at this
    exact this
  go_enter Tryd.func70, Tryd.ntmps70
  go_wp2_with fail
  go_loopw [8] (fun i wr => ∃ k : Nat, k ≤ M.length ∧ i = .int .i64 (k : Int) ∧ ArrAt wr w.heap.size 122 .i64 (fun _ => 0) ∧ ArrAt wr (w.heap.size + 1) 122 .i64 (cntN (M.take k)) ∧ Fr noB w wr) (fun i _ => M.length - (intOf i).toNat)
  case atStart => exact ⟨0, Nat.zero_le _, rfl, hr0, by rw [List.take_zero, cntN_nil]; exact hg0, hF0⟩
  case round =>
    clear hr0 hg0 hF0
    obtain ⟨k, hk, rfl, hr, hg, hF⟩ := hrel
    by_cases hlt : k < M.length
    · obtain ⟨b, off, rfl, hb, hcell⟩ := (hat.keep hF).get k (by simpa using hlt)
      rw [up_get _ _ hlt] at hcell
      have hx := hM M[k] (List.getElem_mem hlt)
      have HT : Hid (M.take (k + 1) = M.take k ++ [M[k]]) := take_snoc M k hlt
      generalize M[k] = x at *
      have cx := A16_cellOf hg x (by omega)
      have fx := freeOf x hg
      have hcb := cntN_le (M.take k) x
      have hcb2 : cntN (M.take k) x ≤ 512 := by rw [List.length_take] at hcb; omega
      clear hcb
      by_cases hx0 : x = 0
      · have hx0' : ¬ 0 < (x : Int) := by omega
        go_wp2
        go_roundw
        case rel => exact ⟨k + 1, by omega, by go_num, hr, by rw [HT.out, hx0, cntN_snoc0]; exact hg, hF⟩
        case measure => simp [intOf]; omega
      · have hx0' : 0 < (x : Int) := by omega
        go_wp2
        go_roundw
        case rel =>
          refine ⟨k + 1, by omega, by go_num, ?_, ?_, ?_⟩
          · exact hr.set_ne (by omega) _ _
          · rw [HT.out, cntN_snoc _ _ (by omega)]
            have := hg.set x (cntN (M.take k) x + 1)
            exact this
          · exact hF.setCell ⟨w.heap.size + 1, x, none⟩ (Or.inr (by show w.heap.size ≤ w.heap.size + 1; omega)) _
        case measure => simp [intOf]; omega
    · have hkM : k = M.length := by omega
      subst hkM
      rw [List.take_length] at hg
      go_wp2_with (first | (refine wpList_load_row rfl 122 (.tmp 3) rfl (w.heap.size + 1) rfl 122 (A16 .i64 (cntN M)) (0, 0) _ hg Tryd.underlying122 rfl (infoBL _ .i64) ?_) | (refine wpList_store_row rfl 122 (.tmp 2) (.tmp 20) rfl w.heap.size (A16 .i64 (cntN M)) rfl rfl 122 _ hr (infoBL _ .i64) (by simp) (A16_one _ _) ?_))
      refine bodyPost_ret (v := .agg (A16 .i64 (cntN M))) (results_cell_row Tryd.results70 _ _ w.heap.size 122 (A16 .i64 (cntN M)) (0, 0) _ rfl (setRow_heap _ _ _ _ _ _ hr) Tryd.underlying122 rfl (infoBL _ .i64)) rfl ⟨rfl, ?_⟩
      exact hF.setRow _ (Or.inr (Nat.le_refl _)) _

theorem all_good (L : List Int) (h : ∀ i (hi : i < L.length), 0 ≤ L[i] ∧ L[i] ≤ 15) : ∃ M, L = up M ∧ ∀ x ∈ M, x ≤ 15 := by
  have h0 : ∀ x ∈ L, 0 ≤ x ∧ x ≤ 15 := by
    intro x hx
    obtain ⟨i, hi, rfl⟩ := List.getElem_of_mem hx
    exact h i hi
  refine ⟨_, up_of L (fun x hx => (h0 x hx).1), ?_⟩
  intro x hx
  simp only [List.mem_map] at hx
  obtain ⟨y, hy, rfl⟩ := hx
  have := h0 y hy
  omega

theorem cnt512 (M : List Nat) (hl : M.length ≤ 512) (i : Nat) : cntN M i ≤ 512 := Nat.le_trans (cntN_le M i) hl

set_option maxHeartbeats 1600000 in
theorem check_any (v : Value) (L : List Int) (w : World) (hv : Ns .i64 w v L) :
    Calls Tryd.prog 68 #[v] w fun e w' => e = .returned (.int .i64 (chk L)) ∧ Fr noB w w' := by
  have hv' := hv
  obtain ⟨ao, cap, rfl, h1, h2, h4, h3⟩ := hv
  have hat : NsAt .i64 w ao L := h3
  clear h3
  unfold maxLen at h2
  by_cases hlong : 512 < L.length
  · rw [chk_long L hlong]
    go_enter Tryd.func68, Tryd.ntmps68
    go_wp2
    go_ret
    exact ⟨rfl, Fr.refl _ _⟩
  have hl : L.length ≤ 512 := by omega
  clear hlong
  go_enter Tryd.func68, Tryd.ntmps68
  go_wp2_with fail
  go_loop [11] (fun i => ∃ k : Nat, k ≤ L.length ∧ i = .int .i64 (k : Int) ∧ ∀ i (hi : i < L.length), i < k → 0 ≤ L[i] ∧ L[i] ≤ 15) (fun i => L.length - (intOf i).toNat)
  case atStart => exact ⟨0, Nat.zero_le _, rfl, fun _ _ h => absurd h (by omega)⟩
  case round =>
    obtain ⟨k, hk, rfl, hall⟩ := hrel
    by_cases hlt : k < L.length
    · obtain ⟨b, off, rfl, hb, hcell⟩ := hat.get k hlt
      by_cases hbad : L[k] < 0 ∨ 15 < L[k]
      · have hc := chk_arg L hl ⟨_, List.getElem_mem hlt, hbad⟩
        have HC1 : Hid (chk L = 1) := hc
        clear hc hall
        generalize L[k] = x at *
        rcases hbad with hbad | hbad
        · go_wp2
          go_ret
          exact ⟨ret_int HC1.out.symm, Fr.refl _ _⟩
        · have hx0 : ¬ x < 0 := by omega
          go_wp2
          go_ret
          exact ⟨ret_int HC1.out.symm, Fr.refl _ _⟩
      · have hall' : ∀ i (hi : i < L.length), i < k + 1 → 0 ≤ L[i] ∧ L[i] ≤ 15 := by
          intro i hi hik
          by_cases e : i = k
          · subst e; omega
          · exact hall i hi (by omega)
        clear hall
        have hx0 : ¬ L[k] < 0 := by omega
        have hx1 : ¬ 15 < L[k] := by omega
        clear hbad
        generalize L[k] = x at *
        go_wp2
        go_round
        case rel => exact ⟨k + 1, by omega, by go_num, hall'⟩
        case measure => simp [intOf]; omega
    · obtain ⟨M, rfl, hM⟩ := all_good L (fun i hi => hall i hi (by omega))
      clear hall hat
      rw [length_up] at *
      have hf := cnt512 M hl
      have HC := count_any _ M w hv' hM hl
      have HR := room_any (cntN M) hf
      have HA := areCodes_any (cntN M) hf
      rw [rsum_all M hM] at HR
      rw [are_code M hM] at HA
      go_wp2_with fail
      refine HC.mono ?_
      rintro e w1 ⟨rfl, hF1⟩
      clear HC hv'
      go_wp2_with (first | (refine wpList_store_row rfl 122 (.tmp 5) (.tmp 23) rfl w1.heap.size (A16 .i64 (cntN M)) rfl rfl 122 _ (heap_alloc_new _ _) (infoBL _ .i64) rfl (A16_one _ _) ?_; rw [World.setRow_alloc_new]) | (refine wpList_load_row rfl 122 (.tmp 5) rfl w1.heap.size rfl 122 (A16 .i64 (cntN M)) (0, 0) _ (heap_alloc_new _ _) Tryd.underlying122 rfl (infoBL _ .i64) ?_))
      refine (HR _).mono ?_
      rintro e w2 ⟨rfl, hF2⟩
      have hb2 := hF2.obj (heap_alloc_new _ _) id
      have hF3 := Fr.trans (hF1.alloc _) hF2
      clear hF2 hF1 HR
      by_cases hover : 32768 < roomN M
      · have hover' : 32768 < ((roomN M : Nat) : Int) := by omega
        go_wp2
        go_ret
        exact ⟨ret_int (chk_over M hl hM hover).symm, hF3⟩
      · have hover' : ¬ 32768 < ((roomN M : Nat) : Int) := by omega
        go_wp2_with (refine wpList_load_row rfl 122 (.tmp 5) rfl w1.heap.size rfl 122 (A16 .i64 (cntN M)) (0, 0) _ hb2 Tryd.underlying122 rfl (infoBL _ .i64) ?_)
        refine (HA _).mono ?_
        rintro e w3 ⟨rfl, hF4⟩
        have hF5 := Fr.trans hF3 hF4
        cases hB : codeB (roomN M) (manyN M)
        · have HB : Hid _ := hB
          clear hB
          go_wp2
          go_ret
          exact ⟨ret_int (chk_less M hl hM (by omega) HB.out).symm, hF5⟩
        · have HB : Hid _ := hB
          clear hB
          go_wp2
          go_ret
          exact ⟨ret_int (chk_ok M hl hM (by omega) HB.out).symm, hF5⟩
#print axioms check_any
end Go.Proofs.YthgnhcdodfildaaDoor
