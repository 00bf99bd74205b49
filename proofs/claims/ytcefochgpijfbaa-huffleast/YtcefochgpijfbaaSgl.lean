/- The contract of singles. -/
import Derived.Test.YtcefochgpijfbaaRep
import Derived.Test.YtcefochgpijfbaaNum
namespace Go.Proofs.Ytcefochgpijfbaa
open Go.RowKit

theorem leavesP_append (A B : List Nat) : ∀ i, leavesP i (A ++ B) = leavesP i A ++ leavesP (i + A.length) B := by
  induction A with
  | nil => intro i; simp [leavesP]
  | cons c A ih =>
    intro i
    simp only [List.cons_append, leavesP, List.length_cons]
    rw [ih (i + 1), show i + 1 + A.length = i + (A.length + 1) by omega]
    split <;> simp
theorem leaves_more (C : List Nat) (k : Nat) (hk : k < C.length) : leavesP 0 (C.take (k + 1)) = leavesP 0 (C.take k) ++ if 0 < C[k] then [⟨C[k], [k]⟩] else [] := by
  rw [List.take_succ_eq_append_getElem hk, leavesP_append]
  congr 1
  simp only [leavesP, List.length_take, Nat.zero_add]
  rw [show min k C.length = k by omega]
theorem leaves_len (C : List Nat) : ∀ i, (leavesP i C).length ≤ C.length := by
  induction C with
  | nil => intro i; simp [leavesP]
  | cons c C ih =>
    intro i
    have := ih (i + 1)
    unfold leavesP
    split
    · simp only [List.length_cons]; omega
    · simp only [List.length_cons]; omega
theorem pCells_append (D E : List PV) : pCells (D ++ E) = pCells D ++ pCells E := by simp [pCells]
/-- Packages that a call has gathered: nil, or a row. -/
def Own (base : Nat) (w : World) (v : Value) (D : List PV) : Prop := w.ownsRow base 36 2 v D.length (pCells D)
theorem Own.ob {base : Nat} {w : World} {v : Value} {D : List PV} (h : Own base w v D) : ∀ b cs, w.heap[b]? = some (.cells cs 3 (0, 0)) → ¬ v.ownBlock = some b := by
  intro b cs hb e
  obtain ⟨_, h2⟩ := h
  rcases h2 with ⟨h2, _⟩ | ⟨g, cap, cur, hv, hg, hh, _⟩
  · rw [h2] at e; simp [Value.ownBlock] at e
  · rw [hv] at e
    simp [Value.ownBlock] at e
    subst e
    rw [hb] at hh
    simp at hh
theorem Own.base {base : Nat} {w : World} {v : Value} {D : List PV} (h : Own base w v D) : ∀ b, v.ownBlock = some b → base ≤ b := by
  intro b e
  obtain ⟨_, h2⟩ := h
  rcases h2 with ⟨h2, _⟩ | ⟨g, cap, cur, hv, hg, hh, _⟩
  · rw [h2] at e; simp [Value.ownBlock] at e
  · rw [hv] at e
    simp [Value.ownBlock] at e
    omega
theorem Own.slice {base : Nat} {w : World} {v : Value} {D : List PV} (h : Own base w v D) : ∃ so sc, v = .slice so D.length sc := by
  obtain ⟨_, h2⟩ := h
  rcases h2 with ⟨h2, h3⟩ | ⟨g, cap, cur, hv, _⟩
  · exact ⟨_, _, by rw [h2, h3]⟩
  · exact ⟨_, _, hv⟩
theorem Try.infoPk : (Try.prog.info? 36).map (fun i => (i.zero, i.size, i.bytes)) = some (some (.agg #[.int .i64 0, .slice none 0 0]), 2, 32) := by kernel_rfl
/-- What a new package becomes: its symbols in a row of their own, the package behind those gathered so far. -/
theorem Sy.new {w : World} (o : Obj) (k : Nat) : Sy ((w.alloc (.cells #[.int .i64 (k : Int)] 3 (0, 0))).alloc o) (.slice (some ⟨w.heap.size, 0, none⟩) 1 1) [k] :=
  ⟨w.heap.size, 1, #[.int .i64 (k : Int)], rfl, by simp, by simp, by decide, (Below.heap_alloc _ _ _ (by simp)).trans (heap_alloc_new _ _), fun i hi => by
    obtain rfl : i = 0 := by simpa using hi
    rfl⟩
theorem agg_src {w : World} {n : Nat} (hn : w.heap.size = n) (x y : Value) (t : TypeId) : ∀ j u, [x, y][j]? = some u → (w.alloc (.cells #[x, y] t (0, 0))).cell? ((⟨n, 0, none⟩ : Addr).add j) = some u := by
  subst hn
  intro j u hj
  match j, hj with
  | 0, hj => simp at hj; subst hj; simp [Addr.add]
  | 1, hj => simp at hj; subst hj; simp [Addr.add]

set_option maxRecDepth 100000 in
set_option maxHeartbeats 1600000 in
theorem singles_any (v : Value) (C : List Nat) (w : World) (hv : Ns .i64 w v (up C)) (hC : C.length ≤ 512) :
    Calls Try.prog 10 #[v] w fun e w' => ∃ lv D, e = .returned lv ∧ Own w.heap.size w' lv D ∧ RepL w' D (leavesP 0 C) ∧ Fr noB w w' := by
  obtain ⟨ao, cap, rfl, h1, h2, h4, h3⟩ := hv
  have hat : NsAt .i64 w ao (up C) := h3
  clear h3 h4
  obtain ⟨i0, hi, hz0, hz1, hz2⟩ := info_parts Try.infoPk
  unfold maxLen at h2
  rw [length_up] at h1
  rw [length_up]
  obtain ⟨N, hN⟩ : ∃ N, C.length = N := ⟨_, rfl⟩
  have HN : Hid (C.length = N) := hN
  rw [hN] at h1 hC ⊢
  clear hN
  go_enter Try.func10, Try.ntmps10
  go_wp2_with fail
  go_loopg [3, 8] N (fun gh lv iv wr => ∃ (k : Nat) (D : List PV), k ≤ N ∧ gh = N - k ∧ iv = .int .i64 (k : Int) ∧ Own w.heap.size wr lv D ∧ RepL wr D (leavesP 0 (C.take k)) ∧ Fr noB w wr)
  case atStart => exact ⟨0, [], by omega, rfl, rfl, World.ownsRow_nil _ _ _ _, by simp [leavesP]; exact RepL.nil, Fr.refl _ _⟩
  case round =>
    rename_i gh lv iv
    obtain ⟨k, D, hk, rfl, rfl, hO, hR, hF⟩ := hrel
    obtain ⟨so, sc, rfl⟩ := hO.slice
    by_cases hlt : k < N
    · have hkC : k < C.length := by rw [HN.out]; exact hlt
      obtain ⟨b, off, rfl, hb, hcell⟩ := (hat.keep hF).get k (by rw [length_up]; exact hkC)
      rw [up_get C k hkC] at hcell
      have HX := leaves_more C k hkC
      have hDl : D.length ≤ 512 := by
        have := hR.length
        have := leaves_len (C.take k) 0
        simp at this
        omega
      obtain ⟨x, hx⟩ : ∃ x, C[k] = x := ⟨_, rfl⟩
      rw [hx] at hcell HX
      have HY : Hid _ := HX
      clear hx HX hkC
      by_cases hx0 : 0 < x
      · have hx0I : (0 : Int) < (x : Int) := by omega
        have HO : Hid _ := hO
        have HRR : Hid _ := hR
        clear hO hR
        go_wp2_with (at_builtin; refine wpList_append_own _ rfl (.tmp 15) (.tmp 20) 33 rfl w.heap.size 36 i0 (.agg #[.int .i64 0, .slice none 0 0]) 2 32 Try.underlying33 hi hz0 hz1 hz2 rfl (by decide) _ D.length (pCells D) rfl ((HO.out.alloc _).alloc _) ⟨_, 0, none⟩ 1 1 [.int .i64 (x : Int), .slice (some ⟨wr.heap.size, 0, none⟩) 1 1] rfl rfl (agg_src (by simp) _ _ _) (by intro u hu; simp at hu; rcases hu with rfl | rfl <;> rfl) (by unfold maxLen; omega) (by omega) (by have := hF.size; simp; omega) ?_)
        intro v' w1 hown1 hg1 _
        have hF0 : Fr noB w ((wr.alloc (.cells #[.int .i64 (k : Int)] 3 (0, 0))).alloc (.cells #[.int .i64 (x : Int), .slice (some ⟨wr.heap.size, 0, none⟩) 1 1] 36 (0, 0))) := (hF.alloc _).alloc _
        have hO0 := (HO.out.alloc (.cells #[.int .i64 (k : Int)] 3 (0, 0))).alloc (.cells #[.int .i64 (x : Int), .slice (some ⟨wr.heap.size, 0, none⟩) 1 1] 36 (0, 0))
        have hFg : Fr (fun b => (Value.slice so D.length sc).ownBlock = some b) ((wr.alloc (.cells #[.int .i64 (k : Int)] 3 (0, 0))).alloc (.cells #[.int .i64 (x : Int), .slice (some ⟨wr.heap.size, 0, none⟩) 1 1] 36 (0, 0))) w1 := (Fr.refl _ _).grown hg1 (fun b hb => Or.inl hb)
        have hF1 : Fr noB w w1 := hF0.grown hg1 (fun b hb => Or.inr (Own.base hO0 b hb))
        have hR1 : RepL w1 (D ++ [((x : Nat), Value.slice (some ⟨wr.heap.size, 0, none⟩) 1 1)]) (leavesP 0 (C.take k) ++ [⟨x, [k]⟩]) := by
          refine RepL.keep (RepL.append (HRR.out.keep (((Fr.refl noB wr).alloc _).alloc _) (fun _ _ _ h => h)) (RepL.cons ⟨rfl, Sy.new _ k⟩ RepL.nil)) hFg (Own.ob hO0)
        have hO1 : Own w.heap.size w1 v' (D ++ [((x : Nat), Value.slice (some ⟨wr.heap.size, 0, none⟩) 1 1)]) := by
          unfold Own
          rw [pCells_append, List.length_append]
          exact hown1
        have hR2 : RepL w1 (D ++ [((x : Nat), Value.slice (some ⟨wr.heap.size, 0, none⟩) 1 1)]) (leavesP 0 (C.take (k + 1))) := by
          rw [HY.out, if_pos hx0]; exact hR1
        obtain ⟨so', sc', rfl⟩ := hO1.slice
        have HO1 : Hid _ := hO1
        have HR2 : Hid _ := hR2
        clear hO1 hR2 hR1 hFg hO0 hF0 hown1 hg1 HRR HO HY
        go_wp2_with fail
        go_roundg (N - (k + 1))
        case measure => omega
        case rel => exact ⟨k + 1, _, by omega, rfl, by go_num, HO1.out, HR2.out, hF1⟩
      · have hx0I : ¬ (0 : Int) < (x : Int) := by omega
        go_wp2_with fail
        go_roundg (N - (k + 1))
        case measure => omega
        case rel => exact ⟨k + 1, D, by omega, rfl, by go_num, hO, by rw [HY.out, if_neg hx0, List.append_nil]; exact hR, hF⟩
    · obtain rfl : k = N := by omega
      go_wp2_with fail
      go_ret
      exact ⟨_, D, rfl, hO, by rw [List.take_of_length_le (by rw [HN.out]; exact Nat.le_refl _)] at hR; exact hR, hF⟩
#print axioms singles_any
end Go.Proofs.Ytcefochgpijfbaa
