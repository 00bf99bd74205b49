/- The contracts of the document's put and merged. -/
import Derived.Test.YtcefochgpijfbaaLenC
namespace Go.Proofs.Ytcefochgpijfbaa
open Go.RowKit
attribute [local go_sem ↓] Go.wp_at_zero Go.wp_at_succ

/-- Numbers that a call has gathered. -/
def OwnN (base : Nat) (w : World) (v : Value) (K : List Nat) : Prop := w.ownsRow base 3 1 v K.length (nVals .i64 K)
theorem OwnN.cases {base : Nat} {w : World} {v : Value} {K : List Nat} (h : OwnN base w v K) : (v = .slice none 0 0 ∧ K = []) ∨ ∃ g cap, v = .slice (some ⟨g, 0, none⟩) K.length cap ∧ base ≤ g ∧ g < w.heap.size ∧ K.length ≤ cap ∧ cap ≤ maxLen ∧ ∀ i (h : i < K.length), w.cell? ⟨g, i, none⟩ = some (.int .i64 ((K[i] : Nat) : Int)) := by
  obtain ⟨h1, h2⟩ := h
  rcases h2 with ⟨h2, h3⟩ | ⟨g, cap, cur, hv, hg, hh, ha, hb, hc, hd⟩
  · exact Or.inl ⟨h2, List.eq_nil_of_length_eq_zero h3⟩
  · refine Or.inr ⟨g, cap, hv, hg, lt_of_block hh, ha, hb, fun i hi => ?_⟩
    refine cellOf hh ?_
    have h1 := nVals_get .i64 K i hi
    rw [← hd, List.getElem?_take_of_lt (by omega)] at h1
    simpa using h1
theorem OwnN.keep {base : Nat} {S : Nat → Prop} {w w' : World} {v : Value} {K : List Nat} (h : OwnN base w v K) (hF : Fr S w w') (hs : ∀ b, base ≤ b → ¬ S b) : OwnN base w' v K := by
  obtain ⟨o1, o2⟩ := h
  refine ⟨o1, ?_⟩
  rcases o2 with o2 | ⟨g', cap', cur', k1, k2, k3, k4⟩
  · exact Or.inl o2
  · exact Or.inr ⟨g', cap', cur', k1, k2, hF.obj k3 (hs _ k2), k4⟩
theorem OwnN.base {base base' : Nat} {w : World} {v : Value} {K : List Nat} (h : OwnN base w v K) (hb : base' ≤ base) : OwnN base' w v K := by
  obtain ⟨o1, o2⟩ := h
  refine ⟨o1, ?_⟩
  rcases o2 with o2 | ⟨g', cap', cur', k1, k2, k3, k4⟩
  · exact Or.inl o2
  · exact Or.inr ⟨g', cap', cur', k1, by omega, k3, k4⟩
theorem OwnN.slice {base : Nat} {w : World} {v : Value} {K : List Nat} (h : OwnN base w v K) : ∃ so sc, v = .slice so K.length sc := own_slice h
theorem OwnN.nil (base : Nat) (w : World) : OwnN base w (.slice none 0 0) [] := World.ownsRow_nil _ _ _ _
theorem srcN {w : World} {g : Nat} {K : List Nat} (h : ∀ i (h : i < K.length), w.cell? ⟨g, i, none⟩ = some (.int .i64 ((K[i] : Nat) : Int))) (k o : Nat) (ho : k < K.length → o = k) : Src w (some ⟨g, o, none⟩) (nVals .i64 (K.drop k)) := by
  refine ⟨fun h0 => ⟨_, rfl, fun j v hj => ?_⟩⟩
  have hk : k < K.length := by simp [nVals] at h0; omega
  have hjl : j < (K.drop k).length := by
    have := (List.getElem?_eq_some_iff.1 hj).1
    simpa [nVals] using this
  rw [nVals_get _ _ _ hjl] at hj
  cases hj
  rw [add_none, ho hk]
  simp at hjl
  rw [List.getElem_drop]
  exact h (k + j) (by omega)
theorem srcT {w : World} {g : Nat} {K : List Nat} (h : ∀ i (h : i < K.length), w.cell? ⟨g, i, none⟩ = some (.int .i64 ((K[i] : Nat) : Int))) (k : Nat) : Src w (some ⟨g, 0, none⟩) (nVals .i64 (K.take k)) := by
  refine ⟨fun h0 => ⟨_, rfl, fun j v hj => ?_⟩⟩
  have hjl : j < (K.take k).length := by
    have := (List.getElem?_eq_some_iff.1 hj).1
    simpa [nVals] using this
  rw [nVals_get _ _ _ hjl] at hj
  cases hj
  rw [add_none, Nat.zero_add]
  simp at hjl
  rw [List.getElem_take]
  exact h j (by omega)
theorem one_src {w : World} {n : Nat} (hn : w.heap.size = n) (x : Value) (t : TypeId) : Src (w.alloc (.cells #[x] t (0, 0))) (some ⟨n, 0, none⟩) [x] := by
  subst hn
  refine ⟨fun _ => ⟨_, rfl, fun j u hj => ?_⟩⟩
  match j, hj with
  | 0, hj => simp at hj; subst hj; simp [Addr.add]

set_option maxRecDepth 100000 in
set_option maxHeartbeats 1600000 in
theorem put_nil (x : Nat) (w : World) :
    Calls Try.prog 16 #[.slice none 0 0, .int .i64 (x : Int)] w fun e w' => ∃ lv, e = .returned lv ∧ OwnN w.heap.size w' lv [x] ∧ Fr noB w w' := by
  obtain ⟨i0, hi, hz0, hz1, hz2⟩ := info_parts Try.infoI
  go_enter Try.func16, Try.ntmps16
  go_wp2_with fail
  go_loopg [5] 0 (fun _ iv wr => iv = .int .i64 0 ∧ wr = w)
  case atStart => exact ⟨rfl, rfl⟩
  case round =>
    obtain ⟨rfl, hwr⟩ := hrel
    have hwr' := hwr.symm
    subst hwr'
    go_wp2_with (at_builtin; refine wpList_append_src rfl _ (.tmp 23) 22 rfl w.heap.size 3 i0 (.int .i64 0) 8 Try.underlying22 hi hz0 hz1 hz2 rfl _ 0 [] rfl (World.ownsRow_nil _ _ _ _) none 0 0 rfl (fun _ => rfl) (Nat.le_refl _) [] rfl ⟨fun h => by simp at h⟩ (by simp) (by decide) (by decide) (Nat.le_refl _) ?_)
    intro v1 w1 hO1 hg1
    have hO1' : OwnN w.heap.size w1 v1 [] := hO1
    have hF1 : Fr noB w w1 := (Fr.refl noB w).grown hg1 (by simp [Value.ownBlock])
    obtain ⟨so1, sc1, rfl⟩ := hO1'.slice
    have HO1 : Hid (OwnN w.heap.size w1 (.slice so1 0 sc1) []) := hO1'
    have hsz1 := hF1.size
    clear hO1 hO1' hg1
    go_wp2_with (at_builtin; refine wpList_append_src rfl (.tmp 25) (.tmp 27) 22 rfl w.heap.size 3 i0 (.int .i64 0) 8 Try.underlying22 hi hz0 hz1 hz2 rfl _ 0 [] rfl (HO1.out.alloc _) (some ⟨w1.heap.size, 0, none⟩) 1 1 rfl (by simp) (Nat.le_refl _) [.int .i64 (x : Int)] rfl (one_src (by simp) _ _) (by simp [Value.oneCell']) (by decide) (by decide) (by simp; omega) ?_)
    intro v2 w2 hO2 hg2
    have hF2 : Fr noB w w2 := (hF1.alloc _).grown hg2 (fun b hb => Or.inr (own_base HO1.out b hb))
    have hO2' : OwnN w.heap.size w2 v2 [x] := hO2
    obtain ⟨so2, sc2, rfl⟩ := hO2'.slice
    have HO2 : Hid (w2.ownsRow w.heap.size 3 1 (.slice so2 1 sc2) 1 [.int .i64 (x : Int)]) := hO2
    have HO2n : Hid (OwnN w.heap.size w2 (.slice so2 1 sc2) [x]) := hO2'
    have hsz2 := hF2.size
    clear hO2 hO2' hg2
    go_wp2_with (at_builtin; refine wpList_append_src rfl (.tmp 29) (.tmp 32) 22 rfl w.heap.size 3 i0 (.int .i64 0) 8 Try.underlying22 hi hz0 hz1 hz2 rfl _ 1 [.int .i64 (x : Int)] rfl HO2.out none 0 0 rfl (fun _ => rfl) (Nat.le_refl _) [] rfl ⟨fun h => by simp at h⟩ (by simp) (by decide) (by decide) hsz2 ?_)
    intro v3 w3 hO3 hg3
    have hF3 : Fr noB w w3 := hF2.grown hg3 (fun b hb => Or.inr (own_base HO2.out b hb))
    have hO3' : OwnN w.heap.size w3 v3 [x] := hO3
    obtain ⟨so3, sc3, rfl⟩ := hO3'.slice
    have HO3 : Hid (OwnN w.heap.size w3 (.slice so3 1 sc3) [x]) := hO3'
    clear hO3 hO3' hg3
    go_wp2_with fail
    go_ret
    exact ⟨_, rfl, HO3.out, hF3⟩

set_option maxRecDepth 100000 in
set_option maxHeartbeats 1600000 in
theorem put_row (g cap N x : Nat) (K : List Nat) (w : World) (hc : ∀ i (h : i < K.length), w.cell? ⟨g, i, none⟩ = some (.int .i64 ((K[i] : Nat) : Int))) (hN : K.length = N) (hl : N ≤ 100000) (hcap : N ≤ cap) (hcap2 : cap ≤ maxLen) (hg : g < w.heap.size) :
    Calls Try.prog 16 #[.slice (some ⟨g, 0, none⟩) N cap, .int .i64 (x : Int)] w fun e w' => ∃ lv k, e = .returned lv ∧ k ≤ N ∧ (∀ j (h : j < K.length), j < k → K[j] ≤ x) ∧ (∀ h : k < K.length, x < K[k]) ∧ OwnN w.heap.size w' lv (K.take k ++ x :: K.drop k) ∧ Fr noB w w' := by
  obtain ⟨i0, hi, hz0, hz1, hz2⟩ := info_parts Try.infoI
  have HC : Hid (∀ i (h : i < K.length), w.cell? ⟨g, i, none⟩ = some (.int .i64 ((K[i] : Nat) : Int))) := hc
  have HN : Hid (K.length = N) := hN
  unfold maxLen at hcap2
  have HCk : Hid (∀ w', Fr noB w w' → ∀ i (h : i < K.length), w'.cell? ⟨g, i, none⟩ = some (.int .i64 ((K[i] : Nat) : Int))) := fun w' hw i h => (hw.cell (a := ⟨g, i, none⟩) hg id).trans (hc i h)
  clear hc hN
  go_enter Try.func16, Try.ntmps16
  go_wp2_with fail
  go_loopg [5] N (fun gh iv wr => ∃ k : Nat, k ≤ N ∧ gh = N - k ∧ iv = .int .i64 (k : Int) ∧ Hid (∀ j (h : j < K.length), j < k → K[j] ≤ x) ∧ wr = w)
  case atStart => exact ⟨0, by omega, rfl, rfl, (fun j h h' => by omega), rfl⟩
  case round =>
    obtain ⟨k, hk, rfl, rfl, HLe, hwr⟩ := hrel
    have hwr' := hwr.symm
    subst hwr'
    by_cases hgo : ∃ h : k < K.length, K[k] ≤ x
    · obtain ⟨hkl, hle⟩ := hgo
      have hc := HC.out k hkl
      have HLe2 : Hid (∀ j (h : j < K.length), j < k + 1 → K[j] ≤ x) := fun j h h' => by
        by_cases e : j = k
        · subst e; exact hle
        · exact HLe.out j h (by omega)
      have hkN : k < N := by have := HN.out; omega
      obtain ⟨y, hy⟩ : ∃ y, K[k] = y := ⟨_, rfl⟩
      rw [hy] at hc hle
      clear hy hkl
      have hkI : (k : Int) < (N : Int) := by omega
      have hyI : (y : Int) ≤ (x : Int) := by omega
      go_wp2_with fail
      go_roundg (N - (k + 1))
      case measure => omega
      case rel => exact ⟨k + 1, by omega, rfl, by go_num, HLe2.out, rfl⟩
    · have HGt : Hid (∀ h : k < K.length, x < K[k]) := fun h => by
        rcases Nat.lt_or_ge x K[k] with h' | h'
        · exact h'
        · exact absurd ⟨h, h'⟩ hgo
      have hS1 : Src w (some ⟨g, 0, none⟩) (nVals .i64 (K.take k)) := srcT HC.out k
      have HTl : Hid ((K.take k).length = k ∧ (K.drop k).length = N - k) := by have := HN.out; exact ⟨by simp; omega, by simp; omega⟩
      by_cases hkN : k < N
      · have hkl : k < K.length := by have := HN.out; omega
        have hc := HC.out k hkl
        have hgt := HGt.out hkl
        obtain ⟨y, hy⟩ : ∃ y, K[k] = y := ⟨_, rfl⟩
        rw [hy] at hc hgt
        clear hy hkl hgo
        have hkI : (k : Int) < (N : Int) := by omega
        have hyI : ¬ (y : Int) ≤ (x : Int) := by omega
        have hkc : (k : Int) ≤ (cap : Int) := by omega
        have hkc0 : (0 : Int) ≤ (k : Int) := by omega
        have hNc : (N : Int) ≤ (cap : Int) := by omega
        have hkne : ¬ cap - k = 0 := by omega
        go_wp2_with (at_builtin; refine wpList_append_src rfl _ (.tmp 23) 22 rfl w.heap.size 3 i0 (.int .i64 0) 8 Try.underlying22 hi hz0 hz1 hz2 rfl _ 0 [] rfl (World.ownsRow_nil _ _ _ _) (some ⟨g, 0, none⟩) k cap rfl (by simp) (by omega) (nVals .i64 (K.take k)) (by simp only [nVals, List.length_map]; exact HTl.out.1) hS1 (nVals_one _ _) (by unfold maxLen; omega) (by omega) (Nat.le_refl _) ?_)
        intro v1 w1 hO1 hg1
        have hO1' : OwnN w.heap.size w1 v1 (K.take k) := by
          have := hO1
          try rw [Nat.zero_add, List.nil_append] at this
          unfold OwnN
          rw [HTl.out.1]
          exact this
        have hF1 : Fr noB w w1 := (Fr.refl noB w).grown hg1 (by simp [Value.ownBlock])
        obtain ⟨so1, sc1, hv1⟩ := hO1'.slice
        rw [HTl.out.1] at hv1
        subst hv1
        have HO1 : Hid (w1.ownsRow w.heap.size 3 1 (.slice so1 k sc1) k (nVals .i64 (K.take k))) := by
          have := hO1
          try rw [Nat.zero_add, List.nil_append] at this
          exact this
        have hsz1 := hF1.size
        clear hO1 hO1' hg1
        go_wp2_with (at_builtin; refine wpList_append_src rfl (.tmp 25) (.tmp 27) 22 rfl w.heap.size 3 i0 (.int .i64 0) 8 Try.underlying22 hi hz0 hz1 hz2 rfl _ k (nVals .i64 (K.take k)) rfl (HO1.out.alloc _) (some ⟨w1.heap.size, 0, none⟩) 1 1 rfl (by simp) (Nat.le_refl _) [.int .i64 (x : Int)] rfl (one_src (by simp) _ _) (by simp [Value.oneCell']) (by unfold maxLen; omega) (by omega) (by simp; omega) ?_)
        intro v2 w2 hO2 hg2
        have hF2 : Fr noB w w2 := (hF1.alloc _).grown hg2 (fun b hb => Or.inr (own_base HO1.out b hb))
        have HO2 : Hid (w2.ownsRow w.heap.size 3 1 v2 (k + 1) (nVals .i64 (K.take k ++ [x]))) := by
          rw [nVals_append]
          exact hO2
        obtain ⟨so2, sc2, hv2⟩ : ∃ so sc, v2 = .slice so (k + 1) sc := by
          have h' : OwnN w.heap.size w2 v2 (K.take k ++ [x]) := by
            unfold OwnN
            rw [List.length_append, HTl.out.1]
            exact HO2.out
          obtain ⟨a, b, e⟩ := h'.slice
          rw [List.length_append, HTl.out.1] at e
          exact ⟨a, b, e⟩
        subst hv2
        have hsz2 := hF2.size
        have hS3 := srcN (HCk.out w2 hF2) k k (fun _ => rfl)
        clear hO2 hg2
        go_wp2_with (at_builtin; refine wpList_append_src rfl (.tmp 29) (.tmp 32) 22 rfl w.heap.size 3 i0 (.int .i64 0) 8 Try.underlying22 hi hz0 hz1 hz2 rfl _ (k + 1) (nVals .i64 (K.take k ++ [x])) rfl HO2.out (some ⟨g, k, none⟩) (N - k) (cap - k) rfl (by simp) (by omega) (nVals .i64 (K.drop k)) (by simp only [nVals, List.length_map]; have := HTl.out.2; omega) hS3 (nVals_one _ _) (by unfold maxLen; omega) (by omega) hsz2 ?_)
        intro v3 w3 hO3 hg3
        have hF3 : Fr noB w w3 := hF2.grown hg3 (fun b hb => Or.inr (own_base HO2.out b hb))
        have HO3 : Hid (OwnN w.heap.size w3 v3 (K.take k ++ x :: K.drop k)) := by
          have := hO3
          rw [← nVals_append, List.append_assoc] at this
          unfold OwnN
          rw [List.length_append, List.length_cons, HTl.out.1, HTl.out.2]
          rw [show k + (N - k + 1) = k + 1 + (N - k) by omega]
          exact this
        obtain ⟨so3, sc3, hv3⟩ := HO3.out.slice
        rw [List.length_append, List.length_cons, HTl.out.1, HTl.out.2] at hv3
        subst hv3
        clear hO3 hg3
        go_wp2_with fail
        go_ret
        exact ⟨_, k, rfl, by omega, HLe.out, HGt.out, HO3.out, hF3⟩
      · have hkN' : k = N := by omega
        subst hkN'
        have hkI : ¬ (k : Int) < (k : Int) := by omega
        have hkc : (k : Int) ≤ (cap : Int) := by omega
        have hkc0 : (0 : Int) ≤ (k : Int) := by omega
        clear hgo hkN
        by_cases hcz : cap = k
        · subst hcz
          have hkne : cap - cap = 0 := by omega
          go_wp2_with (at_builtin; refine wpList_append_src rfl _ (.tmp 23) 22 rfl w.heap.size 3 i0 (.int .i64 0) 8 Try.underlying22 hi hz0 hz1 hz2 rfl _ 0 [] rfl (World.ownsRow_nil _ _ _ _) (some ⟨g, 0, none⟩) cap cap rfl (by simp) (by omega) (nVals .i64 (K.take cap)) (by simp only [nVals, List.length_map]; exact HTl.out.1) hS1 (nVals_one _ _) (by unfold maxLen; omega) (by omega) (Nat.le_refl _) ?_)
          intro v1 w1 hO1 hg1
          have hO1' : OwnN w.heap.size w1 v1 (K.take cap) := by
            have := hO1
            try rw [Nat.zero_add, List.nil_append] at this
            unfold OwnN
            rw [HTl.out.1]
            exact this
          have hF1 : Fr noB w w1 := (Fr.refl noB w).grown hg1 (by simp [Value.ownBlock])
          obtain ⟨so1, sc1, hv1⟩ := hO1'.slice
          rw [HTl.out.1] at hv1
          subst hv1
          have HO1 : Hid (w1.ownsRow w.heap.size 3 1 (.slice so1 cap sc1) cap (nVals .i64 (K.take cap))) := by
            have := hO1
            try rw [Nat.zero_add, List.nil_append] at this
            exact this
          have hsz1 := hF1.size
          clear hO1 hO1' hg1
          go_wp2_with (at_builtin; refine wpList_append_src rfl (.tmp 25) (.tmp 27) 22 rfl w.heap.size 3 i0 (.int .i64 0) 8 Try.underlying22 hi hz0 hz1 hz2 rfl _ cap (nVals .i64 (K.take cap)) rfl (HO1.out.alloc _) (some ⟨w1.heap.size, 0, none⟩) 1 1 rfl (by simp) (Nat.le_refl _) [.int .i64 (x : Int)] rfl (one_src (by simp) _ _) (by simp [Value.oneCell']) (by unfold maxLen; omega) (by omega) (by simp; omega) ?_)
          intro v2 w2 hO2 hg2
          have hF2 : Fr noB w w2 := (hF1.alloc _).grown hg2 (fun b hb => Or.inr (own_base HO1.out b hb))
          have HO2 : Hid (w2.ownsRow w.heap.size 3 1 v2 (cap + 1) (nVals .i64 (K.take cap ++ [x]))) := by
            rw [nVals_append]
            exact hO2
          obtain ⟨so2, sc2, hv2⟩ : ∃ so sc, v2 = .slice so (cap + 1) sc := by
            have h' : OwnN w.heap.size w2 v2 (K.take cap ++ [x]) := by
              unfold OwnN
              rw [List.length_append, HTl.out.1]
              exact HO2.out
            obtain ⟨a, b, e⟩ := h'.slice
            rw [List.length_append, HTl.out.1] at e
            exact ⟨a, b, e⟩
          subst hv2
          have hsz2 := hF2.size
          have hS3 := srcN (HCk.out w2 hF2) cap 0 (fun h => by have := HN.out; omega)
          clear hO2 hg2
          go_wp2_with (at_builtin; refine wpList_append_src rfl (.tmp 29) (.tmp 32) 22 rfl w.heap.size 3 i0 (.int .i64 0) 8 Try.underlying22 hi hz0 hz1 hz2 rfl _ (cap + 1) (nVals .i64 (K.take cap ++ [x])) rfl HO2.out (some ⟨g, 0, none⟩) (0) (0) rfl (by simp) (by omega) (nVals .i64 (K.drop cap)) (by simp only [nVals, List.length_map]; have := HTl.out.2; omega) hS3 (nVals_one _ _) (by unfold maxLen; omega) (by omega) hsz2 ?_)
          intro v3 w3 hO3 hg3
          have hF3 : Fr noB w w3 := hF2.grown hg3 (fun b hb => Or.inr (own_base HO2.out b hb))
          have HO3 : Hid (OwnN w.heap.size w3 v3 (K.take cap ++ x :: K.drop cap)) := by
            have := hO3
            rw [← nVals_append, List.append_assoc] at this
            unfold OwnN
            rw [List.length_append, List.length_cons, HTl.out.1, HTl.out.2]
            rw [show cap + (cap - cap + 1) = cap + 1 + (0) by omega]
            exact this
          obtain ⟨so3, sc3, hv3⟩ := HO3.out.slice
          rw [List.length_append, List.length_cons, HTl.out.1, HTl.out.2] at hv3
          subst hv3
          clear hO3 hg3
          go_wp2_with fail
          go_ret
          exact ⟨_, cap, rfl, by omega, HLe.out, HGt.out, HO3.out, hF3⟩
        · have hkne : ¬ cap - k = 0 := by omega
          go_wp2_with (at_builtin; refine wpList_append_src rfl _ (.tmp 23) 22 rfl w.heap.size 3 i0 (.int .i64 0) 8 Try.underlying22 hi hz0 hz1 hz2 rfl _ 0 [] rfl (World.ownsRow_nil _ _ _ _) (some ⟨g, 0, none⟩) k cap rfl (by simp) (by omega) (nVals .i64 (K.take k)) (by simp only [nVals, List.length_map]; exact HTl.out.1) hS1 (nVals_one _ _) (by unfold maxLen; omega) (by omega) (Nat.le_refl _) ?_)
          intro v1 w1 hO1 hg1
          have hO1' : OwnN w.heap.size w1 v1 (K.take k) := by
            have := hO1
            try rw [Nat.zero_add, List.nil_append] at this
            unfold OwnN
            rw [HTl.out.1]
            exact this
          have hF1 : Fr noB w w1 := (Fr.refl noB w).grown hg1 (by simp [Value.ownBlock])
          obtain ⟨so1, sc1, hv1⟩ := hO1'.slice
          rw [HTl.out.1] at hv1
          subst hv1
          have HO1 : Hid (w1.ownsRow w.heap.size 3 1 (.slice so1 k sc1) k (nVals .i64 (K.take k))) := by
            have := hO1
            try rw [Nat.zero_add, List.nil_append] at this
            exact this
          have hsz1 := hF1.size
          clear hO1 hO1' hg1
          go_wp2_with (at_builtin; refine wpList_append_src rfl (.tmp 25) (.tmp 27) 22 rfl w.heap.size 3 i0 (.int .i64 0) 8 Try.underlying22 hi hz0 hz1 hz2 rfl _ k (nVals .i64 (K.take k)) rfl (HO1.out.alloc _) (some ⟨w1.heap.size, 0, none⟩) 1 1 rfl (by simp) (Nat.le_refl _) [.int .i64 (x : Int)] rfl (one_src (by simp) _ _) (by simp [Value.oneCell']) (by unfold maxLen; omega) (by omega) (by simp; omega) ?_)
          intro v2 w2 hO2 hg2
          have hF2 : Fr noB w w2 := (hF1.alloc _).grown hg2 (fun b hb => Or.inr (own_base HO1.out b hb))
          have HO2 : Hid (w2.ownsRow w.heap.size 3 1 v2 (k + 1) (nVals .i64 (K.take k ++ [x]))) := by
            rw [nVals_append]
            exact hO2
          obtain ⟨so2, sc2, hv2⟩ : ∃ so sc, v2 = .slice so (k + 1) sc := by
            have h' : OwnN w.heap.size w2 v2 (K.take k ++ [x]) := by
              unfold OwnN
              rw [List.length_append, HTl.out.1]
              exact HO2.out
            obtain ⟨a, b, e⟩ := h'.slice
            rw [List.length_append, HTl.out.1] at e
            exact ⟨a, b, e⟩
          subst hv2
          have hsz2 := hF2.size
          have hS3 := srcN (HCk.out w2 hF2) k k (fun _ => rfl)
          clear hO2 hg2
          go_wp2_with (at_builtin; refine wpList_append_src rfl (.tmp 29) (.tmp 32) 22 rfl w.heap.size 3 i0 (.int .i64 0) 8 Try.underlying22 hi hz0 hz1 hz2 rfl _ (k + 1) (nVals .i64 (K.take k ++ [x])) rfl HO2.out (some ⟨g, k, none⟩) (0) (cap - k) rfl (by simp) (by omega) (nVals .i64 (K.drop k)) (by simp only [nVals, List.length_map]; have := HTl.out.2; omega) hS3 (nVals_one _ _) (by unfold maxLen; omega) (by omega) hsz2 ?_)
          intro v3 w3 hO3 hg3
          have hF3 : Fr noB w w3 := hF2.grown hg3 (fun b hb => Or.inr (own_base HO2.out b hb))
          have HO3 : Hid (OwnN w.heap.size w3 v3 (K.take k ++ x :: K.drop k)) := by
            have := hO3
            rw [← nVals_append, List.append_assoc] at this
            unfold OwnN
            rw [List.length_append, List.length_cons, HTl.out.1, HTl.out.2]
            rw [show k + (k - k + 1) = k + 1 + (0) by omega]
            exact this
          obtain ⟨so3, sc3, hv3⟩ := HO3.out.slice
          rw [List.length_append, List.length_cons, HTl.out.1, HTl.out.2] at hv3
          subst hv3
          clear hO3 hg3
          go_wp2_with fail
          go_ret
          exact ⟨_, k, rfl, by omega, HLe.out, HGt.out, HO3.out, hF3⟩
#print axioms put_row
end Go.Proofs.Ytcefochgpijfbaa
