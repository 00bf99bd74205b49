/- The contract of the document's merged. -/
import Derived.Test.YtcefochgpijfbaaRefL
namespace Go.Proofs.Ytcefochgpijfbaa
open Go.RowKit
attribute [local go_sem ↓] Go.wp_at_zero Go.wp_at_succ

theorem OwnN.snoc {base : Nat} {w : World} {v : Value} {K : List Nat} {x : Nat} (h : w.ownsRow base 3 1 v (K.length + 1) (nVals .i64 K ++ [.int .i64 (x : Int)])) : OwnN base w v (K ++ [x]) := by
  unfold OwnN
  rw [nVals_append, List.length_append]
  exact h

set_option maxRecDepth 100000 in
set_option maxHeartbeats 1600000 in
theorem refmerged_any (ga ca gb cb Na Nb : Nat) (A B : List Nat) (w : World) (hA : ∀ i (h : i < A.length), w.cell? ⟨ga, i, none⟩ = some (.int .i64 ((A[i] : Nat) : Int))) (hB : ∀ i (h : i < B.length), w.cell? ⟨gb, i, none⟩ = some (.int .i64 ((B[i] : Nat) : Int))) (hNa : A.length = Na) (hNb : B.length = Nb) (hla : Na ≤ 100000) (hlb : Nb ≤ 100000) (hca : Na ≤ ca) (hcb : Nb ≤ cb) (hca2 : ca ≤ maxLen) (hcb2 : cb ≤ maxLen) (hga : ga < w.heap.size) (hgb : gb < w.heap.size) :
    Calls Try.prog 17 #[.slice (some ⟨ga, 0, none⟩) Na ca, .slice (some ⟨gb, 0, none⟩) Nb cb] w fun e w' => ∃ lv, e = .returned lv ∧ OwnN w.heap.size w' lv (mergeW A B) ∧ Fr noB w w' := by
  obtain ⟨i0, hi, hz0, hz1, hz2⟩ := info_parts Try.infoI
  have HN : Hid (A.length = Na ∧ B.length = Nb) := ⟨hNa, hNb⟩
  have HCa : Hid (∀ w', Fr noB w w' → ∀ i (h : i < A.length), w'.cell? ⟨ga, i, none⟩ = some (.int .i64 ((A[i] : Nat) : Int))) := fun w' hw i h => (hw.cell (a := ⟨ga, i, none⟩) hga id).trans (hA i h)
  have HCb : Hid (∀ w', Fr noB w w' → ∀ i (h : i < B.length), w'.cell? ⟨gb, i, none⟩ = some (.int .i64 ((B[i] : Nat) : Int))) := fun w' hw i h => (hw.cell (a := ⟨gb, i, none⟩) hgb id).trans (hB i h)
  unfold maxLen at hca2 hcb2
  clear hA hB hNa hNb
  go_enter Try.func17, Try.ntmps17
  go_wp2_with fail
  go_loopg [5, 6, 7] Na (fun gh lv iv kv wr => ∃ (k i : Nat) (E : List Nat), k ≤ Na ∧ i ≤ Nb ∧ gh = Na - k ∧ kv = .int .i64 (k : Int) ∧ iv = .int .i64 (i : Int) ∧ OwnN w.heap.size wr lv E ∧ Hid (E.length = k + i ∧ E ++ mergeW (A.drop k) (B.drop i) = mergeW A B) ∧ Fr noB w wr)
  case atStart => exact ⟨0, 0, [], by omega, by omega, rfl, rfl, rfl, OwnN.nil _ _, ⟨rfl, rfl⟩, Fr.refl _ _⟩
  case round =>
    obtain ⟨k, i, E, hk, hiN, rfl, rfl, rfl, hO, HX, hF⟩ := hrel
    obtain ⟨so, sc, rfl⟩ := hO.slice
    have HO : Hid (OwnN w.heap.size wr (.slice so E.length sc) E) := hO
    clear hO
    by_cases hlt : k < Na
    · have hkA : k < A.length := by have := HN.out; omega
      have hkI : (k : Int) < (Na : Int) := by omega
      go_wp2_with fail
      go_loopg [5, 6] (Nb - i) (fun gh lv iv wr => ∃ (i : Nat) (E : List Nat), i ≤ Nb ∧ gh = Nb - i ∧ iv = .int .i64 (i : Int) ∧ OwnN w.heap.size wr lv E ∧ Hid (E.length = k + i ∧ E ++ mergeW (A.drop k) (B.drop i) = mergeW A B) ∧ Fr noB w wr)
      case atStart => exact ⟨i, E, hiN, rfl, rfl, HO.out, HX, hF⟩
      case round =>
        clear HO HX hF hiN
        obtain ⟨i, E, hiN, rfl, rfl, hO, HX, hF⟩ := hrel
        obtain ⟨so, sc, rfl⟩ := hO.slice
        have HO : Hid (OwnN w.heap.size wr (.slice so E.length sc) E) := hO
        clear hO
        have hca' := HCa.out wr hF k hkA
        have hsz := hF.size
        have hEl : E.length ≤ 200000 := by have := HX.out.1; omega
        by_cases hgo : ∃ h : i < B.length, B[i] < A[k]
        · obtain ⟨hiB, hlt2⟩ := hgo
          have hcb' := HCb.out wr hF i hiB
          have HX2 : Hid ((E ++ [B[i]]).length = k + (i + 1) ∧ (E ++ [B[i]]) ++ mergeW (A.drop k) (B.drop (i + 1)) = mergeW A B) := by
            refine ⟨by simp; have := HX.out.1; omega, ?_⟩
            rw [← HX.out.2, mergeW_step A B k i hkA hiB hlt2, List.append_assoc]
            rfl
          have hiN2 : i < Nb := by have := HN.out; omega
          generalize B[i] = y at *
          generalize A[k] = z at *
          have t1 : decide ((i : Int) < (Nb : Int)) = true := by simp; omega
          have t2 : (i : Int) < (Nb : Int) := by omega
          have t3 : decide (i < Nb) = true := by simp; omega
          have t4 : (y : Int) < (z : Int) := by omega
          have t5 : (0 : Int) ≤ (i : Int) := by omega
          have t6 : (0 : Int) ≤ (k : Int) := by omega
          go_wp2_with fail
          go_quiet (fail)
          go_wp2_with (at_builtin; refine wpList_append_src rfl (.tmp 29) (.tmp 34) 22 rfl w.heap.size 3 i0 (.int .i64 0) 8 Try.underlying22 hi hz0 hz1 hz2 rfl _ E.length (nVals .i64 E) rfl ((HO.out.keep ((Fr.refl noB wr).drewN _) (fun _ _ h => h)).alloc _) (some ⟨wr.heap.size, 0, none⟩) 1 1 rfl (by simp) (Nat.le_refl _) [.int .i64 (y : Int)] rfl (one_src (by simp) _ _) (by simp [Value.oneCell']) (by unfold maxLen; omega) (by omega) (by simp; omega) ?_)
          intro v1 w1 hO1 hg1
          have hF1 : Fr noB w w1 := ((hF.drewN _).alloc _).grown hg1 (fun b hb => Or.inr (own_base HO.out b hb))
          have HO1 : Hid (OwnN w.heap.size w1 v1 (E ++ [y])) := OwnN.snoc hO1
          obtain ⟨so1, sc1, hv1⟩ := HO1.out.slice
          subst hv1
          clear hO1 hg1
          go_wp2_with fail
          go_roundg (Nb - (i + 1))
          case measure => omega
          case rel => exact ⟨i + 1, _, by omega, rfl, by go_num, HO1.out, HX2, hF1⟩
        · have HX2 : Hid ((E ++ [A[k]]).length = (k + 1) + i ∧ (E ++ [A[k]]) ++ mergeW (A.drop (k + 1)) (B.drop i) = mergeW A B) := by
            refine ⟨by simp; have := HX.out.1; omega, ?_⟩
            rw [← HX.out.2, mergeW_take A B k i hkA (fun h h' => hgo ⟨h, h'⟩), List.append_assoc]
            rfl
          have t6 : (0 : Int) ≤ (k : Int) := by omega
          have t5 : (0 : Int) ≤ (i : Int) := by omega
          by_cases hiN2 : i < Nb
          · have hiB : i < B.length := by have := HN.out; omega
            have hcb' := HCb.out wr hF i hiB
            have hnl : ¬ B[i] < A[k] := fun h => hgo ⟨hiB, h⟩
            clear hgo
            generalize B[i] = y at *
            generalize A[k] = z at *
            have t1 : decide ((i : Int) < (Nb : Int)) = true := by simp; omega
            have t2 : (i : Int) < (Nb : Int) := by omega
            have t3 : decide (i < Nb) = true := by simp; omega
            have t4 : ¬ (y : Int) < (z : Int) := by omega
            go_wp2_with fail
            go_quiet (fail)
            go_wp2_with (at_builtin; refine wpList_append_src rfl (.tmp 38) (.tmp 43) 22 rfl w.heap.size 3 i0 (.int .i64 0) 8 Try.underlying22 hi hz0 hz1 hz2 rfl _ E.length (nVals .i64 E) rfl ((HO.out.keep ((Fr.refl noB wr).drewN _) (fun _ _ h => h)).alloc _) (some ⟨wr.heap.size, 0, none⟩) 1 1 rfl (by simp) (Nat.le_refl _) [.int .i64 (z : Int)] rfl (one_src (by simp) _ _) (by simp [Value.oneCell']) (by unfold maxLen; omega) (by omega) (by simp; omega) ?_)
            intro v1 w1 hO1 hg1
            have hF1 : Fr noB w w1 := ((hF.drewN _).alloc _).grown hg1 (fun b hb => Or.inr (own_base HO.out b hb))
            have HO1 : Hid (OwnN w.heap.size w1 v1 (E ++ [z])) := OwnN.snoc hO1
            obtain ⟨so1, sc1, hv1⟩ := HO1.out.slice
            subst hv1
            clear hO1 hg1
            go_wp2_with fail
            go_roundg (Na - (k + 1))
            case measure => omega
            case rel => exact ⟨k + 1, i, _, by omega, by omega, rfl, by go_num, rfl, HO1.out, HX2, hF1⟩
          · clear hgo
            generalize A[k] = z at *
            have t1 : decide ((i : Int) < (Nb : Int)) = false := by simp; omega
            have t2 : ¬ (i : Int) < (Nb : Int) := by omega
            have t3 : decide (i < Nb) = false := by simp; omega
            go_wp2_with fail
            go_quiet (fail)
            go_wp2_with (at_builtin; refine wpList_append_src rfl (.tmp 38) (.tmp 43) 22 rfl w.heap.size 3 i0 (.int .i64 0) 8 Try.underlying22 hi hz0 hz1 hz2 rfl _ E.length (nVals .i64 E) rfl ((HO.out.keep ((Fr.refl noB wr).drewN _) (fun _ _ h => h)).alloc _) (some ⟨wr.heap.size, 0, none⟩) 1 1 rfl (by simp) (Nat.le_refl _) [.int .i64 (z : Int)] rfl (one_src (by simp) _ _) (by simp [Value.oneCell']) (by unfold maxLen; omega) (by omega) (by simp; omega) ?_)
            intro v1 w1 hO1 hg1
            have hF1 : Fr noB w w1 := ((hF.drewN _).alloc _).grown hg1 (fun b hb => Or.inr (own_base HO.out b hb))
            have HO1 : Hid (OwnN w.heap.size w1 v1 (E ++ [z])) := OwnN.snoc hO1
            obtain ⟨so1, sc1, hv1⟩ := HO1.out.slice
            subst hv1
            clear hO1 hg1
            go_wp2_with fail
            go_roundg (Na - (k + 1))
            case measure => omega
            case rel => exact ⟨k + 1, i, _, by omega, by omega, rfl, by go_num, rfl, HO1.out, HX2, hF1⟩
    · have hkN : k = Na := by omega
      have hkI : ¬ (k : Int) < (Na : Int) := by omega
      have HE : Hid (E ++ B.drop i = mergeW A B) := by
        have := HX.out.2
        rw [List.drop_of_length_le (by have := HN.out; omega)] at this
        have h' : E ++ B.drop i = mergeW A B := by simpa [mergeW] using this
        exact h'
      have hsz := hF.size
      have hEl : E.length ≤ 200000 := by have := HX.out.1; omega
      have HTl : Hid ((B.drop i).length = Nb - i) := by
        have := HN.out
        show (B.drop i).length = Nb - i
        rw [List.length_drop]
        omega
      have i1 : (0 : Int) ≤ (i : Int) := by omega
      have i2 : (i : Int) ≤ (Nb : Int) := by omega
      have i3 : (Nb : Int) ≤ (cb : Int) := by omega
      have HCb' : Hid _ := HCb.out wr hF
      by_cases hcz : cb - i = 0
      · have hz' : Nb - i = 0 := by omega
        have hS3 := srcN HCb'.out i 0 (fun h => by have := HN.out; omega)
        clear hkN
        go_wp2_with (at_builtin; refine wpList_append_src rfl (.tmp 45) (.tmp 48) 22 rfl w.heap.size 3 i0 (.int .i64 0) 8 Try.underlying22 hi hz0 hz1 hz2 rfl _ E.length (nVals .i64 E) rfl HO.out (some ⟨gb, 0, none⟩) 0 0 rfl (by simp) (by omega) (nVals .i64 (B.drop i)) (by simp only [nVals, List.length_map]; rw [HTl.out]; exact hz') hS3 (nVals_one _ _) (by unfold maxLen; omega) (by omega) hsz ?_)
        intro v1 w1 hO1 hg1
        have hF1 : Fr noB w w1 := hF.grown hg1 (fun b hb => Or.inr (own_base HO.out b hb))
        have HO1 : Hid (OwnN w.heap.size w1 v1 (mergeW A B)) := by
          rw [← HE.out]
          unfold OwnN
          rw [nVals_append, List.length_append, HTl.out, hz']
          exact hO1
        obtain ⟨so1, sc1, hv1⟩ := HO1.out.slice
        subst hv1
        clear hO1 hg1
        go_wp2_with fail
        go_ret
        exact ⟨_, rfl, HO1.out, hF1⟩
      · have hS3 := srcN HCb'.out i i (fun _ => rfl)
        clear hkN
        go_wp2_with (at_builtin; refine wpList_append_src rfl (.tmp 45) (.tmp 48) 22 rfl w.heap.size 3 i0 (.int .i64 0) 8 Try.underlying22 hi hz0 hz1 hz2 rfl _ E.length (nVals .i64 E) rfl HO.out (some ⟨gb, i, none⟩) (Nb - i) (cb - i) rfl (by simp) (by omega) (nVals .i64 (B.drop i)) (by simp only [nVals, List.length_map]; exact HTl.out) hS3 (nVals_one _ _) (by unfold maxLen; omega) (by omega) hsz ?_)
        intro v1 w1 hO1 hg1
        have hF1 : Fr noB w w1 := hF.grown hg1 (fun b hb => Or.inr (own_base HO.out b hb))
        have HO1 : Hid (OwnN w.heap.size w1 v1 (mergeW A B)) := by
          rw [← HE.out]
          unfold OwnN
          rw [nVals_append, List.length_append, HTl.out]
          exact hO1
        obtain ⟨so1, sc1, hv1⟩ := HO1.out.slice
        subst hv1
        clear hO1 hg1
        go_wp2_with fail
        go_ret
        exact ⟨_, rfl, HO1.out, hF1⟩
#print axioms refmerged_any
end Go.Proofs.Ytcefochgpijfbaa
