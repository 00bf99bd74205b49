/- The contracts of newCode and code.put at the fixed code; Fixed. -/
import Derived.Test.YtcefochgpijfbaaDoorFix
namespace Go.Proofs.YtcefochgpijfbaaDoor
open Go.RowKit

theorem RowN.wr {w w' : World} {wb g : Nat} {e : TypeId} {k : IntKind} {C : List Nat} (h : RowN w g e k C) (he : e ≠ 5) (hg : g ≠ wb) (hF : Fr (wS w wb) w w') : RowN w' g e k C :=
  h.keep hF (fun hs => by
    rcases hs with e' | ⟨_, cs, fr, e'⟩
    · exact hg e'
    · unfold RowN at h
      rw [h] at e'
      simp at e'
      exact he e'.2.1)

set_option maxRecDepth 100000 in
set_option maxHeartbeats 800000 in
theorem newCode_fix (g : Nat) (w : World) (h : RowN w g 3 .i64 fixLit) :
    Calls Tryd.prog 30 #[.slice (some ⟨g, 0, none⟩) 288 288] w fun e w' => ∃ g2, e = .returned (.agg #[.slice (some ⟨g, 0, none⟩) 288 288, .slice (some ⟨g2, 0, none⟩) 288 288]) ∧ w.heap.size ≤ g2 ∧ RowN w' g2 76 .u32 (codesN fixLit) ∧ Fr noB w w' := by
  have hns : ∀ w', Fr noB w w' → Ns .i64 w' (.slice (some ⟨g, 0, none⟩) 288 288) (up fixLit) := fun w' hw => by
    have := (h.keep hw id).ns (by rw [fixLit_length]; decide)
    rw [fixLit_length] at this
    exact this
  have HC := codes_good (.slice (some ⟨g, 0, none⟩) 288 288) fixLit (w.alloc (.cells #[.slice none 0 0, .slice none 0 0] 69 (0, 0))) (hns _ ((Fr.refl noB w).alloc _)) fix_code
  rw [fixLit_length] at HC
  clear hns
  go_enter Tryd.func30, Tryd.ntmps30
  go_wp2_with fail
  refine HC.mono ?_
  rintro e w1 ⟨g2, rfl, hg2, hrow, hF1⟩
  have hb : w1.heap[w.heap.size]? = some (.cells #[.slice none 0 0, .slice none 0 0] 69 (0, 0)) := hF1.obj (heap_alloc_new w _) id
  have c0 := cellOf (o := 0) hb rfl
  have c1 := cellOf (o := 1) hb rfl
  have f0 := freeOf (o := 0) hb
  have f1 := freeOf (o := 1) hb
  have HRw : Hid (RowN w1 g2 76 .u32 (codesN fixLit)) := hrow
  have hFw : Fr noB w w1 := ((Fr.refl noB w).alloc _).trans hF1
  have hne : g2 ≠ w.heap.size := by simp at hg2; omega
  have hg2' : w.heap.size ≤ g2 := by simp at hg2; omega
  clear hrow HC
  go_wp2_with fail
  refine bodyPost_ret (v := .agg #[.slice (some ⟨g, 0, none⟩) 288 288, .slice (some ⟨g2, 0, none⟩) 288 288]) ?_ rfl ⟨g2, rfl, hg2', ?_, ?_⟩
  · simp [results, Tryd.results30, go_sem, c0, c1]
  · exact (HRw.out.set_ne hne _ _).set_ne hne _ _
  · exact (hFw.setCell _ (Or.inr (Nat.le_refl _)) _).setCell _ (Or.inr (Nat.le_refl _)) _

set_option maxRecDepth 100000 in
set_option maxHeartbeats 800000 in
theorem codePut_fix (wb g g2 s : Nat) (l : List Bool) (w : World) (h : WrIs w wb l) (h1 : RowN w g 3 .i64 fixLit) (h2 : RowN w g2 76 .u32 (codesN fixLit)) (hg : g ≠ wb) (hg2 : g2 ≠ wb) (hs : s < 257) (hl : l.length ≤ 1125899906841000) :
    Calls Tryd.prog 32 #[.agg #[.slice (some ⟨g, 0, none⟩) 288 288, .slice (some ⟨g2, 0, none⟩) 288 288], .pointer (some ⟨wb, 0, none⟩), .int .i64 (s : Int)] w fun e w' => e = .returned (.tuple #[]) ∧ WrIs w' wb (l ++ bitsN (revN (codeN fixLit s) (fixL s)) (fixL s)) ∧ Fr (wS w wb) w w' := by
  have hL : fixL s = 8 ∨ fixL s = 9 ∨ fixL s = 7 := by unfold fixL; split <;> (try split) <;> (try split) <;> omega
  have hc : codeN fixLit s < 2 ^ fixL s := by
    have e := fix_codes ⟨s, hs⟩
    simp only at e
    rw [e]
    unfold fixL
    split
    · omega
    · split
      · omega
      · exact Nat.pow_pos (by decide)
  have hk : ∀ w', Fr (wS (w.alloc (.cells #[.slice (some ⟨g, 0, none⟩) 288 288, .slice (some ⟨g2, 0, none⟩) 288 288] 69 (0, 0))) wb) (w.alloc (.cells #[.slice (some ⟨g, 0, none⟩) 288 288, .slice (some ⟨g2, 0, none⟩) 288 288] 69 (0, 0))) w' → Ns .i64 w' (.slice (some ⟨g, 0, none⟩) 288 288) (up fixLit) ∧ Ns .u32 w' (.slice (some ⟨g2, 0, none⟩) 288 288) (up (codesN fixLit)) := fun w' hw => by
    have r1 := ((h1.keep ((Fr.refl noB w).alloc (.cells #[.slice (some ⟨g, 0, none⟩) 288 288, .slice (some ⟨g2, 0, none⟩) 288 288] 69 (0, 0))) id).wr (by decide) hg hw).ns (by rw [fixLit_length]; decide)
    have r2 := ((h2.keep ((Fr.refl noB w).alloc (.cells #[.slice (some ⟨g, 0, none⟩) 288 288, .slice (some ⟨g2, 0, none⟩) 288 288] 69 (0, 0))) id).wr (by decide) hg2 hw).ns (by rw [codesN_length, fixLit_length]; decide)
    rw [fixLit_length] at r1
    rw [codesN_length, fixLit_length] at r2
    exact ⟨r1, r2⟩
  have HP := hput_good wb (.slice (some ⟨g, 0, none⟩) 288 288) (.slice (some ⟨g2, 0, none⟩) 288 288) (up fixLit) (up (codesN fixLit)) l s (fixL s) (codeN fixLit s) (w.alloc (.cells #[.slice (some ⟨g, 0, none⟩) 288 288, .slice (some ⟨g2, 0, none⟩) 288 288] 69 (0, 0))) (h.stay ((Fr.refl noB w).alloc _) (fun _ _ h => h)) hk
    (by simp) (by simp; omega) (by rw [up_get fixLit s (by rw [fixLit_length]; omega), fixLit_get]) (by rw [up_get (codesN fixLit) s (by rw [codesN_length, fixLit_length]; omega), codesN_get _ _ (by rw [fixLit_length]; omega)]) (by omega) (by omega) hc (by omega)
  have HF : Hid (∀ w', Fr (wS (w.alloc (.cells #[.slice (some ⟨g, 0, none⟩) 288 288, .slice (some ⟨g2, 0, none⟩) 288 288] 69 (0, 0))) wb) (w.alloc (.cells #[.slice (some ⟨g, 0, none⟩) 288 288, .slice (some ⟨g2, 0, none⟩) 288 288] 69 (0, 0))) w' → Fr (wS w wb) w w') := fun w' hw => wtrans ((Fr.refl (wS w wb) w).alloc _) hw
  clear hk hL hc
  go_enter Tryd.func32, Tryd.ntmps32
  go_wp2_with fail
  refine HP.mono ?_
  rintro e w1 ⟨rfl, hW, hF1⟩
  go_wp2_with fail
  go_end0
  exact ⟨rfl, hW, HF.out w1 hF1⟩
#print axioms newCode_fix
#print axioms codePut_fix
end Go.Proofs.YtcefochgpijfbaaDoor
