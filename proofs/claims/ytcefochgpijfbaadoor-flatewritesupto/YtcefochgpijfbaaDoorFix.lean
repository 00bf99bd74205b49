/- The contracts of fixedLiteralLengths, newCode, code.put; Fixed. -/
import Derived.Test.YtcefochgpijfbaaDoorFixM
import Derived.Test.YtcefochgpijfbaaDoorCodes
import Derived.Test.YtcefochgpijfbaaDoorPut
import Derived.Test.YtcefochgpijfbaaDoorSto
namespace Go.Proofs.YtcefochgpijfbaaDoor
open Go.RowKit

theorem Tryd.infoII : (Tryd.prog.info? 3).map (fun i => (i.zero, i.size, i.bytes)) = some (some (.int .i64 0), 1, 8) := by kernel_rfl
/-- The lengths so far, noughts behind. -/
def fixTo (k : Nat) : List Nat := (List.range 288).map fun i => if i < k then fixL i else 0
theorem fixTo_zero : fixTo 0 = List.replicate 288 0 := by
  apply List.ext_getElem
  · simp only [fixTo, List.length_map, List.length_range, List.length_replicate]
  · intro i h1 h2
    rw [List.getElem_replicate]
    simp only [fixTo, List.getElem_map, List.getElem_range]
    rw [if_neg (by omega)]
theorem fixTo_end : fixTo 288 = fixLit := by
  apply List.ext_getElem
  · simp [fixTo]
  · intro i h1 h2
    simp [fixTo] at h1
    simp [fixTo, fixLit, h1]
theorem fixTo_set (k : Nat) : (fixTo k).set k (fixL k) = fixTo (k + 1) := by
  apply List.ext_getElem
  · simp [fixTo]
  · intro i h1 h2
    rw [List.getElem_set]
    by_cases e : k = i
    · subst e; simp [fixTo]
    · rw [if_neg e]
      simp only [fixTo, List.getElem_map, List.getElem_range]
      by_cases h : i < k
      · rw [if_pos h, if_pos (by omega)]
      · rw [if_neg h, if_neg (by omega)]
@[simp] theorem fixTo_length (k : Nat) : (fixTo k).length = 288 := by simp [fixTo]

set_option maxRecDepth 100000 in
set_option maxHeartbeats 1600000 in
theorem fixLens_any (w : World) :
    Calls Tryd.prog 31 #[] w fun e w' => ∃ g, e = .returned (.slice (some ⟨g, 0, none⟩) 288 288) ∧ w.heap.size ≤ g ∧ RowN w' g 3 .i64 fixLit ∧ Fr noB w w' := by
  obtain ⟨i0, hi, hz0, hz1, hz2⟩ := info_parts Tryd.infoII
  go_enter Tryd.func31, Tryd.ntmps31
  go_wp2_with (at_make; refine wpList_make_full _ rfl _ _ 66 rfl w.heap.size 3 i0 (.int .i64 0) 1 Tryd.underlying66 hi hz0 hz1 .i64 .i64 288 288 288 rfl rfl rfl rfl (by rw [hz2]; decide) (by decide) (Nat.le_refl _) ?_)
  intro w1 hown1 hg1
  have hF1 : Fr noB w w1 := (Fr.refl noB w).grown hg1 (by simp)
  have hrow : RowN w1 w.heap.size 3 .i64 (fixTo 0) := by rw [fixTo_zero]; exact made_nums hown1
  have HR : Hid (RowN w1 w.heap.size 3 .i64 (fixTo 0)) := hrow
  obtain ⟨g, hg⟩ : ∃ g, w.heap.size = g := ⟨_, rfl⟩
  have HG : Hid (w.heap.size = g) := hg
  rw [hg] at HR ⊢
  have hgl : g < w1.heap.size := lt_of_block HR.out
  clear hown1 hg1 hrow hg
  go_wp2_with fail
  go_loopg [6] 288 (fun gh kv wr => ∃ k : Nat, k ≤ 288 ∧ gh = 288 - k ∧ kv = .int .i64 (k : Int) ∧ RowN wr g 3 .i64 (fixTo k) ∧ Fr noB w wr)
  case atStart => exact ⟨0, by omega, rfl, rfl, HR.out, hF1⟩
  case round =>
    obtain ⟨k, hk, rfl, rfl, hrow, hF⟩ := hrel
    by_cases hlt : k < 288
    · have hcl := hrow.cell k (by simpa using hlt)
      have hfree := freeOf (o := k) (w := wr) (b := g) hrow
      have hset := hrow.set k (fixL k)
      rw [fixTo_set] at hset
      have HS : Hid (RowN (wr.setCell ⟨g, k, none⟩ (.int .i64 ((fixL k : Nat) : Int))) g 3 .i64 (fixTo (k + 1))) := hset
      have hF2 : ∀ v, Fr noB w (wr.setCell ⟨g, k, none⟩ v) := fun v => hF.setCell _ (Or.inr (by show w.heap.size ≤ g; have := HG.out; omega)) v
      have hkI : (k : Int) < 288 := by omega
      have hk0 : (0 : Int) ≤ (k : Int) := by omega
      generalize (fixTo k)[k]'(by simpa using hlt) = y at *
      have HL : Hid (fixL k = if k < 144 then 8 else if k < 256 then 9 else if k < 280 then 7 else 8) := rfl
      clear hset hrow
      by_cases h1 : k < 144
      · have h1I : (k : Int) < 144 := by omega
        have e : fixL k = 8 := by rw [HL.out, if_pos h1]
        rw [e] at HS
        clear e
        go_wp2_with fail
        go_roundg (288 - (k + 1))
        case measure => omega
        case rel => exact ⟨k + 1, by omega, rfl, by go_num, HS.out, hF2 _⟩
      · have h1I : ¬ (k : Int) < 144 := by omega
        by_cases h2 : k < 256
        · have h2I : (k : Int) < 256 := by omega
          have e : fixL k = 9 := by rw [HL.out, if_neg h1, if_pos h2]
          rw [e] at HS
          clear e
          go_wp2_with fail
          go_roundg (288 - (k + 1))
          case measure => omega
          case rel => exact ⟨k + 1, by omega, rfl, by go_num, HS.out, hF2 _⟩
        · have h2I : ¬ (k : Int) < 256 := by omega
          by_cases h3 : k < 280
          · have h3I : (k : Int) < 280 := by omega
            have e : fixL k = 7 := by rw [HL.out, if_neg h1, if_neg h2, if_pos h3]
            rw [e] at HS
            clear e
            go_wp2_with fail
            go_roundg (288 - (k + 1))
            case measure => omega
            case rel => exact ⟨k + 1, by omega, rfl, by go_num, HS.out, hF2 _⟩
          · have h3I : ¬ (k : Int) < 280 := by omega
            have e : fixL k = 8 := by rw [HL.out, if_neg h1, if_neg h2, if_neg h3]
            rw [e] at HS
            clear e
            go_wp2_with fail
            go_roundg (288 - (k + 1))
            case measure => omega
            case rel => exact ⟨k + 1, by omega, rfl, by go_num, HS.out, hF2 _⟩
    · obtain rfl : k = 288 := by omega
      rw [fixTo_end] at hrow
      have HRw : Hid (RowN wr g 3 .i64 fixLit) := hrow
      clear hrow
      go_wp2_with fail
      go_ret
      exact ⟨g, rfl, by have := HG.out; omega, HRw.out, hF⟩
#print axioms fixLens_any
end Go.Proofs.YtcefochgpijfbaaDoor
