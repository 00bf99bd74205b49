/- trim of a decimal: its contract. -/
import Derived.Test.YtnklmcmdlobicaaGreatDoorXMem
import Derived.Deep.LoopGhost
import Derived.Deep.RegionHeld3
namespace Go.Proofs.YtnklmcmdlobicaaGreatDoor
open Go.RowKit

/-- The first nd bytes of C are the digits X. -/
def DigsC (C X : List Nat) : Prop := X.length ≤ 800 ∧ ∀ i (h : i < X.length), C.getD i 0 = 48 + X[i]
theorem DigsC.take {C X : List Nat} (h : DigsC C X) (m : Nat) : DigsC C (X.take m) := by
  refine ⟨by rw [List.length_take]; have := h.1; omega, fun i hi => ?_⟩
  rw [List.length_take] at hi
  rw [h.2 i (by omega), List.getElem_take]
set_option maxHeartbeats 1000000 in
theorem dtrim_any (b : Nat) (C X : List Nat) (dp : Int) (tr : Bool) (w : World) (hD : DecAt w b C (X.length : Int) dp tr) (hX : DigsC C X) (h9 : ∀ x ∈ X, x ≤ 9) :
    Calls Tryz.prog 222 #[.pointer (some ⟨b, 0, none⟩)] w fun e w' => e = .returned (.tuple #[]) ∧ DecIs w' b (trimP X dp).1 (trimP X dp).2 ∧ Fr (oneB b) w w' := by
  have h8 := hX.1
  go_enter Tryz.func222, Tryz.ntmps222
  go_wp2_with fail
  go_loopg [] X.length (fun gh wr => gh ≤ X.length ∧ DecAt wr b C (gh : Int) dp tr ∧ Fr (oneB b) w wr ∧ Hid (trimD (X.take gh) = trimD X))
  case atStart => exact ⟨Nat.le_refl _, hD, Fr.refl _ _, by show trimD (X.take X.length) = _; rw [List.take_length]⟩
  case round =>
    obtain ⟨hg, hD1, hF1, HZ⟩ := hrel
    have c8 := hD1.nd
    have f8 := hD1.free 800
    have c1 := hD1.dp
    have f1 := hD1.free 801
    cases gk with
    | zero =>
      have HZ2 : Hid (trimD X = []) := by show trimD X = []; rw [← HZ.out]; rfl
      have hD2 := hD1.setdp 0
      have hF2 : Fr (oneB b) w (wr.setCell ⟨b, 801, none⟩ (.int .i64 0)) := hF1.setOne _ _
      have HD2 : Hid _ := hD2
      have HF2 : Hid _ := hF2
      clear hD hD1 hD2 hF1 hF2 HZ
      go_wp2
      go_region
      go_wp2
      go_end0
      have e : trimP X dp = ([], 0) := by unfold trimP; rw [HZ2.out]; rfl
      rw [e]
      exact ⟨rfl, ⟨C, tr, HD2.out, by simp, fun i hi => absurd hi (by simp)⟩, HF2.out.drew⟩
    | succ m =>
      have hm : m < X.length := by omega
      have cm := hD1.cell m (by omega)
      rw [hX.2 m hm] at cm
      have hx9 := h9 _ (List.getElem_mem hm)
      have HZ1 : Hid (trimD (X.take m ++ [X[m]]) = trimD X) := by show _ = _; rw [← List.take_succ_eq_append_getElem hm]; exact HZ.out
      obtain ⟨x, hx⟩ : ∃ x, X[m] = x := ⟨_, rfl⟩
      rw [hx] at cm hx9 HZ1
      have e1 : ((m + 1 : Nat) : Int) - 1 = (m : Int) := by omega
      by_cases h0 : x = 0
      · subst h0
        have HZ2 : Hid (trimD (X.take m) = trimD X) := by show _ = _; rw [← HZ1.out, trimD_snoc_zero]
        have hD2 := hD1.setnd (m : Int)
        have hF2 : Fr (oneB b) w (wr.setCell ⟨b, 800, none⟩ (.int .i64 (m : Int))) := hF1.setOne _ _
        have HD2 : Hid _ := hD2
        have HF2 : Hid _ := hF2
        clear hD hD1 hD2 hF1 hF2 HZ HZ1 hx
        go_wp2
        go_region
        go_wp2
        go_roundg m
        case measure => omega
        case rel => exact ⟨by omega, HD2.out, HF2.out.drew, HZ2⟩
      · have HZ2 : Hid (trimD X = X.take (m + 1)) := by show _ = _; rw [← HZ1.out, trimD_snoc _ _ h0, ← hx, ← List.take_succ_eq_append_getElem hm]
        have hne : ¬ ((48 + x : Nat) : Int) = 48 := by omega
        have HD2 : Hid _ := hD1
        have HF2 : Hid _ := hF1
        clear hD hD1 hF1 HZ HZ1 hx
        go_wp2
        go_region
        go_wp2
        go_end0
        have e : trimP X dp = (X.take (m + 1), dp) := by
          unfold trimP
          rw [HZ2.out, if_neg]
          intro h
          have := congrArg List.length h
          rw [List.length_take, List.length_nil] at this
          omega
        have hl : (X.take (m + 1)).length = m + 1 := by rw [List.length_take]; omega
        rw [e]
        exact ⟨rfl, ⟨C, tr, by rw [hl]; exact HD2.out, by rw [hl]; omega, (hX.take (m + 1)).2⟩, HF2.out.drew⟩
end Go.Proofs.YtnklmcmdlobicaaGreatDoor
