/- prefixIsLessThan: its contract. -/
import Derived.Test.YtnklmcmdlobicaaGreatDoorXRsh
namespace Go.Proofs.YtnklmcmdlobicaaGreatDoor
open Go.RowKit
theorem pfl_nil (B : List Nat) : pfl B [] = false := by cases B <;> rfl
set_option maxRecDepth 100000 in
set_option maxHeartbeats 1000000 in
theorem pfl_any (b cap : Nat) (C L E : List Nat) (s : ByteArray) (nd dp : Int) (tr : Bool) (w : World) (hD : DecAt w b C nd dp tr) (hC : DigsC C L) (h9 : ∀ x ∈ L, x ≤ 9) (hs : s.size = E.length) (hE : ∀ i (h : i < s.size) (h2 : i < E.length), s[i].toNat = 48 + E[i]) (hE9 : ∀ x ∈ E, x ≤ 9) (hl : E.length ≤ 100) :
    Calls Tryz.prog 244 #[.slice (some ⟨b, 0, none⟩) L.length cap, .string s] w fun e w' => e = .returned (.bool (pfl L E)) ∧ ∃ m, w' = w.drewN m := by
  have h8 := hC.1
  go_enter Tryz.func244, Tryz.ntmps244
  go_wp2_with fail
  go_loopg [5] E.length (fun gh iv wr => ∃ i m : Nat, gh = E.length - i ∧ i ≤ E.length ∧ iv = .int .i64 (i : Int) ∧ wr = w.drewN m ∧ Hid (pfl (L.drop i) (E.drop i) = pfl L E))
  case atStart => exact ⟨0, 0, rfl, Nat.zero_le _, rfl, rfl, rfl⟩
  case round =>
    obtain ⟨i, m, rfl, hi, rfl, rfl, HP⟩ := hrel
    by_cases h1 : i < E.length
    · have hE1 := drop_cons E i h1
      have h1s : (i : Int) < (s.size : Int) := by omega
      have hsz : i < s.size := by omega
      have hsi := hE i hsz h1
      have hx9 := hE9 _ (List.getElem_mem h1)
      by_cases h2 : i < L.length
      · have hL1 := drop_cons L i h2
        have cr := hD.cell i (by omega)
        rw [hC.2 i h2] at cr
        have hy9 := h9 _ (List.getElem_mem h2)
        have HP2 : Hid ((if L[i] = E[i] then pfl (L.drop (i + 1)) (E.drop (i + 1)) else decide (L[i] < E[i])) = pfl L E) := by
          show _ = _
          rw [← HP.out, hE1, hL1]
          rfl
        obtain ⟨x, hx⟩ : ∃ x, E[i] = x := ⟨_, rfl⟩
        obtain ⟨y, hy⟩ : ∃ y, L[i] = y := ⟨_, rfl⟩
        rw [hx] at hsi hx9 HP2
        rw [hy] at cr hy9 HP2
        obtain ⟨X, hX⟩ : ∃ X, 48 + x = X := ⟨_, rfl⟩
        obtain ⟨Y, hY⟩ : ∃ Y, 48 + y = Y := ⟨_, rfl⟩
        rw [hX] at hsi
        rw [hY] at cr
        clear HP hE1 hL1 hE hE9 h9 hD hC hx hy
        by_cases he : y = x
        · subst he
          have HP3 : Hid (pfl (L.drop (i + 1)) (E.drop (i + 1)) = pfl L E) := by show _ = _; rw [← HP2.out, if_pos rfl]
          have hXY : Y = X := by omega
          subst hXY
          clear HP2 hX hY
          go_wp2_with fail
          go_region
          go_wp2_with fail
          go_roundg (E.length - (i + 1))
          case measure => omega
          case rel => exact ⟨i + 1, _, rfl, by omega, by go_num, rfl, HP3⟩
        · have HP3 : Hid (decide (y < x) = pfl L E) := by show _ = _; rw [← HP2.out, if_neg he]
          have hne : ¬ (Y : Int) = (X : Int) := by omega
          have hneb : ((Y : Int) != (X : Int)) = true := by rw [bne_iff_ne]; exact hne
          have HLT : Hid (decide (Y < X) = decide (y < x)) := by show _ = _; exact decide_eq_decide.mpr (by omega)
          clear HP2 hX hY
          go_wp2_with fail
          go_region
          go_wp2_with fail
          go_region
          go_wp2_with fail
          go_ret
          rw [← HP3.out, ← HLT.out]
          exact ⟨rfl, _, rfl⟩
      · have HP2 : Hid (pfl L E = true) := by
          show _ = _
          rw [← HP.out, hE1, List.drop_of_length_le (show L.length ≤ i by omega)]
          rfl
        have h2' : (L.length : Int) ≤ (i : Int) := by omega
        clear HP hE1 hE hE9 h9 hD hC
        go_wp2_with fail
        go_ret
        rw [HP2.out]
        exact ⟨rfl, m, rfl⟩
    · have HP2 : Hid (pfl L E = false) := by
        show _ = _
        rw [← HP.out, List.drop_of_length_le (show E.length ≤ i by omega), pfl_nil]
      have h1s : ¬ (i : Int) < (s.size : Int) := by omega
      clear HP hE hE9 h9 hD hC
      go_wp2_with fail
      go_ret
      rw [HP2.out]
      exact ⟨rfl, m, rfl⟩
#print axioms pfl_any
end Go.Proofs.YtnklmcmdlobicaaGreatDoor
