/- The contract of the document's well. -/
import Derived.Test.YtlhikoomghbnjaaGreatDoorZScn
namespace Go.Proofs.YtlhikoomghbnjaaGreatDoor
open Go.RowKit
attribute [local go_sem ↓] Go.wp_at_zero Go.wp_at_succ

theorem byN_get (s : ByteArray) (k : Nat) (h : k < s.size) : (s[k]'h).toNat = byN s k := by
  unfold byN
  show (s.data[k]'h).toNat = (s.data[k]!).toNat
  rw [getElem!_pos s.data k h]
set_option maxRecDepth 100000 in
set_option maxHeartbeats 4000000 in
theorem well_two (s : ByteArray) (p c R : Nat) (w : World) (hp : p < s.size) (hs : s.size ≤ 1024) (hb0 : s[p].toNat = c) (hc : 194 ≤ c ∧ c < 224)
    (HU : Hid (R = if s.size < p + 2 then 0 else if ∀ k, k < 2 → 1 ≤ k → okW 128 191 k (byN s (p + k)) then 2 else 0)) :
    Calls Tryz.prog 22 #[.string s, .int .i64 (p : Int)] w fun e w' => e = .returned (.int .i64 ((R : Nat) : Int)) ∧ Fr noB w w' := by
  have g1 : decide ((c : Int) < 128) = false := by simp; omega
  have k1 : decide ((c : Int) ≤ 223) = true := by simp; omega
  by_cases hl : s.size < p + 2
  · have HX : Hid (R = 0) := by
      have := HU.out
      rw [if_pos hl] at this
      exact this
    have hlI : (s.size : Int) < (p : Int) + 2 := by omega
    clear HU
    go_enter Tryz.func22, Tryz.ntmps22
    go_wp2_with fail
    go_ret
    rw [HX.out]
    exact ⟨rfl, Fr.refl _ _⟩
  · have HX : Hid (R = if ∀ k, k < 2 → 1 ≤ k → okW 128 191 k (byN s (p + k)) then 2 else 0) := by
      have := HU.out
      rw [if_neg hl] at this
      exact this
    have HZ : Hid (∀ k, 1 ≤ k → k < 2 → ¬ okW 128 191 k (byN s (p + k)) → R = 0) := fun k h1 h2 h3 => by
      rw [HX.out, if_neg (fun h => h3 (h k h2 h1))]
    have HY : Hid ((∀ j, 1 ≤ j → j < 2 → okW 128 191 j (byN s (p + j))) → R = 2) := fun h => by
      rw [HX.out, if_pos (fun k h1 h2 => h k h2 h1)]
    have hlI : (p : Int) + 2 ≤ (s.size : Int) := by omega
    clear HU HX
    go_enter Tryz.func22, Tryz.ntmps22
    go_wp2_with fail
    go_loopw [9] (fun i wr => ∃ k : Nat, 1 ≤ k ∧ k ≤ 2 ∧ i = .int .i64 (k : Int) ∧ wr = w ∧ Hid (∀ j, 1 ≤ j → j < k → okW 128 191 j (byN s (p + j)))) (fun i _ => 2 - (intOf i).toNat)
    case atStart => exact ⟨1, by decide, by decide, rfl, rfl, fun j h1 h2 => by omega⟩
    case round =>
      obtain ⟨k, hk1, hk2, rfl, rfl, HK⟩ := hrel
      by_cases hkn : k < 2
      · have hkI : (k : Int) < 2 := by omega
        have hpk : p + k < s.size := by omega
        have hbk := byN_get s (p + k) hpk
        have hxl := byN_lt s (p + k)
        have HZ2 : Hid (¬ okW 128 191 k (byN s (p + k)) → R = 0) := HZ.out k hk1 hkn
        have HK2 : Hid (okW 128 191 k (byN s (p + k)) → ∀ j, 1 ≤ j → j < k + 1 → okW 128 191 j (byN s (p + j))) := fun ho j h1 h2 => by
          rcases Nat.lt_or_ge j k with h | h
          · exact HK.out j h1 h
          · obtain rfl : j = k := by omega
            exact ho
        generalize byN s (p + k) = x at *
        clear HK HZ HY
        go_wp2_with fail
        all_goals first
          | (go_ret; rw [HZ2.out (by unfold okW; omega)]; exact ⟨rfl, Fr.refl _ _⟩)
          | (go_roundw; (case rel => exact ⟨k + 1, by omega, by omega, by go_num, (by first | rfl | trivial), HK2.out (by unfold okW; omega)⟩); (case measure => simp [intOf]; omega))
      · obtain rfl : k = 2 := by omega
        have HR : Hid (R = 2) := HY.out HK.out
        clear HZ HY HK
        go_wp2_with fail
        go_ret
        rw [HR.out]
        exact ⟨rfl, Fr.refl _ _⟩
set_option maxRecDepth 100000 in
set_option maxHeartbeats 4000000 in
theorem well_E0 (s : ByteArray) (p c R : Nat) (w : World) (hp : p < s.size) (hs : s.size ≤ 1024) (hb0 : s[p].toNat = c) (hc : c = 224)
    (HU : Hid (R = if s.size < p + 3 then 0 else if ∀ k, k < 3 → 1 ≤ k → okW 160 191 k (byN s (p + k)) then 3 else 0)) :
    Calls Tryz.prog 22 #[.string s, .int .i64 (p : Int)] w fun e w' => e = .returned (.int .i64 ((R : Nat) : Int)) ∧ Fr noB w w' := by
  have hcI : (c : Int) = 224 := by omega
  have g2 : decide ((c : Int) < 128) = false := by simp; omega
  have g3 : decide ((c : Int) ≤ 223) = false := by simp; omega
  by_cases hl : s.size < p + 3
  · have HX : Hid (R = 0) := by
      have := HU.out
      rw [if_pos hl] at this
      exact this
    have hlI : (s.size : Int) < (p : Int) + 3 := by omega
    clear HU
    go_enter Tryz.func22, Tryz.ntmps22
    go_wp2_with fail
    go_ret
    rw [HX.out]
    exact ⟨rfl, Fr.refl _ _⟩
  · have HX : Hid (R = if ∀ k, k < 3 → 1 ≤ k → okW 160 191 k (byN s (p + k)) then 3 else 0) := by
      have := HU.out
      rw [if_neg hl] at this
      exact this
    have HZ : Hid (∀ k, 1 ≤ k → k < 3 → ¬ okW 160 191 k (byN s (p + k)) → R = 0) := fun k h1 h2 h3 => by
      rw [HX.out, if_neg (fun h => h3 (h k h2 h1))]
    have HY : Hid ((∀ j, 1 ≤ j → j < 3 → okW 160 191 j (byN s (p + j))) → R = 3) := fun h => by
      rw [HX.out, if_pos (fun k h1 h2 => h k h2 h1)]
    have hlI : (p : Int) + 3 ≤ (s.size : Int) := by omega
    clear HU HX
    go_enter Tryz.func22, Tryz.ntmps22
    go_wp2_with fail
    go_loopw [9] (fun i wr => ∃ k : Nat, 1 ≤ k ∧ k ≤ 3 ∧ i = .int .i64 (k : Int) ∧ wr = w ∧ Hid (∀ j, 1 ≤ j → j < k → okW 160 191 j (byN s (p + j)))) (fun i _ => 3 - (intOf i).toNat)
    case atStart => exact ⟨1, by decide, by decide, rfl, rfl, fun j h1 h2 => by omega⟩
    case round =>
      obtain ⟨k, hk1, hk2, rfl, rfl, HK⟩ := hrel
      by_cases hkn : k < 3
      · have hkI : (k : Int) < 3 := by omega
        have hpk : p + k < s.size := by omega
        have hbk := byN_get s (p + k) hpk
        have hxl := byN_lt s (p + k)
        have HZ2 : Hid (¬ okW 160 191 k (byN s (p + k)) → R = 0) := HZ.out k hk1 hkn
        have HK2 : Hid (okW 160 191 k (byN s (p + k)) → ∀ j, 1 ≤ j → j < k + 1 → okW 160 191 j (byN s (p + j))) := fun ho j h1 h2 => by
          rcases Nat.lt_or_ge j k with h | h
          · exact HK.out j h1 h
          · obtain rfl : j = k := by omega
            exact ho
        generalize byN s (p + k) = x at *
        clear HK HZ HY
        go_wp2_with fail
        all_goals first
          | (go_ret; rw [HZ2.out (by unfold okW; omega)]; exact ⟨rfl, Fr.refl _ _⟩)
          | (go_roundw; (case rel => exact ⟨k + 1, by omega, by omega, by go_num, (by first | rfl | trivial), HK2.out (by unfold okW; omega)⟩); (case measure => simp [intOf]; omega))
      · obtain rfl : k = 3 := by omega
        have HR : Hid (R = 3) := HY.out HK.out
        clear HZ HY HK
        go_wp2_with fail
        go_ret
        rw [HR.out]
        exact ⟨rfl, Fr.refl _ _⟩
set_option maxRecDepth 100000 in
set_option maxHeartbeats 4000000 in
theorem well_E1 (s : ByteArray) (p c R : Nat) (w : World) (hp : p < s.size) (hs : s.size ≤ 1024) (hb0 : s[p].toNat = c) (hc : 224 < c ∧ c < 240 ∧ c ≠ 237)
    (HU : Hid (R = if s.size < p + 3 then 0 else if ∀ k, k < 3 → 1 ≤ k → okW 128 191 k (byN s (p + k)) then 3 else 0)) :
    Calls Tryz.prog 22 #[.string s, .int .i64 (p : Int)] w fun e w' => e = .returned (.int .i64 ((R : Nat) : Int)) ∧ Fr noB w w' := by
  have f224 : ((c : Int) == 224) = false := by simp; omega
  have f237 : ((c : Int) == 237) = false := by simp; omega
  have g4 : decide ((c : Int) < 128) = false := by simp; omega
  have g5 : decide ((c : Int) ≤ 223) = false := by simp; omega
  have k1 : decide ((c : Int) ≤ 239) = true := by simp; omega
  by_cases hl : s.size < p + 3
  · have HX : Hid (R = 0) := by
      have := HU.out
      rw [if_pos hl] at this
      exact this
    have hlI : (s.size : Int) < (p : Int) + 3 := by omega
    clear HU
    go_enter Tryz.func22, Tryz.ntmps22
    go_wp2_with fail
    go_ret
    rw [HX.out]
    exact ⟨rfl, Fr.refl _ _⟩
  · have HX : Hid (R = if ∀ k, k < 3 → 1 ≤ k → okW 128 191 k (byN s (p + k)) then 3 else 0) := by
      have := HU.out
      rw [if_neg hl] at this
      exact this
    have HZ : Hid (∀ k, 1 ≤ k → k < 3 → ¬ okW 128 191 k (byN s (p + k)) → R = 0) := fun k h1 h2 h3 => by
      rw [HX.out, if_neg (fun h => h3 (h k h2 h1))]
    have HY : Hid ((∀ j, 1 ≤ j → j < 3 → okW 128 191 j (byN s (p + j))) → R = 3) := fun h => by
      rw [HX.out, if_pos (fun k h1 h2 => h k h2 h1)]
    have hlI : (p : Int) + 3 ≤ (s.size : Int) := by omega
    clear HU HX
    go_enter Tryz.func22, Tryz.ntmps22
    go_wp2_with fail
    go_loopw [9] (fun i wr => ∃ k : Nat, 1 ≤ k ∧ k ≤ 3 ∧ i = .int .i64 (k : Int) ∧ wr = w ∧ Hid (∀ j, 1 ≤ j → j < k → okW 128 191 j (byN s (p + j)))) (fun i _ => 3 - (intOf i).toNat)
    case atStart => exact ⟨1, by decide, by decide, rfl, rfl, fun j h1 h2 => by omega⟩
    case round =>
      obtain ⟨k, hk1, hk2, rfl, rfl, HK⟩ := hrel
      by_cases hkn : k < 3
      · have hkI : (k : Int) < 3 := by omega
        have hpk : p + k < s.size := by omega
        have hbk := byN_get s (p + k) hpk
        have hxl := byN_lt s (p + k)
        have HZ2 : Hid (¬ okW 128 191 k (byN s (p + k)) → R = 0) := HZ.out k hk1 hkn
        have HK2 : Hid (okW 128 191 k (byN s (p + k)) → ∀ j, 1 ≤ j → j < k + 1 → okW 128 191 j (byN s (p + j))) := fun ho j h1 h2 => by
          rcases Nat.lt_or_ge j k with h | h
          · exact HK.out j h1 h
          · obtain rfl : j = k := by omega
            exact ho
        generalize byN s (p + k) = x at *
        clear HK HZ HY
        go_wp2_with fail
        all_goals first
          | (go_ret; rw [HZ2.out (by unfold okW; omega)]; exact ⟨rfl, Fr.refl _ _⟩)
          | (go_roundw; (case rel => exact ⟨k + 1, by omega, by omega, by go_num, (by first | rfl | trivial), HK2.out (by unfold okW; omega)⟩); (case measure => simp [intOf]; omega))
      · obtain rfl : k = 3 := by omega
        have HR : Hid (R = 3) := HY.out HK.out
        clear HZ HY HK
        go_wp2_with fail
        go_ret
        rw [HR.out]
        exact ⟨rfl, Fr.refl _ _⟩
set_option maxRecDepth 100000 in
set_option maxHeartbeats 4000000 in
theorem well_ED (s : ByteArray) (p c R : Nat) (w : World) (hp : p < s.size) (hs : s.size ≤ 1024) (hb0 : s[p].toNat = c) (hc : c = 237)
    (HU : Hid (R = if s.size < p + 3 then 0 else if ∀ k, k < 3 → 1 ≤ k → okW 128 159 k (byN s (p + k)) then 3 else 0)) :
    Calls Tryz.prog 22 #[.string s, .int .i64 (p : Int)] w fun e w' => e = .returned (.int .i64 ((R : Nat) : Int)) ∧ Fr noB w w' := by
  have hcI : (c : Int) = 237 := by omega
  have g6 : decide ((c : Int) < 128) = false := by simp; omega
  have g7 : decide ((c : Int) ≤ 223) = false := by simp; omega
  by_cases hl : s.size < p + 3
  · have HX : Hid (R = 0) := by
      have := HU.out
      rw [if_pos hl] at this
      exact this
    have hlI : (s.size : Int) < (p : Int) + 3 := by omega
    clear HU
    go_enter Tryz.func22, Tryz.ntmps22
    go_wp2_with fail
    go_ret
    rw [HX.out]
    exact ⟨rfl, Fr.refl _ _⟩
  · have HX : Hid (R = if ∀ k, k < 3 → 1 ≤ k → okW 128 159 k (byN s (p + k)) then 3 else 0) := by
      have := HU.out
      rw [if_neg hl] at this
      exact this
    have HZ : Hid (∀ k, 1 ≤ k → k < 3 → ¬ okW 128 159 k (byN s (p + k)) → R = 0) := fun k h1 h2 h3 => by
      rw [HX.out, if_neg (fun h => h3 (h k h2 h1))]
    have HY : Hid ((∀ j, 1 ≤ j → j < 3 → okW 128 159 j (byN s (p + j))) → R = 3) := fun h => by
      rw [HX.out, if_pos (fun k h1 h2 => h k h2 h1)]
    have hlI : (p : Int) + 3 ≤ (s.size : Int) := by omega
    clear HU HX
    go_enter Tryz.func22, Tryz.ntmps22
    go_wp2_with fail
    go_loopw [9] (fun i wr => ∃ k : Nat, 1 ≤ k ∧ k ≤ 3 ∧ i = .int .i64 (k : Int) ∧ wr = w ∧ Hid (∀ j, 1 ≤ j → j < k → okW 128 159 j (byN s (p + j)))) (fun i _ => 3 - (intOf i).toNat)
    case atStart => exact ⟨1, by decide, by decide, rfl, rfl, fun j h1 h2 => by omega⟩
    case round =>
      obtain ⟨k, hk1, hk2, rfl, rfl, HK⟩ := hrel
      by_cases hkn : k < 3
      · have hkI : (k : Int) < 3 := by omega
        have hpk : p + k < s.size := by omega
        have hbk := byN_get s (p + k) hpk
        have hxl := byN_lt s (p + k)
        have HZ2 : Hid (¬ okW 128 159 k (byN s (p + k)) → R = 0) := HZ.out k hk1 hkn
        have HK2 : Hid (okW 128 159 k (byN s (p + k)) → ∀ j, 1 ≤ j → j < k + 1 → okW 128 159 j (byN s (p + j))) := fun ho j h1 h2 => by
          rcases Nat.lt_or_ge j k with h | h
          · exact HK.out j h1 h
          · obtain rfl : j = k := by omega
            exact ho
        generalize byN s (p + k) = x at *
        clear HK HZ HY
        go_wp2_with fail
        all_goals first
          | (go_ret; rw [HZ2.out (by unfold okW; omega)]; exact ⟨rfl, Fr.refl _ _⟩)
          | (go_roundw; (case rel => exact ⟨k + 1, by omega, by omega, by go_num, (by first | rfl | trivial), HK2.out (by unfold okW; omega)⟩); (case measure => simp [intOf]; omega))
      · obtain rfl : k = 3 := by omega
        have HR : Hid (R = 3) := HY.out HK.out
        clear HZ HY HK
        go_wp2_with fail
        go_ret
        rw [HR.out]
        exact ⟨rfl, Fr.refl _ _⟩
set_option maxRecDepth 100000 in
set_option maxHeartbeats 4000000 in
theorem well_F0 (s : ByteArray) (p c R : Nat) (w : World) (hp : p < s.size) (hs : s.size ≤ 1024) (hb0 : s[p].toNat = c) (hc : c = 240)
    (HU : Hid (R = if s.size < p + 4 then 0 else if ∀ k, k < 4 → 1 ≤ k → okW 144 191 k (byN s (p + k)) then 4 else 0)) :
    Calls Tryz.prog 22 #[.string s, .int .i64 (p : Int)] w fun e w' => e = .returned (.int .i64 ((R : Nat) : Int)) ∧ Fr noB w w' := by
  have hcI : (c : Int) = 240 := by omega
  have g8 : decide ((c : Int) < 128) = false := by simp; omega
  have g9 : decide ((c : Int) ≤ 223) = false := by simp; omega
  have g10 : decide ((c : Int) ≤ 239) = false := by simp; omega
  by_cases hl : s.size < p + 4
  · have HX : Hid (R = 0) := by
      have := HU.out
      rw [if_pos hl] at this
      exact this
    have hlI : (s.size : Int) < (p : Int) + 4 := by omega
    clear HU
    go_enter Tryz.func22, Tryz.ntmps22
    go_wp2_with fail
    go_ret
    rw [HX.out]
    exact ⟨rfl, Fr.refl _ _⟩
  · have HX : Hid (R = if ∀ k, k < 4 → 1 ≤ k → okW 144 191 k (byN s (p + k)) then 4 else 0) := by
      have := HU.out
      rw [if_neg hl] at this
      exact this
    have HZ : Hid (∀ k, 1 ≤ k → k < 4 → ¬ okW 144 191 k (byN s (p + k)) → R = 0) := fun k h1 h2 h3 => by
      rw [HX.out, if_neg (fun h => h3 (h k h2 h1))]
    have HY : Hid ((∀ j, 1 ≤ j → j < 4 → okW 144 191 j (byN s (p + j))) → R = 4) := fun h => by
      rw [HX.out, if_pos (fun k h1 h2 => h k h2 h1)]
    have hlI : (p : Int) + 4 ≤ (s.size : Int) := by omega
    clear HU HX
    go_enter Tryz.func22, Tryz.ntmps22
    go_wp2_with fail
    go_loopw [9] (fun i wr => ∃ k : Nat, 1 ≤ k ∧ k ≤ 4 ∧ i = .int .i64 (k : Int) ∧ wr = w ∧ Hid (∀ j, 1 ≤ j → j < k → okW 144 191 j (byN s (p + j)))) (fun i _ => 4 - (intOf i).toNat)
    case atStart => exact ⟨1, by decide, by decide, rfl, rfl, fun j h1 h2 => by omega⟩
    case round =>
      obtain ⟨k, hk1, hk2, rfl, rfl, HK⟩ := hrel
      by_cases hkn : k < 4
      · have hkI : (k : Int) < 4 := by omega
        have hpk : p + k < s.size := by omega
        have hbk := byN_get s (p + k) hpk
        have hxl := byN_lt s (p + k)
        have HZ2 : Hid (¬ okW 144 191 k (byN s (p + k)) → R = 0) := HZ.out k hk1 hkn
        have HK2 : Hid (okW 144 191 k (byN s (p + k)) → ∀ j, 1 ≤ j → j < k + 1 → okW 144 191 j (byN s (p + j))) := fun ho j h1 h2 => by
          rcases Nat.lt_or_ge j k with h | h
          · exact HK.out j h1 h
          · obtain rfl : j = k := by omega
            exact ho
        generalize byN s (p + k) = x at *
        clear HK HZ HY
        go_wp2_with fail
        all_goals first
          | (go_ret; rw [HZ2.out (by unfold okW; omega)]; exact ⟨rfl, Fr.refl _ _⟩)
          | (go_roundw; (case rel => exact ⟨k + 1, by omega, by omega, by go_num, (by first | rfl | trivial), HK2.out (by unfold okW; omega)⟩); (case measure => simp [intOf]; omega))
      · obtain rfl : k = 4 := by omega
        have HR : Hid (R = 4) := HY.out HK.out
        clear HZ HY HK
        go_wp2_with fail
        go_ret
        rw [HR.out]
        exact ⟨rfl, Fr.refl _ _⟩
set_option maxRecDepth 100000 in
set_option maxHeartbeats 4000000 in
theorem well_F1 (s : ByteArray) (p c R : Nat) (w : World) (hp : p < s.size) (hs : s.size ≤ 1024) (hb0 : s[p].toNat = c) (hc : 240 < c ∧ c < 244)
    (HU : Hid (R = if s.size < p + 4 then 0 else if ∀ k, k < 4 → 1 ≤ k → okW 128 191 k (byN s (p + k)) then 4 else 0)) :
    Calls Tryz.prog 22 #[.string s, .int .i64 (p : Int)] w fun e w' => e = .returned (.int .i64 ((R : Nat) : Int)) ∧ Fr noB w w' := by
  have f240 : ((c : Int) == 240) = false := by simp; omega
  have f244 : ((c : Int) == 244) = false := by simp; omega
  have g11 : decide ((c : Int) < 128) = false := by simp; omega
  have g12 : decide ((c : Int) ≤ 223) = false := by simp; omega
  have g13 : decide ((c : Int) ≤ 239) = false := by simp; omega
  have k1 : decide ((c : Int) ≤ 244) = true := by simp; omega
  by_cases hl : s.size < p + 4
  · have HX : Hid (R = 0) := by
      have := HU.out
      rw [if_pos hl] at this
      exact this
    have hlI : (s.size : Int) < (p : Int) + 4 := by omega
    clear HU
    go_enter Tryz.func22, Tryz.ntmps22
    go_wp2_with fail
    go_ret
    rw [HX.out]
    exact ⟨rfl, Fr.refl _ _⟩
  · have HX : Hid (R = if ∀ k, k < 4 → 1 ≤ k → okW 128 191 k (byN s (p + k)) then 4 else 0) := by
      have := HU.out
      rw [if_neg hl] at this
      exact this
    have HZ : Hid (∀ k, 1 ≤ k → k < 4 → ¬ okW 128 191 k (byN s (p + k)) → R = 0) := fun k h1 h2 h3 => by
      rw [HX.out, if_neg (fun h => h3 (h k h2 h1))]
    have HY : Hid ((∀ j, 1 ≤ j → j < 4 → okW 128 191 j (byN s (p + j))) → R = 4) := fun h => by
      rw [HX.out, if_pos (fun k h1 h2 => h k h2 h1)]
    have hlI : (p : Int) + 4 ≤ (s.size : Int) := by omega
    clear HU HX
    go_enter Tryz.func22, Tryz.ntmps22
    go_wp2_with fail
    go_loopw [9] (fun i wr => ∃ k : Nat, 1 ≤ k ∧ k ≤ 4 ∧ i = .int .i64 (k : Int) ∧ wr = w ∧ Hid (∀ j, 1 ≤ j → j < k → okW 128 191 j (byN s (p + j)))) (fun i _ => 4 - (intOf i).toNat)
    case atStart => exact ⟨1, by decide, by decide, rfl, rfl, fun j h1 h2 => by omega⟩
    case round =>
      obtain ⟨k, hk1, hk2, rfl, rfl, HK⟩ := hrel
      by_cases hkn : k < 4
      · have hkI : (k : Int) < 4 := by omega
        have hpk : p + k < s.size := by omega
        have hbk := byN_get s (p + k) hpk
        have hxl := byN_lt s (p + k)
        have HZ2 : Hid (¬ okW 128 191 k (byN s (p + k)) → R = 0) := HZ.out k hk1 hkn
        have HK2 : Hid (okW 128 191 k (byN s (p + k)) → ∀ j, 1 ≤ j → j < k + 1 → okW 128 191 j (byN s (p + j))) := fun ho j h1 h2 => by
          rcases Nat.lt_or_ge j k with h | h
          · exact HK.out j h1 h
          · obtain rfl : j = k := by omega
            exact ho
        generalize byN s (p + k) = x at *
        clear HK HZ HY
        go_wp2_with fail
        all_goals first
          | (go_ret; rw [HZ2.out (by unfold okW; omega)]; exact ⟨rfl, Fr.refl _ _⟩)
          | (go_roundw; (case rel => exact ⟨k + 1, by omega, by omega, by go_num, (by first | rfl | trivial), HK2.out (by unfold okW; omega)⟩); (case measure => simp [intOf]; omega))
      · obtain rfl : k = 4 := by omega
        have HR : Hid (R = 4) := HY.out HK.out
        clear HZ HY HK
        go_wp2_with fail
        go_ret
        rw [HR.out]
        exact ⟨rfl, Fr.refl _ _⟩
set_option maxRecDepth 100000 in
set_option maxHeartbeats 4000000 in
theorem well_F4 (s : ByteArray) (p c R : Nat) (w : World) (hp : p < s.size) (hs : s.size ≤ 1024) (hb0 : s[p].toNat = c) (hc : c = 244)
    (HU : Hid (R = if s.size < p + 4 then 0 else if ∀ k, k < 4 → 1 ≤ k → okW 128 143 k (byN s (p + k)) then 4 else 0)) :
    Calls Tryz.prog 22 #[.string s, .int .i64 (p : Int)] w fun e w' => e = .returned (.int .i64 ((R : Nat) : Int)) ∧ Fr noB w w' := by
  have hcI : (c : Int) = 244 := by omega
  have g14 : decide ((c : Int) < 128) = false := by simp; omega
  have g15 : decide ((c : Int) ≤ 223) = false := by simp; omega
  have g16 : decide ((c : Int) ≤ 239) = false := by simp; omega
  by_cases hl : s.size < p + 4
  · have HX : Hid (R = 0) := by
      have := HU.out
      rw [if_pos hl] at this
      exact this
    have hlI : (s.size : Int) < (p : Int) + 4 := by omega
    clear HU
    go_enter Tryz.func22, Tryz.ntmps22
    go_wp2_with fail
    go_ret
    rw [HX.out]
    exact ⟨rfl, Fr.refl _ _⟩
  · have HX : Hid (R = if ∀ k, k < 4 → 1 ≤ k → okW 128 143 k (byN s (p + k)) then 4 else 0) := by
      have := HU.out
      rw [if_neg hl] at this
      exact this
    have HZ : Hid (∀ k, 1 ≤ k → k < 4 → ¬ okW 128 143 k (byN s (p + k)) → R = 0) := fun k h1 h2 h3 => by
      rw [HX.out, if_neg (fun h => h3 (h k h2 h1))]
    have HY : Hid ((∀ j, 1 ≤ j → j < 4 → okW 128 143 j (byN s (p + j))) → R = 4) := fun h => by
      rw [HX.out, if_pos (fun k h1 h2 => h k h2 h1)]
    have hlI : (p : Int) + 4 ≤ (s.size : Int) := by omega
    clear HU HX
    go_enter Tryz.func22, Tryz.ntmps22
    go_wp2_with fail
    go_loopw [9] (fun i wr => ∃ k : Nat, 1 ≤ k ∧ k ≤ 4 ∧ i = .int .i64 (k : Int) ∧ wr = w ∧ Hid (∀ j, 1 ≤ j → j < k → okW 128 143 j (byN s (p + j)))) (fun i _ => 4 - (intOf i).toNat)
    case atStart => exact ⟨1, by decide, by decide, rfl, rfl, fun j h1 h2 => by omega⟩
    case round =>
      obtain ⟨k, hk1, hk2, rfl, rfl, HK⟩ := hrel
      by_cases hkn : k < 4
      · have hkI : (k : Int) < 4 := by omega
        have hpk : p + k < s.size := by omega
        have hbk := byN_get s (p + k) hpk
        have hxl := byN_lt s (p + k)
        have HZ2 : Hid (¬ okW 128 143 k (byN s (p + k)) → R = 0) := HZ.out k hk1 hkn
        have HK2 : Hid (okW 128 143 k (byN s (p + k)) → ∀ j, 1 ≤ j → j < k + 1 → okW 128 143 j (byN s (p + j))) := fun ho j h1 h2 => by
          rcases Nat.lt_or_ge j k with h | h
          · exact HK.out j h1 h
          · obtain rfl : j = k := by omega
            exact ho
        generalize byN s (p + k) = x at *
        clear HK HZ HY
        go_wp2_with fail
        all_goals first
          | (go_ret; rw [HZ2.out (by unfold okW; omega)]; exact ⟨rfl, Fr.refl _ _⟩)
          | (go_roundw; (case rel => exact ⟨k + 1, by omega, by omega, by go_num, (by first | rfl | trivial), HK2.out (by unfold okW; omega)⟩); (case measure => simp [intOf]; omega))
      · obtain rfl : k = 4 := by omega
        have HR : Hid (R = 4) := HY.out HK.out
        clear HZ HY HK
        go_wp2_with fail
        go_ret
        rw [HR.out]
        exact ⟨rfl, Fr.refl _ _⟩
theorem head_none (c : Nat) (z : c < 194 ∨ 245 ≤ c) : headW c = (0, 128, 191) := by
  unfold headW
  repeat' split
  all_goals first | rfl | (exfalso; omega)
set_option maxRecDepth 100000 in
set_option maxHeartbeats 4000000 in
theorem well_any (s : ByteArray) (p : Nat) (w : World) (hp : p < s.size) (hs : s.size ≤ 1024) : Calls Tryz.prog 22 #[.string s, .int .i64 (p : Int)] w fun e w' => e = .returned (.int .i64 ((wellF s p : Nat) : Int)) ∧ Fr noB w w' := by
  have hb0 := byN_get s p hp
  have HU : Hid (wellF s p = if byN s p < 128 then 1
    else if (headW (byN s p)).1 = 0 ∨ s.size < p + (headW (byN s p)).1 then 0
    else if ∀ k, k < (headW (byN s p)).1 → 1 ≤ k → okW (headW (byN s p)).2.1 (headW (byN s p)).2.2 k (byN s (p + k)) then (headW (byN s p)).1 else 0) := rfl
  have hlt := byN_lt s p
  obtain ⟨R, hR⟩ : ∃ R, wellF s p = R := ⟨_, rfl⟩
  rw [hR] at HU ⊢
  clear hR
  obtain ⟨c, hc⟩ : ∃ c, byN s p = c := ⟨_, rfl⟩
  rw [hc] at HU hlt hb0
  clear hc
  by_cases c1 : c < 128
  · have HX : Hid (R = 1) := by
      have := HU.out
      rw [if_pos c1] at this
      exact this
    clear HU
    go_enter Tryz.func22, Tryz.ntmps22
    go_wp2_with fail
    go_ret
    rw [HX.out]
    exact ⟨rfl, Fr.refl _ _⟩
  have H2 := HU.out
  rw [if_neg c1] at H2
  have use : ∀ n lo hi, headW c = (n, lo, hi) → n ≠ 0 → R = if s.size < p + n then 0 else if ∀ k, k < n → 1 ≤ k → okW lo hi k (byN s (p + k)) then n else 0 := fun n lo hi e h0 => by
    rw [e] at H2
    simpa [h0] using H2
  by_cases z : c < 194 ∨ 245 ≤ c
  · have HX : Hid (R = 0) := by
      rw [show headW c = (0, 128, 191) from head_none c z] at H2
      show R = 0
      simpa using H2
    clear HU H2 use
    rcases z with z | z
    · go_enter Tryz.func22, Tryz.ntmps22
      go_wp2_with fail
      go_ret
      rw [HX.out]
      exact ⟨rfl, Fr.refl _ _⟩
    · go_enter Tryz.func22, Tryz.ntmps22
      go_wp2_with fail
      go_ret
      rw [HX.out]
      exact ⟨rfl, Fr.refl _ _⟩
  by_cases a : c < 224
  · exact well_two s p c R w hp hs hb0 (by omega) (use 2 128 191 (by unfold headW; rw [if_neg (by omega), if_pos a]) (by decide))
  by_cases b : c < 240
  · by_cases e : c = 224
    · exact well_E0 s p c R w hp hs hb0 e (use 3 160 191 (by subst e; rfl) (by decide))
    by_cases e2 : c = 237
    · exact well_ED s p c R w hp hs hb0 e2 (use 3 128 159 (by subst e2; rfl) (by decide))
    exact well_E1 s p c R w hp hs hb0 (by omega) (use 3 128 191 (by unfold headW; rw [if_neg (by omega), if_neg a, if_pos b, if_neg e, if_neg e2]) (by decide))
  by_cases e : c = 240
  · exact well_F0 s p c R w hp hs hb0 e (use 4 144 191 (by subst e; rfl) (by decide))
  by_cases e2 : c = 244
  · exact well_F4 s p c R w hp hs hb0 e2 (use 4 128 143 (by subst e2; rfl) (by decide))
  exact well_F1 s p c R w hp hs hb0 (by omega) (use 4 128 191 (by unfold headW; rw [if_neg (by omega), if_neg a, if_neg b, if_pos (by omega), if_neg e, if_neg e2]) (by decide))
#print axioms well_any
end Go.Proofs.YtlhikoomghbnjaaGreatDoor
