/- The contract of the document's CheckCounts. -/
import Derived.Test.YtcefochgpijfbaaRefE
namespace Go.Proofs.Ytcefochgpijfbaa
open Go.RowKit

theorem lenE_long (L : List Int) (most : Int) (h : 512 < L.length) : lenE L most = 3 := by unfold lenE; rw [if_pos h]
theorem lenE_arg (L : List Int) (most : Int) (h : L.length ≤ 512) (hb : numsB L = false ∨ most < 1 ∨ 15 < most) : lenE L most = 1 := by unfold lenE; rw [if_neg (by omega), if_pos hb]
theorem lenE_over (L : List Int) (most : Int) (h : L.length ≤ 512) (hn : numsB L = true) (h1 : 1 ≤ most) (h2 : most ≤ 15) (ho : 2 ^ most.toNat < (leavesP 0 (L.map Int.toNat)).length) : lenE L most = 20 := by
  unfold lenE
  rw [if_neg (by omega), if_neg (by rw [hn]; simp; omega), if_pos ho]
theorem lenE_ok (L : List Int) (most : Int) (h : L.length ≤ 512) (hn : numsB L = true) (h1 : 1 ≤ most) (h2 : most ≤ 15) (ho : (leavesP 0 (L.map Int.toNat)).length ≤ 2 ^ most.toNat) : lenE L most = 0 := by
  unfold lenE
  rw [if_neg (by omega), if_neg (by rw [hn]; simp; omega), if_neg (by omega)]
theorem ret_two {k k' : IntKind} {a b a' b' : Int} (h : a = b) (h' : a' = b') : Ending.returned (.tuple #[.int k a, .int k' a']) = .returned (.tuple #[.int k b, .int k' b']) := by rw [h, h']

set_option maxRecDepth 100000 in
set_option maxHeartbeats 1600000 in
theorem refcounts_any (v : Value) (L : List Int) (most : Int) (w : World) (hv : Ns .i64 w v L) :
    Calls Try.prog 5 #[v, .int .i64 most] w fun e w' => ∃ many : Int, e = .returned (.tuple #[.int .i64 many, .int .i64 (lenE L most)]) ∧ (lenE L most = 0 → many = ((leavesP 0 (L.map Int.toNat)).length : Int)) ∧ w' = w := by
  obtain ⟨ao, cap, rfl, h1, hc2, h4, h3⟩ := hv
  have hat : NsAt .i64 w ao L := h3
  clear h3 h4
  unfold maxLen at hc2
  by_cases hL : 512 < L.length
  · have hI : (512 : Int) < (L.length : Int) := by omega
    have HE : Hid (lenE L most = 3) := lenE_long L most hL
    go_enter Try.func5, Try.ntmps5
    go_wp2_with fail
    go_ret2
    exact ⟨0, ret_two rfl HE.out.symm, fun h => by rw [HE.out] at h; omega, rfl⟩
  · have hI : ¬ (512 : Int) < (L.length : Int) := by omega
    have b1 : decide ((512 : Int) < (L.length : Int)) = false := by simp; omega
    obtain ⟨n, hn⟩ : ∃ n, L.length = n := ⟨_, rfl⟩
    have HN : Hid (L.length = n) := hn
    rw [hn] at h1 hL hI b1 ⊢
    clear hn
    have HCl : Hid ((L.map Int.toNat).length = n) := by rw [List.length_map]; exact HN.out
    go_enter Try.func5, Try.ntmps5
    go_wp2_with fail
    go_loopg [6, 7] n (fun gh mv iv wr => ∃ k : Nat, k ≤ n ∧ gh = n - k ∧ iv = .int .i64 (k : Int) ∧ mv = .int .i64 (((leavesP 0 ((L.map Int.toNat).take k)).length : Nat) : Int) ∧ Hid (∀ j (h : j < L.length), j < k → 0 ≤ L[j] ∧ L[j] ≤ 2147483648) ∧ wr = w)
    case atStart => exact ⟨0, by omega, rfl, rfl, rfl, (fun j h h' => by omega), rfl⟩
    case round =>
      obtain ⟨k, hk, rfl, rfl, rfl, HG, hwr⟩ := hrel
      have hwr' := hwr.symm
      subst hwr'
      have hml : (leavesP 0 ((L.map Int.toNat).take k)).length ≤ 512 := by
        have := leaves_len ((L.map Int.toNat).take k) 0
        have h5 := List.length_take_le k (L.map Int.toNat)
        omega
      by_cases hlt : k < n
      · have hkL : k < L.length := by have := HN.out; omega
        obtain ⟨b, off, rfl, hb, hcell⟩ := hat.get k hkL
        have HMo := leaves_more (L.map Int.toNat) k (by have := HCl.out; omega)
        rw [List.getElem_map] at HMo
        have HNo : Hid ((L[k] < 0 ∨ 2147483648 < L[k]) → numsB L = false) := fun h => numsB_no L k hkL h
        have HG2 : Hid (0 ≤ L[k] ∧ L[k] ≤ 2147483648 → ∀ j (h : j < L.length), j < k + 1 → 0 ≤ L[j] ∧ L[j] ≤ 2147483648) := fun h0 j h h' => by
          by_cases e : j = k
          · subst e; exact h0
          · exact HG.out j h (by omega)
        generalize L[k] = x at *
        have HM : Hid ((leavesP 0 ((L.map Int.toNat).take (k + 1))).length = (leavesP 0 ((L.map Int.toNat).take k)).length + if 0 < x then 1 else 0) := by
          rw [HMo, List.length_append]
          congr 1
          by_cases e : 0 < x
          · rw [if_pos (by omega), if_pos e]; rfl
          · rw [if_neg (by omega), if_neg e]; rfl
        clear HMo
        generalize (leavesP 0 ((L.map Int.toNat).take k)).length = y at *
        have hkI : (k : Int) < (n : Int) := by omega
        by_cases hx1 : x < 0
        · have HE : Hid (lenE L most = 1) := lenE_arg L most (by have := HN.out; omega) (Or.inl (HNo.out (Or.inl hx1)))
          go_wp2_with fail
          go_ret2
          exact ⟨0, ret_two rfl HE.out.symm, fun h => by rw [HE.out] at h; omega, rfl⟩
        · by_cases hx2 : 2147483648 < x
          · have HE : Hid (lenE L most = 1) := lenE_arg L most (by have := HN.out; omega) (Or.inl (HNo.out (Or.inr hx2)))
            go_wp2_with fail
            go_ret2
            exact ⟨0, ret_two rfl HE.out.symm, fun h => by rw [HE.out] at h; omega, rfl⟩
          · have HG3 : Hid (∀ j (h : j < L.length), j < k + 1 → 0 ≤ L[j] ∧ L[j] ≤ 2147483648) := HG2.out (by omega)
            by_cases hx3 : 0 < x
            · have HM2 : Hid (((leavesP 0 ((L.map Int.toNat).take (k + 1))).length : Int) = (y : Int) + 1) := by
                have := HM.out
                rw [if_pos hx3] at this
                show ((leavesP 0 ((L.map Int.toNat).take (k + 1))).length : Int) = (y : Int) + 1
                omega
              go_wp2_with fail
              go_roundg (n - (k + 1))
              case measure => omega
              case rel => exact ⟨k + 1, by omega, rfl, by go_num, by rw [HM2.out], HG3, rfl⟩
            · have HM2 : Hid (((leavesP 0 ((L.map Int.toNat).take (k + 1))).length : Int) = (y : Int)) := by
                have := HM.out
                rw [if_neg hx3] at this
                show ((leavesP 0 ((L.map Int.toNat).take (k + 1))).length : Int) = (y : Int)
                omega
              go_wp2_with fail
              go_roundg (n - (k + 1))
              case measure => omega
              case rel => exact ⟨k + 1, by omega, rfl, by go_num, by rw [HM2.out], HG3, rfl⟩
      · have hltI : ¬ (k : Int) < (n : Int) := by omega
        have HNm : Hid (numsB L = true) := numsB_yes L (fun i hi => HG.out i hi (by have := HN.out; omega))
        have HTk : Hid ((L.map Int.toNat).take k = L.map Int.toNat) := List.take_of_length_le (by have := HCl.out; omega)
        have HY : Hid ((leavesP 0 (L.map Int.toNat)).length = (leavesP 0 ((L.map Int.toNat).take k)).length) := congrArg (fun l => (leavesP 0 l).length) HTk.out.symm
        generalize (leavesP 0 ((L.map Int.toNat).take k)).length = y at *
        by_cases hm1 : most < 1
        · have HE : Hid (lenE L most = 1) := lenE_arg L most (by have := HN.out; omega) (Or.inr (Or.inl hm1))
          go_wp2_with fail
          go_ret2
          exact ⟨0, ret_two rfl HE.out.symm, fun h => by rw [HE.out] at h; omega, rfl⟩
        · by_cases hm2 : 15 < most
          · have HE : Hid (lenE L most = 1) := lenE_arg L most (by have := HN.out; omega) (Or.inr (Or.inr hm2))
            go_wp2_with fail
            go_ret2
            exact ⟨0, ret_two rfl HE.out.symm, fun h => by rw [HE.out] at h; omega, rfl⟩
          · obtain ⟨m, rfl⟩ := Int.eq_ofNat_of_zero_le (show 0 ≤ most by omega)
            have hp := pow_most m (by omega)
            have hpe : ((2 ^ m : Nat) : Int) = (2 : Int) ^ m := by simp
            have HPe : Hid (((2 ^ m : Nat) : Int) = (2 : Int) ^ m) := hpe
            clear hpe
            by_cases ho : 2 ^ m < y
            · have HE : Hid (lenE L (m : Int) = 20) := lenE_over L _ (by have := HN.out; omega) HNm.out (by omega) (by omega) (by rw [HY.out]; exact ho)
              have hoI : (2 : Int) ^ m < (y : Int) := by have := HPe.out; omega
              clear ho
              go_wp2_with fail
              go_ret2
              exact ⟨0, ret_two rfl HE.out.symm, fun h => by rw [HE.out] at h; omega, rfl⟩
            · have HE : Hid (lenE L (m : Int) = 0) := lenE_ok L _ (by have := HN.out; omega) HNm.out (by omega) (by omega) (by rw [HY.out, Int.toNat_natCast]; omega)
              have hoI : ¬ (2 : Int) ^ m < (y : Int) := by have := HPe.out; omega
              clear ho
              go_wp2_with fail
              go_ret2
              exact ⟨(y : Int), ret_two rfl HE.out.symm, fun _ => by rw [HY.out], rfl⟩
#print axioms refcounts_any
end Go.Proofs.Ytcefochgpijfbaa
