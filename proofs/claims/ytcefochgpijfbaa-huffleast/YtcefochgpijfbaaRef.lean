/- The contracts of the document's room and Check (gridironref02). -/
import Derived.Test.YtcefochgpijfbaaChk
namespace Go.Proofs.Ytcefochgpijfbaa
open Go.RowKit

theorem refroom_step (a x : Nat) (_h : x ≤ 15) (ha : a ≤ 16777216) : wrap64 ((a : Int) + wrap64 (2 ^ (15 - x))) = ((a + 2 ^ (15 - x) : Nat) : Int) := by
  have h2 := pow_15 x
  have e : ((2 : Int) ^ (15 - x)) = ((2 ^ (15 - x) : Nat) : Int) := by simp
  have e2 : (a : Int) + ((2 ^ (15 - x) : Nat) : Int) = ((a + 2 ^ (15 - x) : Nat) : Int) := by omega
  rw [e, w64 _ (by omega), e2, w64 _ (by omega)]

set_option maxHeartbeats 800000 in
theorem refroom_any (v : Value) (M : List Nat) (w : World) (hv : Ns .i64 w v (up M)) (hM : ∀ x ∈ M, x ≤ 15) (hl : M.length ≤ 512) :
    Calls Try.prog 15 #[v] w fun e w' => e = .returned (.tuple #[.int .i64 ((roomN M : Nat) : Int), .int .i64 ((manyN M : Nat) : Int)]) ∧ w' = w := by
  obtain ⟨ao, cap, rfl, h1, h2, h4, h3⟩ := hv
  rw [length_up] at *
  have hat : NsAt .i64 w ao (up M) := h3
  clear h3
  unfold maxLen at h2
  go_enter Try.func15, Try.ntmps15
  go_wp2_with fail
  go_loop [4, 5, 6] (fun s m i => ∃ k : Nat, k ≤ M.length ∧ i = .int .i64 (k : Int) ∧ s = .int .i64 ((roomN (M.take k) : Nat) : Int) ∧ m = .int .i64 ((manyN (M.take k) : Nat) : Int)) (fun _ _ i => M.length - (intOf i).toNat)
  case atStart => exact ⟨0, Nat.zero_le _, rfl, rfl, rfl⟩
  case round =>
    obtain ⟨k, hk, rfl, rfl, rfl⟩ := hrel
    by_cases hlt : k < M.length
    · obtain ⟨b, off, rfl, hb, hcell⟩ := hat.get k (by simpa using hlt)
      rw [up_get _ _ hlt] at hcell
      have hx := hM M[k] (List.getElem_mem hlt)
      have HT : Hid (M.take (k + 1) = M.take k ++ [M[k]]) := take_snoc M k hlt
      have hr1 := roomN_le (M.take k)
      have hm1 := manyN_le (M.take k)
      have hr : roomN (M.take k) ≤ 16777216 := by rw [List.length_take] at hr1; omega
      have hm : manyN (M.take k) ≤ 512 := by rw [List.length_take] at hm1; omega
      clear hr1 hm1
      generalize M[k] = x at *
      by_cases hx0 : x = 0
      · have hx0' : ¬ 0 < (x : Int) := by omega
        go_wp2
        go_round
        case rel => exact ⟨k + 1, by omega, by go_num, by rw [HT.out, roomN_snoc, if_pos hx0, Nat.add_zero], by rw [HT.out, manyN_snoc, if_pos hx0, Nat.add_zero]⟩
        case measure => simp [intOf]; omega
      · have hx0' : 0 < (x : Int) := by omega
        have hx15 : (x : Int) ≤ 15 := by omega
        go_wp2
        go_round
        case rel =>
          refine ⟨k + 1, by omega, by go_num, ?_, ?_⟩
          · rw [HT.out, roomN_snoc, if_neg hx0]
            exact congrArg (Value.int .i64) (refroom_step _ x hx hr)
          · rw [HT.out, manyN_snoc, if_neg hx0]
            go_num
        case measure => simp [intOf]; omega
    · have hkM : k = M.length := by omega
      subst hkM
      go_wp2_with fail
      go_ret2
      exact ⟨rfl, rfl⟩

set_option maxHeartbeats 1600000 in
theorem refcheck_any (v : Value) (L : List Int) (w : World) (hv : Ns .i64 w v L) :
    Calls Try.prog 7 #[v] w fun e w' => e = .returned (.int .i64 (chk L)) ∧ w' = w := by
  have hv' := hv
  obtain ⟨ao, cap, rfl, h1, h2, h4, h3⟩ := hv
  have hat : NsAt .i64 w ao L := h3
  clear h3
  unfold maxLen at h2
  by_cases hlong : 512 < L.length
  · rw [chk_long L hlong]
    go_enter Try.func7, Try.ntmps7
    go_wp2
    go_ret
    exact ⟨rfl, rfl⟩
  have hl : L.length ≤ 512 := by omega
  clear hlong
  go_enter Try.func7, Try.ntmps7
  go_wp2_with fail
  go_loop [3] (fun i => ∃ k : Nat, k ≤ L.length ∧ i = .int .i64 (k : Int) ∧ ∀ i (hi : i < L.length), i < k → 0 ≤ L[i] ∧ L[i] ≤ 15) (fun i => L.length - (intOf i).toNat)
  case atStart => exact ⟨0, Nat.zero_le _, rfl, fun _ _ h => absurd h (by omega)⟩
  case round =>
    obtain ⟨k, hk, rfl, hall⟩ := hrel
    by_cases hlt : k < L.length
    · obtain ⟨b, off, rfl, hb, hcell⟩ := hat.get k hlt
      by_cases hbad : L[k] < 0 ∨ 15 < L[k]
      · have hc := chk_arg L hl ⟨_, List.getElem_mem hlt, hbad⟩
        have HC1 : Hid (chk L = 1) := hc
        clear hc hall
        generalize L[k] = x at *
        rcases hbad with hbad | hbad
        · go_wp2
          go_ret
          exact ⟨ret_int HC1.out.symm, rfl⟩
        · have hx0 : ¬ x < 0 := by omega
          go_wp2
          go_ret
          exact ⟨ret_int HC1.out.symm, rfl⟩
      · have hall' : ∀ i (hi : i < L.length), i < k + 1 → 0 ≤ L[i] ∧ L[i] ≤ 15 := by
          intro i hi hik
          by_cases e : i = k
          · subst e; omega
          · exact hall i hi (by omega)
        clear hall
        have hx0 : ¬ L[k] < 0 := by omega
        have hx1 : ¬ 15 < L[k] := by omega
        clear hbad
        generalize L[k] = x at *
        go_wp2
        go_round
        case rel => exact ⟨k + 1, by omega, by go_num, hall'⟩
        case measure => simp [intOf]; omega
    · obtain ⟨M, rfl, hM⟩ := all_good L (fun i hi => hall i hi (by omega))
      clear hall hat
      rw [length_up] at *
      have HR := refroom_any _ M w hv' hM hl
      go_wp2_with fail
      refine HR.mono ?_
      rintro e w1 ⟨rfl, rfl⟩
      clear HR hv'
      by_cases hover : 32768 < roomN M
      · have hover' : 32768 < ((roomN M : Nat) : Int) := by omega
        go_wp2
        go_ret
        exact ⟨ret_int (chk_over M hl hM hover).symm, rfl⟩
      · have hover' : ¬ 32768 < ((roomN M : Nat) : Int) := by omega
        have HB0 : Hid (codeB (roomN M) (manyN M) = decide (manyN M = 0 ∨ roomN M = 32768 ∨ (manyN M = 1 ∧ roomN M = 16384))) := rfl
        have HL : Hid (codeB (roomN M) (manyN M) = false → chk (up M) = 21) := fun h => chk_less M hl hM (by omega) h
        have HO : Hid (codeB (roomN M) (manyN M) = true → chk (up M) = 0) := fun h => chk_ok M hl hM (by omega) h
        generalize roomN M = r at *
        generalize manyN M = m at *
        go_wp2
        all_goals
          go_ret
          refine ⟨?_, rfl⟩
          try simp only [beq_iff_eq, beq_eq_false_iff_ne, ne_eq] at *
          first
            | (refine ret_int (HL.out ?_).symm; rw [HB0.out, decide_eq_false_iff_not]; omega)
            | (refine ret_int (HO.out ?_).symm; rw [HB0.out, decide_eq_true_iff]; omega)
#print axioms refcheck_any
end Go.Proofs.Ytcefochgpijfbaa
