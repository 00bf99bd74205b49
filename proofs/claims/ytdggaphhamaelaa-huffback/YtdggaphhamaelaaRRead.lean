/- The contracts of the document's Bit and Read (gridironref02). -/
import Derived.Test.YtdggaphhamaelaaRefC
import Derived.Test.YtdggaphhamaelaaRRdM
namespace Go.Proofs.Ytdggaphhamaelaa
open Go.RowKit

theorem ret_tup2 {k : IntKind} {a b : Int} {x y : Bool} (h : a = b) (h2 : x = y) : Ending.returned (.tuple #[.int k a, .bool x]) = .returned (.tuple #[.int k b, .bool y]) := by rw [h, h2]
theorem mod_small (x j : Nat) (hx : x < 256) : ((x : Int) / 2 ^ j % 4294967296) = (x : Int) / 2 ^ j := by
  have h3 : ((x : Int) / 2 ^ j) = ((x / 2 ^ j : Nat) : Int) := by simp
  have h4 : x / 2 ^ j ≤ x := Nat.div_le_self _ _
  rw [h3]
  generalize x / 2 ^ j = y at *
  omega

set_option maxHeartbeats 400000 in
theorem refbit_any (v : Value) (B : List Nat) (i : Nat) (w : World) (hv : Bs w v B) (hB : ∀ x ∈ B, x < 256) (hl : B.length ≤ 140737488355328) (hi : i < 8 * B.length) :
    Calls Try.prog 31 #[v, .int .i64 (i : Int)] w fun e w' => e = .returned (.tuple #[.int .u32 ((bitQ B i : Nat) : Int), .bool true]) ∧ w' = w := by
  obtain ⟨ao, cap, rfl, h1, h2, h4, h3⟩ := hv
  rcases h3 with rfl | ⟨b, off, rfl, hb, hc⟩
  · simp at hi
  · have hi8 : i / 8 < B.length := by omega
    have hcell := hc (i / 8) hi8
    have hg : B.getD (i / 8) 0 = B[i / 8] := by simp [hi8]
    have hx := getD_lt hB (i / 8)
    have HQ : Hid (bitQ B i = bitN B[i / 8] (i % 8)) := by show (bitAt B i).toNat = _; unfold bitAt; rw [hg]; rfl
    rw [hg] at hx
    generalize B[i / 8] = x at *
    clear hc hg
    go_enter Try.func31, Try.ntmps31
    go_wp2
    go_ret2
    refine ⟨ret_tup2 (?_ : _ = ((bitQ B i : Nat) : Int)) rfl, rfl⟩
    rw [HQ.out, mod_small x (i % 8) hx]
    exact and_one x (i % 8) (by omega)

set_option maxHeartbeats 400000 in
theorem refbit_none (v : Value) (B : List Nat) (i : Nat) (w : World) (hv : Bs w v B) (hl : B.length ≤ 140737488355328) (hi : 8 * B.length ≤ i) :
    Calls Try.prog 31 #[v, .int .i64 (i : Int)] w fun e w' => e = .returned (.tuple #[.int .u32 0, .bool false]) ∧ w' = w := by
  obtain ⟨ao, cap, rfl, h1, h2, h4, h3⟩ := hv
  clear h3
  go_enter Try.func31, Try.ntmps31
  go_wp2
  go_ret2
  exact ⟨rfl, rfl⟩

theorem beq_shr (y k c : Nat) : (((y : Int) / 2 ^ k) == (c : Int)) = decide (y / 2 ^ k = c) := by
  have h : ((y : Int) / 2 ^ k) = ((y / 2 ^ k : Nat) : Int) := by simp
  rw [h, Bool.eq_iff_iff, beq_iff_eq, decide_eq_true_iff]
  omega

set_option maxRecDepth 100000 in
set_option maxHeartbeats 6400000 in
theorem refread_any (v cv bv : Value) (M B : List Nat) (p : Nat) (w : World) (hv : Ns .i64 w v (up M)) (hcv : Ns .u32 w cv (up (codesN M))) (hbv : Bs w bv B) (hM : Code M) (hB : ∀ x ∈ B, x < 256) (hl : B.length ≤ 140737488355328) (hp : p ≤ 8 * B.length) :
    Calls Try.prog 24 #[v, cv, bv, .int .i64 (p : Int)] w fun e w' => e = .returned (.tuple #[.int .i64 (((rdA M B p).1 : Nat) : Int), .int .i64 (((rdA M B p).2.2 : Nat) : Int), .int .i64 (((rdA M B p).2.1 : Nat) : Int)]) ∧ ∃ m, w' = w.drewN m := by
  have hms := hM.short
  have h15 := hM.le
  have HB1 := fun (i : Nat) (hi : i < 8 * B.length) m => refbit_any bv B i (w.drewN m) hbv hB hl hi
  have HB0 := fun (i : Nat) (hi : 8 * B.length ≤ i) m => refbit_none bv B i (w.drewN m) hbv hl hi
  obtain ⟨ao, acap, rfl, a1, a2, a4, a3⟩ := hv
  obtain ⟨bo, bcap, rfl, b1, b2, b4, b3⟩ := hcv
  have hat : NsAt .i64 w ao (up M) := a3
  have hbt : NsAt .u32 w bo (up (codesN M)) := b3
  simp only [length_up, codesN_length] at a1 b1 ⊢
  obtain ⟨co, ccap, rfl, c1, c2, c4, c3⟩ := hbv
  clear a3 b3 c3
  unfold maxLen at a2
  have HA : Hid (rdA M B p = rdG M B p 0) := (rdG_zero M B p).symm
  generalize rdA M B p = A at *
  go_enter Try.func24, Try.ntmps24
  go_wp2_with fail
  go_loopg [3, 11, 12] 15 (fun gh av cd lo wr => ∃ k : Nat, k ≤ 15 ∧ gh = 15 - k ∧ av = .int .i64 ((p + k : Nat) : Int) ∧ cd = .int .u32 ((msb B p k : Nat) : Int) ∧ lo = .int .i64 (k : Int) ∧ p + k ≤ 8 * B.length ∧ firstN (cntN M) k ≤ msb B p k ∧ A = rdG M B p k ∧ ∃ m, wr = w.drewN m)
  case atStart => exact ⟨0, by omega, rfl, rfl, rfl, rfl, by omega, by simp [firstN], HA.out, 0, rfl⟩
  case round =>
    obtain ⟨k, hk, rfl, rfl, rfl, rfl, hp1, hge, hA1, m, rfl⟩ := hrel
    have HA1 : Hid _ := hA1
    have HGE : Hid _ := hge
    clear hA1 hge HA
    have hclt := msb_lt B p k
    have hp15 := pow_le_15 k hk
    obtain ⟨c, hc⟩ : ∃ c, c = msb B p k := ⟨_, rfl⟩
    rw [← hc] at hclt ⊢
    have HC : Hid (c = msb B p k) := hc
    have hc32 : c < 32768 := by omega
    have HCLT : Hid (c < 2 ^ k) := hclt
    clear hc hclt hp15
    obtain ⟨q, hq⟩ : ∃ q, q = p + k := ⟨_, rfl⟩
    rw [← hq] at hp1 ⊢
    have HQ : Hid (q = p + k) := hq
    clear hq
    have hkI : (k : Int) ≤ 15 := by omega
    go_wp2_with fail
    go_loopg [13, 14] M.length (fun gh bg iv wr => ∃ j : Nat, j ≤ M.length ∧ gh = M.length - j ∧ bg = .bool (begB M k c j) ∧ iv = .int .i64 (j : Int) ∧ (∀ i, i < j → ¬ hitI M k c i) ∧ ∃ m, wr = w.drewN m)
    case atStart => exact ⟨0, Nat.zero_le _, rfl, rfl, rfl, fun i hi => absurd hi (by omega), m, rfl⟩
    case round =>
      obtain ⟨j, hj, rfl, rfl, rfl, hno, m, rfl⟩ := hrel
      by_cases hlt : j < M.length
      · obtain ⟨b, off, rfl, hb, hcell⟩ := hat.get j (by simpa using hlt)
        obtain ⟨b', off', rfl, hb', hcell'⟩ := hbt.get j (by simpa using hlt)
        rw [up_get _ _ hlt] at hcell
        rw [up_get _ _ (by simpa using hlt), codesN_get M j hlt] at hcell'
        have hx15 := h15 M[j] (List.getElem_mem hlt)
        have hc2 := codeN_lt32 hM j hlt
        have HG : Hid (M.getD j 0 = M[j]) := getD_get M j hlt
        have HJ : Hid (j < M.length) := hlt
        have HN : Hid _ := hno
        have hjI : (j : Int) < (M.length : Int) := by omega
        clear hno
        have HBS : Hid (begB M k c (j + 1) = (begB M k c j || (decide (k < M[j]) && decide (codeN M j / 2 ^ (M[j] - k) = c)))) := by
          show (begB M k c j || (decide (k < M.getD j 0) && decide (codeN M j / 2 ^ (M.getD j 0 - k) = c))) = _
          rw [HG.out]
          rfl
        generalize M[j] = x at *
        have HCD : Hid (∀ y, y = codeN M j → codeN M j = y) := fun y h => h.symm
        generalize hcd : codeN M j = y at *
        have HY : Hid (codeN M j = y) := hcd
        clear hcd HCD
        by_cases hhit : x = k ∧ 0 < k ∧ y = c
        · obtain ⟨e1, e2, e3⟩ := hhit
          have HF : Hid (A = (j, 0, p + k)) := by
            have := rdG_found h15 B p k j HJ.out ⟨by rw [HG.out]; exact e1, e2, by rw [HY.out, ← HC.out]; exact e3⟩
            show A = _
            rw [HA1.out]; exact this
          subst e1 e3
          have hk0 : 0 < (x : Int) := by omega
          go_wp2_with fail
          go_ret3
          rw [HF.out]
          refine ⟨?_, _, rfl⟩
          rw [← HQ.out]
          rfl
        · have HNO : Hid (¬ (x = k ∧ 0 < k ∧ y = c)) := hhit
          have hx' : ((x : Int) == (k : Int)) = false ∨ (((x : Int) == (k : Int)) = true ∧ ¬ 0 < (k : Int)) ∨ (((x : Int) == (k : Int)) = true ∧ 0 < (k : Int) ∧ ((y : Int) == (c : Int)) = false) := by
            rw [beq_eq_false_iff_ne, beq_iff_eq, beq_eq_false_iff_ne]; omega
          clear hhit
          have HN2 : Hid (∀ i, i < j + 1 → ¬ hitI M k c i) := by
            intro i hi
            by_cases e : i = j
            · subst e
              rintro ⟨q1, q2, q3⟩
              exact HNO.out ⟨by rw [← HG.out]; exact q1, q2, by rw [← HY.out]; exact q3⟩
            · exact HN.out i (by omega)
          clear HN HNO
          cases hbg : begB M k c j with
          | true =>
            have HBG : Hid (begB M k c (j + 1) = true) := by
              show begB M k c (j + 1) = true
              rw [HBS.out, hbg]; rfl
            clear hbg HBS
            rcases hx' with q1 | ⟨q1, q2⟩ | ⟨q1, q2, q3⟩
            all_goals
              go_wp2_with fail
              go_quiet (fail)
              go_wp2_with fail
              go_roundg (M.length - (j + 1))
              case measure => have := HJ.out; omega
              case rel => exact ⟨j + 1, HJ.out, rfl, by rw [HBG.out], by go_num, HN2.out, _, rfl⟩
          | false =>
            by_cases hgt : k < x
            · have HBG : Hid (begB M k c (j + 1) = decide (y / 2 ^ (x - k) = c)) := by
                show begB M k c (j + 1) = _
                rw [HBS.out, hbg]; simp [hgt]
              have hgt' : decide ((k : Int) < (x : Int)) = true := by simpa using hgt
              have hgtI : (k : Int) < (x : Int) := by omega
              have q1 : ((x : Int) == (k : Int)) = false := by rw [beq_eq_false_iff_ne]; omega
              clear hbg HBS hx'
              go_wp2_with fail
              go_quiet (fail)
              go_wp2_with fail
              go_roundg (M.length - (j + 1))
              case measure => have := HJ.out; omega
              case rel =>
                refine ⟨j + 1, HJ.out, rfl, ?_, by go_num, HN2.out, _, rfl⟩
                rw [HBG.out, beq_shr]
            · have HBG : Hid (begB M k c (j + 1) = false) := by
                show begB M k c (j + 1) = _
                rw [HBS.out, hbg]; simp [hgt]
              have hgt' : decide ((k : Int) < (x : Int)) = false := by simp; omega
              have hgtI : ¬ (k : Int) < (x : Int) := by omega
              clear hbg HBS
              rcases hx' with q1 | ⟨q1, q2⟩ | ⟨q1, q2, q3⟩
              all_goals
                go_wp2_with fail
                go_quiet (fail)
                go_wp2_with fail
                go_roundg (M.length - (j + 1))
                case measure => have := HJ.out; omega
                case rel => exact ⟨j + 1, HJ.out, rfl, by rw [HBG.out], by go_num, HN2.out, _, rfl⟩
      · have hjM : j = M.length := by omega
        subst hjM
        have HNF : Hid (hitB M k (msb B p k) = false) := rdG_none h15 B p k HGE.out (fun i hi => by rw [← HC.out]; exact hno i hi)
        have hmi := miss_ge M k _ HNF.out
        rw [← HC.out] at hmi
        have hbi := begun_iff hM k c hk hmi HCLT.out
        have HMI : Hid _ := hmi
        clear hno hlt hj hmi
        cases hbg : begB M k c M.length with
        | false =>
          have hlo : longM M ≤ k := by
            rcases Nat.lt_or_ge k (longM M) with h | h
            · have := hbi.2 (by omega); rw [hbg] at this; cases this
            · exact h
          have HF : Hid (A = (0, 22, p + k)) := by
            show A = _
            rw [HA1.out, rdG_over M B p k HNF.out hk hlo]
          clear hbi hbg
          go_wp2_with fail
          go_ret3
          rw [HF.out]
          refine ⟨?_, _, rfl⟩
          rw [← HQ.out]
          rfl
        | true =>
          have hlo : ¬ longM M ≤ k := hbi.1 hbg
          have hk15 : k < 15 := by have := longM_le M; omega
          clear hbi hbg
          by_cases hend : 8 * B.length ≤ q
          · have HF : Hid (A = (0, 11, p + k)) := by
              show A = _
              rw [HA1.out, rdG_ends M B p k HNF.out hk hlo (by rw [← HQ.out]; exact hend)]
            go_wp2_with fail
            refine (HB0 q hend _).mono ?_
            rintro e w1 ⟨rfl, rfl⟩
            go_wp2_with fail
            go_ret3
            rw [HF.out]
            refine ⟨?_, _, rfl⟩
            rw [← HQ.out]
            rfl
          · have HF : Hid (A = rdG M B p (k + 1)) := by
              show A = _
              rw [HA1.out, rdG_next M B p k HNF.out hk hlo (by rw [← HQ.out]; exact hend)]
            have hbq := bitQ_le B q
            have HM : Hid (msb B p (k + 1) = 2 * c + bitQ B q) := by
              show 2 * msb B p k + bitQ B (p + k) = _
              rw [HC.out, HQ.out]
            have HF2 : Hid (firstN (cntN M) (k + 1) ≤ msb B p (k + 1)) := msb_first M B p k (by rw [← HC.out]; exact HMI.out)
            go_wp2_with fail
            refine (HB1 q (by omega) _).mono ?_
            rintro e w1 ⟨rfl, rfl⟩
            generalize bitQ B q = bq at *
            go_wp2_with fail
            go_roundg (15 - (k + 1))
            case measure => omega
            case rel =>
              refine ⟨k + 1, by omega, rfl, ?_, ?_, by go_num, ?_, HF2.out, HF.out, _, rfl⟩
              · have := HQ.out; exact congrArg (Value.int .i64) (by omega)
              · rw [HM.out]; exact congrArg (Value.int .u32) (by omega)
              · have := HQ.out; omega
#print axioms refread_any
end Go.Proofs.Ytdggaphhamaelaa
