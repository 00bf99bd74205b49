/- The walk of the law HuffAlone. -/
import Derived.Test.YtdggaphhamaelabSame
import Derived.Test.YtdggaphhamaelabDecM
import Derived.Test.YtdggaphhamaelabOpen
namespace Go.Proofs.Ytdggaphhamaelab
open Go.RowKit

/-- Codes of one length rise with the symbols. -/
theorem code_rise {M : List Nat} (i k : Nat) (hi : i < M.length) (hk : k < M.length) (h0 : 0 < M[i]) (hl : M[i] = M[k]) (h : i < k) : codeN M i < codeN M k := by
  unfold codeN
  rw [getD_get M i hi, getD_get M k hk, if_neg (by omega), if_neg (by omega), ← hl]
  have h1 : cntN (M.take (i + 1)) M[i] = cntN (M.take i) M[i] + 1 := by
    rw [take_snoc M i hi, cntN_snoc _ _ h0]; simp [upd]
  have h2 := count_take_mono M (i + 1) k M[i] (by omega)
  omega
theorem code_order {M : List Nat} (i k : Nat) (hi : i < M.length) (hk : k < M.length) (h0 : 0 < M[i]) (hl : M[i] = M[k]) (hne : k ≠ i) : codeN M k ≠ codeN M i ∧ (codeN M i < codeN M k ↔ i < k) := by
  rcases Nat.lt_trichotomy i k with h | h | h
  · have := code_rise i k hi hk h0 hl h; omega
  · omega
  · have := code_rise k i hk hi (by omega) hl.symm h; omega
theorem code_longer {M : List Nat} (i k : Nat) (hi : i < M.length) (hk : k < M.length) (h0 : 0 < M[i]) (hl : M[i] < M[k]) (h15 : M[k] ≤ 15) : codeN M i < codeN M k / 2 ^ (M[k] - M[i]) := by
  have h1 := prefix_ge k M[i] hk hl h15
  have h2 := code_in i hi h0
  omega
/-- The room of a code. -/
theorem room_of {M : List Nat} (hM : Code M) : roomN M = 32768 ∨ roomN M = 16384 ∨ roomN M = 0 := by
  have h := hM.is
  unfold codeB at h
  rw [decide_eq_true_iff] at h
  rcases h with h | h | ⟨_, h⟩
  · right; right
    have key : ∀ N : List Nat, manyN N = 0 → roomN N = 0 := by
      intro N
      induction N with
      | nil => simp [roomN]
      | cons x N ih =>
        intro hN
        simp only [manyN] at hN
        by_cases h0 : x = 0
        · subst h0
          simp only [if_true] at hN
          simp [roomN, ih (by omega)]
        · rw [if_neg h0] at hN; omega
    exact key M h
  · exact Or.inl h
  · exact Or.inr (Or.inl h)

set_option maxHeartbeats 800000 in
theorem alone_bad (v : Value) (L : List Int) (w : World) (hv : Ns .i64 w v L) (hc : chk L ≠ 0) :
    Calls Try.prog 3 #[v] w fun e w' => e = .returned (.bool true) ∧ Below w.heap.size w w' := by
  have HC := codes_bad v L w hv hc
  have HK := fun w1 (hF : Fr noB w w1) => refcheck_any v L w1 (hv.keep hF)
  generalize chk L = q at *
  have hq1 : (q == 0) = false := by simpa using hc
  have hq2 : (q != 0) = true := by simpa using hc
  clear hc
  obtain ⟨ao, acap, rfl, a1, a2, a4, a3⟩ := hv
  clear a3
  go_enter Try.func3, Try.ntmps3
  go_wp2_with fail
  refine HC.mono ?_
  rintro e w1 ⟨rfl, hF1⟩
  go_wp2_with fail
  refine (begun_any _).mono ?_
  rintro e w2 ⟨rfl, hF2⟩
  go_wp2_with fail
  refine (HK _ (hF1.trans hF2)).mono ?_
  rintro e w3 ⟨rfl, rfl⟩
  go_wp2_with fail
  go_ret
  exact ⟨rfl, (hF1.trans hF2).below (Nat.le_refl _) (fun k hk => hk.elim)⟩

set_option maxRecDepth 100000 in
set_option maxHeartbeats 3200000 in
theorem alone_good (v : Value) (M : List Nat) (w : World) (hv : Ns .i64 w v (up M)) (hM : Code M) :
    Calls Try.prog 3 #[v] w fun e w' => e = .returned (.bool true) ∧ Below w.heap.size w w' := by
  have HC := codes_good v M w hv hM
  have HK := fun w1 (hF : Fr noB w w1) => refcheck_any v (up M) w1 (hv.keep hF)
  rw [hM.ok] at HK
  have hms := hM.short
  have h15 := hM.le
  obtain ⟨ao, acap, rfl, a1, a2, a4, a3⟩ := hv
  have hat0 : NsAt .i64 w ao (up M) := a3
  clear a3
  rw [length_up] at *
  unfold maxLen at a2
  go_enter Try.func3, Try.ntmps3
  go_wp2_with fail
  refine HC.mono ?_
  rintro e w1 ⟨cg, rfl, hcg, hrow, hF1⟩
  go_wp2_with fail
  refine (begun_any _).mono ?_
  rintro e w2 ⟨rfl, hF2⟩
  go_wp2_with fail
  refine (HK _ (hF1.trans hF2)).mono ?_
  rintro e w3 ⟨rfl, rfl⟩
  have hF := hF1.trans hF2
  have hat := hat0.keep hF
  have hro := hrow.keep hF2 id
  clear hF1 hF2 hat0 hrow HK HC
  go_wp2_with fail
  go_loopg [5, 36] M.length (fun gh rm iv wr => ∃ i : Nat, i ≤ M.length ∧ gh = M.length - i ∧ rm = .int .i64 ((roomN (M.take i) : Nat) : Int) ∧ iv = .int .i64 (i : Int) ∧ ∃ m, wr = w3.drewN m)
  case atStart => exact ⟨0, Nat.zero_le _, rfl, rfl, rfl, 0, rfl⟩
  case round =>
    obtain ⟨i, hi, rfl, rfl, rfl, m, rfl⟩ := hrel
    by_cases hlt : i < M.length
    · obtain ⟨b, off, rfl, hb, hcell⟩ := hat.get i (by simpa using hlt)
      rw [up_get _ _ hlt] at hcell
      have ccell := hro.cell i (by simpa using hlt)
      rw [codesN_get M i hlt] at ccell
      have hx15 := h15 M[i] (List.getElem_mem hlt)
      have HT : Hid (roomN (M.take (i + 1)) = roomN (M.take i) + if M[i] = 0 then 0 else 2 ^ (15 - M[i])) := by rw [take_snoc M i hlt]; exact roomN_snoc _ _
      have hr1 := roomN_le (M.take i)
      have hr : roomN (M.take i) ≤ 16777216 := by rw [List.length_take] at hr1; omega
      have hca := codeN_lt32 hM i hlt
      have HZ : Hid (M[i] = 0 → codeN M i = 0) := fun h => codeN_of0 M i hlt h
      have HPAIR0 : Hid (¬ M[i] = 0 → ∀ k (hk : k < M.length), (M[k] = M[i] → k ≠ i → codeN M k ≠ codeN M i ∧ (codeN M i < codeN M k ↔ i < k)) ∧ (M[i] < M[k] → codeN M i < codeN M k / 2 ^ (M[k] - M[i]))) := by
        intro h0 k hk
        exact ⟨fun e hne => code_order i k hlt hk (by omega) e.symm hne, fun hl => code_longer i k hlt hk (by omega) hl (h15 _ (List.getElem_mem hk))⟩
      have hltI : (i : Int) < (M.length : Int) := by omega
      generalize M[i] = x at *
      generalize codeN M i = ca at *
      have HI : Hid (i < M.length) := hlt
      clear hr1
      by_cases hx0 : x = 0
      · have hz := HZ.out hx0
        subst hx0 hz
        have HT2 : Hid (roomN (M.take (i + 1)) = roomN (M.take i)) := HT.out
        clear HT HZ HPAIR0
        go_wp2_with fail
        go_roundg (M.length - (i + 1))
        case measure => have := HI.out; omega
        case rel => exact ⟨i + 1, HI.out, rfl, by rw [HT2.out], by go_num, m, rfl⟩
      · have HT2 : Hid (roomN (M.take (i + 1)) = roomN (M.take i) + 2 ^ (15 - x)) := by
          have := HT.out
          rw [if_neg hx0] at this
          exact this
        have HPAIR : Hid _ := HPAIR0.out hx0
        clear HT HZ HPAIR0
        have hx0' : ((x : Int) == 0) = false := by rw [beq_eq_false_iff_ne]; omega
        have hxI : ¬ (x : Int) = 0 := by omega
        have HX0 : Hid (¬ x = 0) := hx0
        clear hx0
        go_wp2_with fail
        go_loopg [58] M.length (fun gh kv wr => ∃ k : Nat, k ≤ M.length ∧ gh = M.length - k ∧ kv = .int .i64 (k : Int) ∧ ∃ m, wr = w3.drewN m)
        case atStart => exact ⟨0, Nat.zero_le _, rfl, rfl, m, rfl⟩
        case round =>
          obtain ⟨k, hk, rfl, rfl, m, rfl⟩ := hrel
          by_cases hklt : k < M.length
          · obtain ⟨b2, off2, e2, hb2, kcell⟩ := hat.get k (by simpa using hklt)
            simp at e2
            obtain ⟨rfl, rfl⟩ := e2
            rw [up_get _ _ hklt] at kcell
            have dcell := hro.cell k (by simpa using hklt)
            rw [codesN_get M k hklt] at dcell
            have hy15 := h15 M[k] (List.getElem_mem hklt)
            have hcb := codeN_lt32 hM k hklt
            have HP := HPAIR.out k hklt
            have hkI : (k : Int) < (M.length : Int) := by omega
            have hyx : (M[k] = x → k ≠ i → codeN M k ≠ ca ∧ (ca < codeN M k ↔ i < k)) ∧ (x < M[k] → ca < codeN M k / 2 ^ (M[k] - x)) := HP
            clear HP
            generalize M[k] = y at *
            generalize codeN M k = cb at *
            have HKL : Hid (k < M.length) := hklt
            have HYX : Hid _ := hyx
            clear hyx
            by_cases hki : k = i
            · subst hki
              go_wp2_with fail
              go_quiet (fail)
              go_wp2_with fail
              go_roundg (M.length - (k + 1))
              case measure => have := HKL.out; omega
              case rel => exact ⟨k + 1, HKL.out, rfl, by go_num, _, rfl⟩
            have hki' : ((k : Int) == (i : Int)) = false := by rw [beq_eq_false_iff_ne]; omega
            by_cases hy0 : y = 0
            · subst hy0
              go_wp2_with fail
              go_quiet (fail)
              go_wp2_with fail
              go_roundg (M.length - (k + 1))
              case measure => have := HKL.out; omega
              case rel => exact ⟨k + 1, HKL.out, rfl, by go_num, _, rfl⟩
            have hy0' : ((y : Int) == 0) = false := by rw [beq_eq_false_iff_ne]; omega
            by_cases hyl : y < x
            · have hyl' : decide ((y : Int) < (x : Int)) = true := by simpa using hyl
              have hylI : (y : Int) < (x : Int) := by omega
              go_wp2_with fail
              go_quiet (fail)
              go_wp2_with fail
              go_roundg (M.length - (k + 1))
              case measure => have := HKL.out; omega
              case rel => exact ⟨k + 1, HKL.out, rfl, by go_num, _, rfl⟩
            have hyl' : decide ((y : Int) < (x : Int)) = false := by simpa using hyl
            have hylI : ¬ (y : Int) < (x : Int) := by omega
            by_cases hyx : y = x
            · obtain ⟨q1, q2⟩ := HYX.out.1 hyx hki
              subst hyx
              have e1 : ((cb : Int) == (ca : Int)) = false := by rw [beq_eq_false_iff_ne]; omega
              by_cases hik : i < k
              · have e2 : (ca : Int) < (cb : Int) := by omega
                have e3 : (i : Int) < (k : Int) := by omega
                have e4 : decide ((ca : Int) < (cb : Int)) = true := by simpa using e2
                have e5 : decide ((i : Int) < (k : Int)) = true := by simpa using e3
                clear q1 q2 HYX HPAIR hik
                go_wp2_with fail
                go_quiet (fail)
                go_wp2_with fail
                go_quiet (fail)
                go_wp2_with fail
                go_quiet (fail)
                go_wp2_with fail
                go_roundg (M.length - (k + 1))
                case measure => have := HKL.out; omega
                case rel => exact ⟨k + 1, HKL.out, rfl, by go_num, _, rfl⟩
              · have e2 : ¬ (ca : Int) < (cb : Int) := by omega
                have e3 : ¬ (i : Int) < (k : Int) := by omega
                have e4 : decide (ca < cb) = false := by simp; omega
                have e5 : decide (i < k) = false := by simp; omega
                clear q1 q2 HYX HPAIR hik e2 e3
                go_wp2_with fail
                go_quiet (fail)
                go_wp2_with fail
                go_quiet (fail)
                go_wp2_with fail
                go_quiet (fail)
                go_wp2_with fail
                go_roundg (M.length - (k + 1))
                case measure => have := HKL.out; omega
                case rel => exact ⟨k + 1, HKL.out, rfl, by go_num, _, rfl⟩
            · have q1 := HYX.out.2 (by omega)
              obtain ⟨cut, hcut⟩ : ∃ cut, cut = cb / 2 ^ (y - x) := ⟨_, rfl⟩
              rw [← hcut] at q1
              have hcI : ((cb : Int) / 2 ^ (y - x)) = (cut : Int) := by rw [hcut]; simp
              have e1 : ((cut : Int) == (ca : Int)) = false := by rw [beq_eq_false_iff_ne]; omega
              have e2 : ((y : Int) == (x : Int)) = false := by rw [beq_eq_false_iff_ne]; omega
              have e3 : decide ((x : Int) < (y : Int)) = true := by simp; omega
              have e4 : decide ((cut : Int) < (ca : Int)) = false := by simp; omega
              have e5 : (x : Int) < (y : Int) := by omega
              have e6 : ¬ (cut : Int) < (ca : Int) := by omega
              clear hcut q1 HYX HPAIR
              go_wp2_with fail
              go_quiet (fail)
              go_wp2_with fail
              go_quiet (fail)
              go_wp2_with fail
              go_quiet (fail)
              go_wp2_with fail
              go_roundg (M.length - (k + 1))
              case measure => have := HKL.out; omega
              case rel => exact ⟨k + 1, HKL.out, rfl, by go_num, _, rfl⟩
          · have hkM : k = M.length := by omega
            subst hkM
            go_wp2_with fail
            go_roundg (M.length - (i + 1))
            case measure => have := HI.out; omega
            case rel =>
              refine ⟨i + 1, HI.out, rfl, ?_, by go_num, m, rfl⟩
              rw [HT2.out]
              exact congrArg (Value.int .i64) (refroom_step _ x hx15 hr)
    · have hiM : i = M.length := by omega
      subst hiM
      have hrm := room_of hM
      rw [show roomN M = roomN (M.take M.length) by rw [List.take_length]] at hrm
      generalize roomN (M.take M.length) = R at *
      have hFz := (hF.drewN m).below (Nat.le_refl _) (fun k hk => hk.elim)
      clear hro hat
      rcases hrm with rfl | rfl | rfl
      all_goals
        go_wp2_with fail
        go_ret
        exact ⟨rfl, hFz⟩

theorem alone_walk (v : Value) (L : List Int) (w : World) (hv : Ns .i64 w v L) :
    Calls Try.prog 3 #[v] w fun e w' => e = .returned (.bool true) ∧ Below w.heap.size w w' := by
  by_cases hc : chk L = 0
  · obtain ⟨M, rfl, hM⟩ := code_of L hc
    exact alone_good v M w hv hM
  · exact alone_bad v L w hv hc
#print axioms alone_walk
end Go.Proofs.Ytdggaphhamaelab
