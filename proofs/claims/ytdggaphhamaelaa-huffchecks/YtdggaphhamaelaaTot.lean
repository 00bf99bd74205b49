/- The contracts of huff.allNumbers and of the two Total. -/
import Derived.Test.YtdggaphhamaelaaRef
import Derived.Deep.LoopGhost
import Derived.Deep.QuietTactic
import Derived.BigQuiet
namespace Go.Proofs.Ytdggaphhamaelaa
open Go.RowKit

/-- Is a number from 0 to 2^31? -/
def numB (x : Int) : Bool := decide (0 ≤ x ∧ x ≤ 2147483648)
/-- Are all? -/
def numsB (L : List Int) : Bool := L.all numB
theorem numsB_no (L : List Int) (k : Nat) (h : k < L.length) (hb : L[k] < 0 ∨ 2147483648 < L[k]) : numsB L = false := by
  unfold numsB
  rw [List.all_eq_false]
  exact ⟨_, List.getElem_mem h, by unfold numB; simp; omega⟩
theorem numsB_yes (L : List Int) (h : ∀ i (hi : i < L.length), 0 ≤ L[i] ∧ L[i] ≤ 2147483648) : numsB L = true := by
  unfold numsB
  rw [List.all_eq_true]
  intro x hx
  obtain ⟨i, hi, rfl⟩ := List.getElem_of_mem hx
  have := h i hi
  unfold numB; simp; omega
theorem numsB_get {L : List Int} (h : numsB L = true) (i : Nat) (hi : i < L.length) : 0 ≤ L[i] ∧ L[i] ≤ 2147483648 := by
  unfold numsB at h
  rw [List.all_eq_true] at h
  have := h _ (List.getElem_mem hi)
  unfold numB at this
  simpa using this

set_option maxHeartbeats 800000 in
theorem allNumbers_any (v : Value) (L : List Int) (w : World) (hv : Ns .i64 w v L) :
    Calls Try.prog 32 #[v] w fun e w' => e = .returned (.bool (numsB L)) ∧ w' = w := by
  obtain ⟨ao, cap, rfl, h1, h2, h4, h3⟩ := hv
  have hat : NsAt .i64 w ao L := h3
  clear h3
  unfold maxLen at h2
  go_enter Try.func32, Try.ntmps32
  go_wp2_with fail
  go_loop [7] (fun i => ∃ k : Nat, k ≤ L.length ∧ i = .int .i64 (k : Int) ∧ ∀ i (hi : i < L.length), i < k → 0 ≤ L[i] ∧ L[i] ≤ 2147483648) (fun i => L.length - (intOf i).toNat)
  case atStart => exact ⟨0, Nat.zero_le _, rfl, fun _ _ h => absurd h (by omega)⟩
  case round =>
    obtain ⟨k, hk, rfl, hall⟩ := hrel
    by_cases hlt : k < L.length
    · obtain ⟨b, off, rfl, hb, hcell⟩ := hat.get k hlt
      by_cases hbad : L[k] < 0 ∨ 2147483648 < L[k]
      · have HC1 : Hid (numsB L = false) := numsB_no L k hlt hbad
        clear hall
        generalize L[k] = x at *
        rcases hbad with hbad | hbad
        · go_wp2
          go_ret
          exact ⟨ret_bool HC1.out.symm, rfl⟩
        · have hx0 : ¬ x < 0 := by omega
          go_wp2
          go_ret
          exact ⟨ret_bool HC1.out.symm, rfl⟩
      · have hall' : ∀ i (hi : i < L.length), i < k + 1 → 0 ≤ L[i] ∧ L[i] ≤ 2147483648 := by
          intro i hi hik
          by_cases e : i = k
          · subst e; omega
          · exact hall i hi (by omega)
        clear hall
        have hx0 : ¬ L[k] < 0 := by omega
        have hx1 : ¬ 2147483648 < L[k] := by omega
        clear hbad
        generalize L[k] = x at *
        go_wp2
        go_round
        case rel => exact ⟨k + 1, by omega, by go_num, hall'⟩
        case measure => simp [intOf]; omega
    · have HY : Hid (numsB L = true) := numsB_yes L (fun i hi => hall i hi (by omega))
      clear hall
      go_wp2_with fail
      go_ret
      exact ⟨ret_bool HY.out.symm, rfl⟩

/-- The sum of the first k products. -/
def dotN (C L : List Int) : Nat → Int
  | 0 => 0
  | k + 1 => dotN C L k + C.getD k 0 * L.getD k 0
/-- Has one of the first k sums passed 2^53? The answer of Total, of as many numbers that are all from 0 to 2^31. -/
def overB (C L : List Int) (k : Nat) : Bool := decide (∃ j, j ≤ k ∧ 9007199254740992 < dotN C L j)
/-- The answer of Total. -/
def totA (C L : List Int) : Int × Int :=
  if C.length = L.length ∧ numsB C = true ∧ numsB L = true then if ∃ j, j ≤ C.length ∧ 9007199254740992 < dotN C L j then (0, 3) else (dotN C L C.length, 0) else (0, 1)
theorem totA_no (C L : List Int) (h : ¬ (C.length = L.length ∧ numsB C = true ∧ numsB L = true)) : totA C L = (0, 1) := by unfold totA; rw [if_neg h]
theorem totA_long (C L : List Int) (h : C.length = L.length ∧ numsB C = true ∧ numsB L = true) (j : Nat) (hj : j ≤ C.length) (hd : 9007199254740992 < dotN C L j) : totA C L = (0, 3) := by
  unfold totA; rw [if_pos h, if_pos ⟨j, hj, hd⟩]
theorem totA_ok (C L : List Int) (h : C.length = L.length ∧ numsB C = true ∧ numsB L = true) (hd : ∀ j, j ≤ C.length → dotN C L j ≤ 9007199254740992) : totA C L = (dotN C L C.length, 0) := by
  unfold totA; rw [if_pos h, if_neg]
  rintro ⟨j, hj, hd'⟩
  have := hd j hj
  omega
theorem prod_le (x y : Int) (hx : 0 ≤ x ∧ x ≤ 2147483648) (hy : 0 ≤ y ∧ y ≤ 2147483648) : 0 ≤ x * y ∧ x * y ≤ 4611686018427387904 :=
  ⟨Int.mul_nonneg hx.1 hy.1, Int.le_trans (Int.mul_le_mul hx.2 hy.2 hy.1 (by omega)) (by decide)⟩
theorem dot0 (C L : List Int) : ∀ j, j ≤ 0 → 0 ≤ dotN C L j ∧ dotN C L j ≤ 9007199254740992 := by
  intro j hj
  obtain rfl : j = 0 := by omega
  show (0 : Int) ≤ 0 ∧ (0 : Int) ≤ 9007199254740992
  omega
theorem getD_int (L : List Int) (i : Nat) (h : i < L.length) : L.getD i 0 = L[i] := by simp [h]

set_option maxHeartbeats 1600000 in
theorem total_good (c v : Value) (C L : List Int) (w : World) (hc : Ns .i64 w c C) (hv : Ns .i64 w v L) (h : C.length = L.length ∧ numsB C = true ∧ numsB L = true) :
    Calls Try.prog 14 #[c, v] w fun e w' => e = .returned (.tuple #[.int .i64 (totA C L).1, .int .i64 (totA C L).2]) ∧ w' = w := by
  have HC := allNumbers_any c C w hc
  have HL := allNumbers_any v L w hv
  obtain ⟨ao, acap, rfl, a1, a2, a4, a3⟩ := hc
  obtain ⟨bo, bcap, rfl, b1, b2, b4, b3⟩ := hv
  have hat : NsAt .i64 w ao C := a3
  have hbt : NsAt .i64 w bo L := b3
  clear a3 b3
  unfold maxLen at a2 b2
  obtain ⟨hl, hnc, hnl⟩ := h
  have H3 : Hid (C.length = L.length ∧ numsB C = true ∧ numsB L = true) := ⟨hl, hnc, hnl⟩
  rw [hnc] at HC
  rw [hnl] at HL
  have GC : ∀ i (hi : i < C.length), 0 ≤ C[i] ∧ C[i] ≤ 2147483648 := fun i hi => numsB_get hnc i hi
  have GL : ∀ i (hi : i < L.length), 0 ≤ L[i] ∧ L[i] ≤ 2147483648 := fun i hi => numsB_get hnl i hi
  obtain ⟨n, hn1, hn2⟩ : ∃ n, C.length = n ∧ L.length = n := ⟨_, hl, rfl⟩
  rw [hn1] at a1 HC
  rw [hn2] at b1 HL
  rw [hn1, hn2]
  have HN1 : Hid (C.length = n) := hn1
  have HN2 : Hid (L.length = n) := hn2
  clear hn1 hn2 hnc hnl hl
  go_enter Try.func14, Try.ntmps14
  go_wp2_with fail
  refine HC.mono ?_
  rintro e w1 ⟨rfl, rfl⟩
  go_wp2_with fail
  refine HL.mono ?_
  rintro e w1 ⟨rfl, rfl⟩
  go_wp2_with fail
  go_loop [6, 26] (fun t i => ∃ k : Nat, k ≤ n ∧ i = .int .i64 (k : Int) ∧ t = .int .i64 (dotN C L k) ∧ ∀ j, j ≤ k → 0 ≤ dotN C L j ∧ dotN C L j ≤ 9007199254740992) (fun _ i => n - (intOf i).toNat)
  case atStart => exact ⟨0, Nat.zero_le _, rfl, rfl, dot0 C L⟩
  case round =>
    obtain ⟨k, hk, rfl, rfl, hall⟩ := hrel
    have hk0 := hall k (Nat.le_refl _)
    by_cases hlt : k < n
    · have hkC : k < C.length := by have := HN1.out; omega
      have hkL : k < L.length := by have := HN2.out; omega
      obtain ⟨b, off, rfl, hb, hcell⟩ := hat.get k hkC
      obtain ⟨b', off', rfl, hb', hcell'⟩ := hbt.get k hkL
      have g1 := GC k hkC
      have g2 := GL k hkL
      have gp := prod_le _ _ g1 g2
      have HD : Hid (dotN C L (k + 1) = dotN C L k + C[k] * L[k]) := by
        show dotN C L k + C.getD k 0 * L.getD k 0 = _
        rw [getD_int C k hkC, getD_int L k hkL]
      clear GC GL HC HL
      generalize C[k] = x at *
      generalize L[k] = y at *
      clear hkC hkL
      by_cases hov : 9007199254740992 < dotN C L k + x * y
      · clear hall
        go_wp2
        go_ret2
        have ht := totA_long C L H3.out (k + 1) (by have := HN1.out; omega) (by rw [HD.out]; exact hov)
        rw [ht]
        exact ⟨rfl, rfl⟩
      · have HA : Hid _ := hall
        clear hall
        go_wp2
        go_round
        case rel =>
          refine ⟨k + 1, by omega, by go_num, by rw [HD.out], fun j hj => ?_⟩
          by_cases e : j = k + 1
          · subst e; rw [HD.out]; omega
          · exact HA.out j (by omega)
        case measure => simp [intOf]; omega
    · have hkn : k = n := by omega
      subst hkn
      have HT : Hid _ := totA_ok C L H3.out (fun j hj => (hall j (by have := HN1.out; omega)).2)
      clear hall
      go_wp2_with fail
      go_ret2
      rw [HT.out, HN1.out]
      exact ⟨rfl, rfl⟩

set_option maxHeartbeats 800000 in
theorem total_bad (c v : Value) (C L : List Int) (w : World) (hc : Ns .i64 w c C) (hv : Ns .i64 w v L) (h : ¬ (C.length = L.length ∧ numsB C = true ∧ numsB L = true)) :
    Calls Try.prog 14 #[c, v] w fun e w' => e = .returned (.tuple #[.int .i64 (totA C L).1, .int .i64 (totA C L).2]) ∧ w' = w := by
  have HC := allNumbers_any c C w hc
  have HL := allNumbers_any v L w hv
  rw [totA_no C L h]
  obtain ⟨ao, acap, rfl, a1, a2, a4, a3⟩ := hc
  obtain ⟨bo, bcap, rfl, b1, b2, b4, b3⟩ := hv
  by_cases hl : C.length = L.length
  · have hn : numsB C = false ∨ numsB C = true ∧ numsB L = false := by
      cases h1 : numsB C
      · exact Or.inl rfl
      · cases h2 : numsB L
        · exact Or.inr ⟨rfl, rfl⟩
        · exact absurd ⟨hl, h1, h2⟩ h
    clear h a3 b3
    obtain ⟨n, hn1, hn2⟩ : ∃ n, C.length = n ∧ L.length = n := ⟨_, hl, rfl⟩
    rw [hn1] at a1 HC
    rw [hn2] at b1 HL
    rw [hn1, hn2]
    clear hn1 hn2 hl
    rcases hn with h1 | ⟨h1, h2⟩
    · rw [h1] at HC
      clear h1
      go_enter Try.func14, Try.ntmps14
      go_wp2_with fail
      refine HC.mono ?_
      rintro e w1 ⟨rfl, rfl⟩
      go_wp2_with fail
      go_ret2
      exact ⟨rfl, rfl⟩
    · rw [h1] at HC
      rw [h2] at HL
      clear h1 h2
      go_enter Try.func14, Try.ntmps14
      go_wp2_with fail
      refine HC.mono ?_
      rintro e w1 ⟨rfl, rfl⟩
      go_wp2_with fail
      refine HL.mono ?_
      rintro e w1 ⟨rfl, rfl⟩
      go_wp2_with fail
      go_ret2
      exact ⟨rfl, rfl⟩
  · have hll : ((C.length : Int) == (L.length : Int)) = false := by simp; omega
    clear h a3 b3
    go_enter Try.func14, Try.ntmps14
    go_wp2_with fail
    go_ret2
    exact ⟨rfl, rfl⟩

theorem total_any (c v : Value) (C L : List Int) (w : World) (hc : Ns .i64 w c C) (hv : Ns .i64 w v L) :
    Calls Try.prog 14 #[c, v] w fun e w' => e = .returned (.tuple #[.int .i64 (totA C L).1, .int .i64 (totA C L).2]) ∧ w' = w := by
  by_cases h : C.length = L.length ∧ numsB C = true ∧ numsB L = true
  · exact total_good c v C L w hc hv h
  · exact total_bad c v C L w hc hv h

set_option maxHeartbeats 800000 in
theorem reftotal_len (c v : Value) (C L : List Int) (w : World) (hc : Ns .i64 w c C) (hv : Ns .i64 w v L) (h : ¬ C.length = L.length) :
    Calls Try.prog 15 #[c, v] w fun e w' => e = .returned (.tuple #[.int .i64 (totA C L).1, .int .i64 (totA C L).2]) ∧ Fr noB w w' := by
  rw [totA_no C L (fun hh => h hh.1)]
  obtain ⟨ao, acap, rfl, a1, a2, a4, a3⟩ := hc
  obtain ⟨bo, bcap, rfl, b1, b2, b4, b3⟩ := hv
  have hll : ((C.length : Int) == (L.length : Int)) = false := by simp; omega
  clear h a3 b3
  go_enter Try.func15, Try.ntmps15
  go_wp2_with fail
  go_ret2
  exact ⟨rfl, Fr.refl _ _⟩

set_option maxHeartbeats 1600000 in
theorem reftotal_eq (c v : Value) (C L : List Int) (w : World) (hc : Ns .i64 w c C) (hv : Ns .i64 w v L) (hl : C.length = L.length) :
    Calls Try.prog 15 #[c, v] w fun e w' => e = .returned (.tuple #[.int .i64 (totA C L).1, .int .i64 (totA C L).2]) ∧ Fr noB w w' := by
  obtain ⟨ao, acap, rfl, a1, a2, a4, a3⟩ := hc
  obtain ⟨bo, bcap, rfl, b1, b2, b4, b3⟩ := hv
  have hat : NsAt .i64 w ao C := a3
  have hbt : NsAt .i64 w bo L := b3
  clear a3 b3
  unfold maxLen at a2 b2
  obtain ⟨n, hn1, hn2⟩ : ∃ n, C.length = n ∧ L.length = n := ⟨_, hl, rfl⟩
  have HN1 : Hid (C.length = n) := hn1
  have HN2 : Hid (L.length = n) := hn2
  rw [hn1] at a1
  rw [hn2] at b1
  rw [hn1, hn2]
  clear hn1 hn2 hl
  go_enter Try.func15, Try.ntmps15
  go_wp2_with fail
  go_loop [6] (fun i => ∃ k : Nat, k ≤ n ∧ i = .int .i64 (k : Int) ∧ (∀ i (hi : i < C.length), i < k → 0 ≤ C[i] ∧ C[i] ≤ 2147483648) ∧ (∀ i (hi : i < L.length), i < k → 0 ≤ L[i] ∧ L[i] ≤ 2147483648)) (fun i => n - (intOf i).toNat)
  case atStart => exact ⟨0, Nat.zero_le _, rfl, fun _ _ h => absurd h (by omega), fun _ _ h => absurd h (by omega)⟩
  case round =>
    obtain ⟨k, hk, rfl, hac, hal⟩ := hrel
    by_cases hlt : k < n
    · have hkC : k < C.length := by have := HN1.out; omega
      have hkL : k < L.length := by have := HN2.out; omega
      obtain ⟨b, off, rfl, hb, hcell⟩ := hat.get k hkC
      obtain ⟨b', off', rfl, hb', hcell'⟩ := hbt.get k hkL
      by_cases hbad : (C[k] < 0 ∨ 2147483648 < C[k]) ∨ (L[k] < 0 ∨ 2147483648 < L[k])
      · have HT : Hid (totA C L = (0, 1)) := totA_no C L (fun hh => by
          rcases hbad with h | h
          · rw [numsB_no C k hkC h] at hh; exact absurd hh.2.1 (by decide)
          · rw [numsB_no L k hkL h] at hh; exact absurd hh.2.2 (by decide))
        clear hac hal
        generalize C[k] = x at *
        generalize L[k] = y at *
        clear hkC hkL
        have hway : x < 0 ∨ (¬ x < 0 ∧ 2147483648 < x) ∨ (¬ x < 0 ∧ ¬ 2147483648 < x ∧ y < 0) ∨ (¬ x < 0 ∧ ¬ 2147483648 < x ∧ ¬ y < 0 ∧ 2147483648 < y) := by omega
        clear hbad
        rcases hway with w1 | ⟨w1, w2⟩ | ⟨w1, w2, w3⟩ | ⟨w1, w2, w3, w4⟩
        all_goals
          go_wp2
          go_ret2
          rw [HT.out]
          exact ⟨rfl, Fr.refl _ _⟩
      · have hac' : ∀ i (hi : i < C.length), i < k + 1 → 0 ≤ C[i] ∧ C[i] ≤ 2147483648 := by
          intro i hi hik
          by_cases e : i = k
          · subst e; omega
          · exact hac i hi (by omega)
        have hal' : ∀ i (hi : i < L.length), i < k + 1 → 0 ≤ L[i] ∧ L[i] ≤ 2147483648 := by
          intro i hi hik
          by_cases e : i = k
          · subst e; omega
          · exact hal i hi (by omega)
        clear hac hal
        have c1 : ¬ C[k] < 0 := by omega
        have c2 : ¬ 2147483648 < C[k] := by omega
        have c3 : ¬ L[k] < 0 := by omega
        have c4 : ¬ 2147483648 < L[k] := by omega
        clear hbad
        generalize C[k] = x at *
        generalize L[k] = y at *
        go_wp2
        go_round
        case rel => exact ⟨k + 1, by omega, by go_num, hac', hal'⟩
        case measure => simp [intOf]; omega
    · have hnc : numsB C = true := numsB_yes C (fun i hi => hac i hi (by have := HN1.out; omega))
      have hnl : numsB L = true := numsB_yes L (fun i hi => hal i hi (by have := HN2.out; omega))
      have H3 : Hid (C.length = L.length ∧ numsB C = true ∧ numsB L = true) := ⟨HN1.out.trans HN2.out.symm, hnc, hnl⟩
      have GC : ∀ i (hi : i < C.length), 0 ≤ C[i] ∧ C[i] ≤ 2147483648 := fun i hi => numsB_get hnc i hi
      have GL : ∀ i (hi : i < L.length), 0 ≤ L[i] ∧ L[i] ≤ 2147483648 := fun i hi => numsB_get hnl i hi
      clear hac hal hnc hnl
      have hkn : k = n := by omega
      subst hkn
      clear hlt hk
      go_wp2_with fail
      go_loopw [7, 8] (fun t i wr => ∃ j : Nat, j ≤ k ∧ i = .int .i64 (j : Int) ∧ t = .int .i64 (dotN C L j) ∧ (∀ i, i ≤ j → 0 ≤ dotN C L i ∧ dotN C L i ≤ 9007199254740992) ∧ ∃ m, wr = w.drewN m) (fun _ i _ => k - (intOf i).toNat)
      case atStart => exact ⟨0, Nat.zero_le _, rfl, rfl, dot0 C L, 0, rfl⟩
      case round =>
        obtain ⟨j, hj, rfl, rfl, hall, m, rfl⟩ := hrel
        have hj0 := hall j (Nat.le_refl _)
        by_cases hlt : j < k
        · have hkC : j < C.length := by have := HN1.out; omega
          have hkL : j < L.length := by have := HN2.out; omega
          obtain ⟨b, off, rfl, hb, hcell⟩ := hat.get j hkC
          obtain ⟨b', off', rfl, hb', hcell'⟩ := hbt.get j hkL
          have g1 := GC j hkC
          have g2 := GL j hkL
          have gp := prod_le _ _ g1 g2
          have HD : Hid (dotN C L (j + 1) = dotN C L j + C[j] * L[j]) := by
            show dotN C L j + C.getD j 0 * L.getD j 0 = _
            rw [getD_int C j hkC, getD_int L j hkL]
          clear GC GL
          generalize C[j] = x at *
          generalize L[j] = y at *
          clear hkC hkL
          have HA : Hid _ := hall
          clear hall
          by_cases hov : 9007199254740992 < dotN C L j + x * y
          · go_wp2_with fail
            go_quiet (fail)
            go_wp2
            go_ret2
            have ht := totA_long C L H3.out (j + 1) (by have := HN1.out; omega) (by rw [HD.out]; exact hov)
            rw [ht]
            exact ⟨rfl, (Fr.refl _ _).drewN _⟩
          · go_wp2_with fail
            go_quiet (fail)
            go_wp2
            go_roundw
            case rel =>
              refine ⟨j + 1, by omega, by go_num, by rw [HD.out], fun i hi => ?_, _, rfl⟩
              by_cases e : i = j + 1
              · subst e; rw [HD.out]; omega
              · exact HA.out i (by omega)
            case measure => simp [intOf]; omega
        · have hkn : j = k := by omega
          subst hkn
          have HT : Hid _ := totA_ok C L H3.out (fun i hi => (hall i (by have := HN1.out; omega)).2)
          clear hall
          go_wp2_with fail
          go_ret2
          rw [HT.out, HN1.out]
          exact ⟨rfl, (Fr.refl _ _).drewN _⟩

theorem reftotal_any (c v : Value) (C L : List Int) (w : World) (hc : Ns .i64 w c C) (hv : Ns .i64 w v L) :
    Calls Try.prog 15 #[c, v] w fun e w' => e = .returned (.tuple #[.int .i64 (totA C L).1, .int .i64 (totA C L).2]) ∧ Fr noB w w' := by
  by_cases h : C.length = L.length
  · exact reftotal_eq c v C L w hc hv h
  · exact reftotal_len c v C L w hc hv h
#print axioms total_any
#print axioms reftotal_any
end Go.Proofs.Ytdggaphhamaelaa
