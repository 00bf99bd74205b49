/- Days as dates: the mathematics, and dateOf. -/
import Derived.Test.YtfpefegpilkbgaaGreatDoorNDay
import Derived.Deep.RegionLaw
import Derived.OwnWalk
namespace Go.Proofs.YtfpefegpilkbgaaGreatDoor
open Go.RowKit

/-- The date of a day. -/
def IsDay (n y : Int) (m : Nat) (d : Int) : Prop := 1 ≤ y ∧ y ≤ 9999 ∧ 1 ≤ m ∧ m ≤ 12 ∧ 1 ≤ d ∧ d ≤ domF y m ∧ dayF y m d = n

theorem upS (y : Int) (k : Nat) : upF y (k + 1) = upF y k + domF y (k + 1) := rfl
theorem upF_year (y : Int) : upF y 12 = 365 + (if leapF y then 1 else 0) := by
  simp only [upF, domF]
  cases h : leapF y <;> simp [mdays]
theorem aheadF_next (y : Int) : aheadF (y + 1) = aheadF y + upF y 12 := by
  rw [upF_year]
  unfold aheadF leapF
  by_cases c1 : y % 4 = 0
  · by_cases c2 : y % 100 = 0
    · by_cases c3 : y % 400 = 0
      · simp [c1, c2, c3]; omega
      · simp [c1, c2, c3]; omega
    · simp [c1, c2]; omega
  · have c3 : ¬ y % 400 = 0 := by omega
    simp [c1, c3]; omega
theorem upF_mono (y : Int) {a b : Nat} (h : a ≤ b) : upF y a ≤ upF y b := by
  induction b with
  | zero => obtain rfl : a = 0 := by omega
            exact Int.le_refl _
  | succ b ih =>
    rcases Nat.lt_or_ge a (b + 1) with h' | h'
    · have := ih (by omega); have := domF_bounds y (b + 1); simp only [upF]; omega
    · obtain rfl : a = b + 1 := by omega
      exact Int.le_refl _
theorem aheadF_mono {a b : Int} (h : a ≤ b) : aheadF a ≤ aheadF b := by
  unfold aheadF; omega
/-- A date lies within its year. -/
theorem IsDay.year {n y : Int} {m : Nat} {d : Int} (h : IsDay n y m d) : aheadF y ≤ n + 693593 ∧ n + 693593 < aheadF (y + 1) := by
  obtain ⟨h1, h2, h3, h4, h5, h6, h7⟩ := h
  rw [aheadF_next y]
  unfold dayF at h7
  have a := (upF_bounds y (m - 1)).1
  have b : upF y m ≤ upF y 12 := upF_mono y h4
  obtain ⟨k, rfl⟩ : ∃ k, m = k + 1 := ⟨m - 1, by omega⟩
  rw [show k + 1 - 1 = k by omega] at *
  rw [upS] at b
  omega
theorem IsDay.unique {n y y' : Int} {m m' : Nat} {d d' : Int} (h : IsDay n y m d) (h' : IsDay n y' m' d') : y = y' ∧ m = m' ∧ d = d' := by
  have a := h.year
  have b := h'.year
  have e : y = y' := by
    rcases Int.lt_trichotomy y y' with c | c | c
    · have := aheadF_mono (a := y + 1) (b := y') (by omega); omega
    · exact c
    · have := aheadF_mono (a := y' + 1) (b := y) (by omega); omega
  subst e
  obtain ⟨h1, h2, h3, h4, h5, h6, h7⟩ := h
  obtain ⟨g1, g2, g3, g4, g5, g6, g7⟩ := h'
  unfold dayF at h7 g7
  have e : m = m' := by
    rcases Nat.lt_trichotomy m m' with c | c | c
    · have := upF_mono y (a := m) (b := m' - 1) (by omega)
      obtain ⟨k, rfl⟩ : ∃ k, m = k + 1 := ⟨m - 1, by omega⟩
      rw [show k + 1 - 1 = k by omega] at *
      rw [upS] at this
      omega
    · exact c
    · have := upF_mono y (a := m') (b := m - 1) (by omega)
      obtain ⟨k, rfl⟩ : ∃ k, m' = k + 1 := ⟨m' - 1, by omega⟩
      rw [show k + 1 - 1 = k by omega] at *
      rw [upS] at this
      omega
  subst e
  exact ⟨rfl, rfl, by omega⟩
/-- The day behind a date. -/
theorem IsDay.next {n y y' : Int} {m m' : Nat} {d d' : Int} (h : IsDay n y m d) (h' : IsDay (n + 1) y' m' d') : (y' = y ∧ m' = m ∧ d' = d + 1) ∨ (y' = y ∧ m' = m + 1 ∧ d' = 1) ∨ (y' = y + 1 ∧ m = 12 ∧ m' = 1 ∧ d' = 1) := by
  have hy := h'.year
  have hh := h
  obtain ⟨h1, h2, h3, h4, h5, h6, h7⟩ := h
  by_cases c1 : d + 1 ≤ domF y m
  · obtain ⟨a, b, c⟩ := h'.unique (⟨h1, h2, h3, h4, by omega, c1, by unfold dayF at *; omega⟩ : IsDay (n + 1) y m (d + 1))
    exact Or.inl ⟨a, b, c⟩
  · have hd : d = domF y m := by omega
    obtain ⟨k, rfl⟩ : ∃ k, m = k + 1 := ⟨m - 1, by omega⟩
    have hpos : ∀ (y : Int) i, 1 ≤ i → i ≤ 12 → 1 ≤ domF y i := by
      intro y i a b
      unfold domF
      split
      · omega
      · have : ∀ j, j < 12 → 1 ≤ mdays.getD j 0 := by decide
        exact this _ (by omega)
    by_cases c2 : k + 1 < 12
    · obtain ⟨a, b, c⟩ := h'.unique (⟨h1, h2, by omega, by omega, by omega, hpos y (k + 2) (by omega) (by omega), by
        unfold dayF at *
        rw [show k + 1 - 1 = k by omega] at h7
        rw [show k + 2 - 1 = k + 1 by omega, upS]
        omega⟩ : IsDay (n + 1) y (k + 2) 1)
      exact Or.inr (Or.inl ⟨a, b, c⟩)
    · obtain rfl : k = 11 := by omega
      have hy2 : y + 1 ≤ 9999 := by
        by_cases c : y + 1 < 10000
        · omega
        · obtain rfl : y = 9999 := by omega
          have e1 : n + 1 + 693593 = aheadF 10000 := by
            have := aheadF_next 9999
            rw [show (9999 : Int) + 1 = 10000 from rfl] at this
            rw [this, ← h7]
            unfold dayF
            rw [show 11 + 1 - 1 = 11 by omega]
            rw [hd, upS 9999 11]
            omega
          have := aheadF_mono (a := y' + 1) (b := 10000) (by have := h'.2.1; omega)
          omega
      obtain ⟨a, b, c⟩ := h'.unique (⟨by omega, hy2, by omega, by omega, by omega, hpos (y + 1) 1 (by omega) (by omega), by
        unfold dayF at *
        rw [aheadF_next y, upS y 11]
        rw [show 11 + 1 - 1 = 11 by omega] at h7
        simp only [Nat.sub_self, upF] at *
        omega⟩ : IsDay (n + 1) (y + 1) 1 1)
      exact Or.inr (Or.inr ⟨a, rfl, b, c⟩)

set_option maxRecDepth 100000 in
set_option maxHeartbeats 1000000 in
theorem dateOf_any (n : Int) (h1 : -693593 ≤ n) (h2 : n ≤ 2958465) (w : World) (hT : MTab w) : Calls Tryz.prog 23 #[.int .i64 n] w fun e w' => (∃ (y : Int) (m : Nat) (d : Int), e = .returned (.tuple #[.int .i64 y, .int .i64 (m : Int), .int .i64 d]) ∧ IsDay n y m d) ∧ Fr noB w w' := by
  obtain ⟨l, hl⟩ : ∃ l : Nat, n = (l : Int) - 693593 := ⟨(n + 693593).toNat, by omega⟩
  subst hl
  go_enter Tryz.func23, Tryz.ntmps23
  obtain ⟨N, hN⟩ : ∃ N, w.heap.size = N := ⟨_, rfl⟩
  have hnew := heap_alloc_new w (.cells #[.int .i64 (l : Int)] 3 (0, 0))
  rw [hN] at hnew
  have HS := search_any N l (w.alloc (.cells #[.int .i64 (l : Int)] 3 (0, 0))) (cellOf hnew rfl)
  have HF0 : Hid (Fr noB w (w.alloc (.cells #[.int .i64 (l : Int)] 3 (0, 0)))) := (Fr.refl noB w).alloc _
  have HNW : Hid _ := hnew
  clear hnew
  go_wp2_with fail
  refine HS.mono ?_
  rintro e w1 ⟨⟨i, rfl, hi, hi1, hi2⟩, m1, rfl⟩
  have hcell : ((w.alloc (.cells #[.int .i64 (l : Int)] 3 (0, 0))).drewN m1).heap[N]? = some (.cells #[.int .i64 (l : Int)] 3 (0, 0)) := HNW.out
  have HF1 : Hid (Fr noB w ((w.alloc (.cells #[.int .i64 (l : Int)] 3 (0, 0))).drewN m1)) := HF0.out.drewN m1
  clear HS HF0 HNW
  generalize (w.alloc (.cells #[.int .i64 (l : Int)] 3 (0, 0))).drewN m1 = w2 at *
  have hT2 : MTab w2 := hT.fr HF1.out
  obtain ⟨y, hy⟩ : ∃ y : Nat, y = i + 1 := ⟨_, rfl⟩
  obtain ⟨A, hA⟩ : ∃ A, aheadF (y : Int) = A := ⟨_, rfl⟩
  have HA := daysAhead_any (y : Int) (by omega) (by omega)
  rw [hA] at HA
  have hA1 : A ≤ (l : Int) := by
    rcases hi1 with h | h
    · subst h; rw [← hA, hy]; simp [aheadF]
    · rw [← hA, hy]; simpa using h
  have hA0 : 0 ≤ A := by rw [← hA]; unfold aheadF; omega
  have hA2 : (l : Int) < A + upF (y : Int) 12 := by
    rw [← hA, ← aheadF_next]
    rcases hi2 with h | h
    · subst h; subst hy; rw [show ((9998 + 1 : Nat) : Int) + 1 = 10000 by omega]; simp [aheadF]; omega
    · rw [hy, show ((i + 1 : Nat) : Int) + 1 = (i : Int) + 2 by omega]; exact h
  have c0 : w2.cell? ⟨N, 0, none⟩ = some (.int .i64 (l : Int)) := cellOf (o := 0) hcell rfl
  have f0 := freeOf (o := 0) hcell
  have hyI : 1 + (i : Int) = (y : Int) := by omega
  have HYA : Hid (aheadF (y : Int) = A ∧ 1 ≤ y ∧ y ≤ 9999) := ⟨hA, by omega, by omega⟩
  have HT0 : Hid (MTab w) := hT
  clear hi1 hi2 hA hy hT
  go_wp2_with fail
  go_region_law (first | (go_simp; go_at_call 17; refine (HA _).mono ?_; rintro e w' ⟨rfl, rfl⟩))
  all_goals
    rw [Go.IntWalk.i64_in _ (show -9223372036854775808 ≤ (l : Int) - A ∧ (l : Int) - A ≤ 9223372036854775807 by omega)]
    obtain ⟨r0, hr0⟩ : ∃ r0, (l : Int) - A = r0 := ⟨_, rfl⟩
    rw [hr0]
    obtain ⟨w3, hw3⟩ : ∃ w3, (w2.setCell ⟨N, 0, none⟩ (.int .i64 r0)).drew = w3 := ⟨_, rfl⟩
    have hcell3 : w3.heap[N]? = some (.cells #[.int .i64 r0] 3 (0, 0)) := by rw [← hw3]; exact setOf 0 _ hcell
    have HF3 : Hid (Fr noB w w3) := by rw [← hw3]; exact (HF1.out.setCell ⟨N, 0, none⟩ (Or.inr (by rw [hN]; exact Nat.le_refl _)) _).drew
    rw [hw3]
    have hb0 : 0 ≤ r0 ∧ r0 < upF (y : Int) 12 := by omega
    have HTW : Hid (∀ wr, Fr noB w wr → MTab wr) := fun wr h => HT0.out.fr h
    clear hw3 hcell HF1 hT2 c0 f0
    go_wp2_with fail
    go_loopg [7] 12 (fun gh mv wr => ∃ (k : Nat) (r : Int), k < 12 ∧ gh = 12 - k ∧ mv = .int .i64 ((k : Int) + 1) ∧ wr.heap[N]? = some (.cells #[.int .i64 r] 3 (0, 0)) ∧ 0 ≤ r ∧ r + upF (y : Int) k = r0 ∧ Fr noB w wr)
    case atStart => exact ⟨0, r0, by omega, by omega, rfl, hcell3, hb0.1, by simp [upF], HF3.out⟩
    case round =>
      obtain ⟨k, r, hk, hg, rfl, hce, hr, hsum, hF⟩ := hrel
      have HM := daysOfMonth_any (y : Int) (k + 1) (by omega) (by omega) (by omega) (by omega)
      rw [show ((k + 1 : Nat) : Int) = (k : Int) + 1 by omega] at HM
      obtain ⟨v, hv⟩ : ∃ v, domF (y : Int) (k + 1) = v := ⟨_, rfl⟩
      rw [hv] at HM
      have hvb := domF_bounds (y : Int) (k + 1)
      rw [hv] at hvb
      have hub := upF_bounds (y : Int) k
      have hr9 : r ≤ 400 := by have := upF_bounds (y : Int) 12; omega
      have hcr : wr.cell? ⟨N, 0, none⟩ = some (.int .i64 r) := cellOf (o := 0) hce rfl
      have hfr := freeOf (o := 0) hce
      have HMT : Hid (∀ m, MTab (wr.drewN m)) := fun m => HTW.out _ (hF.drewN m)
      have HMT1 : Hid (MTab wr) := HTW.out _ hF
      have HMT2 : Hid (∀ v, MTab (wr.setCell ⟨N, 0, none⟩ v)) := fun v => HTW.out _ (hF.setCell ⟨N, 0, none⟩ (Or.inr (by rw [hN]; exact Nat.le_refl _)) _)
      have HFR : Hid (Fr noB w wr) := hF
      have HCE : Hid _ := hce
      have HSUM : Hid (r + upF (y : Int) k = r0 ∧ domF (y : Int) (k + 1) = v) := ⟨hsum, hv⟩
      clear hF hsum hce hv hub
      go_wp2_with fail
      go_quiet (first | (go_at_call 18; exact Calls.quiet_of_same (HM _ (HMT.out _))))
      by_cases hvr : v ≤ r
      · have hk11 : k + 1 < 12 := by
          rcases Nat.lt_or_ge (k + 1) 12 with h | h
          · exact h
          · obtain rfl : k = 11 := by omega
            have := hb0.2
            rw [upS, HSUM.out.2] at this
            have := HSUM.out.1
            omega
        go_wp2_with fail
        go_region_law (first | (go_simp; go_at_call 18; refine (HM _ (by first | exact HMT.out _ | exact HMT.out (nq + 1))).mono ?_; rintro e w' ⟨rfl, rfl⟩))
        all_goals
          rw [Go.IntWalk.i64_in _ (show -9223372036854775808 ≤ r - v ∧ r - v ≤ 9223372036854775807 by omega)]
          go_wp2_with fail
          go_roundg (12 - (k + 1))
          case measure => omega
          case rel =>
            refine ⟨k + 1, r - v, hk11, rfl, by go_num, setOf 0 _ HCE.out, by omega, ?_, ((HFR.out.drewN nq).setCell ⟨N, 0, none⟩ (Or.inr (by rw [hN]; exact Nat.le_refl _)) _).drew⟩
            have h1 := HSUM.out.1
            rw [upS, HSUM.out.2]
            omega
      · go_wp2_with fail
        go_quiet (fail)
        go_wp2_with fail
        go_ret3
        refine ⟨⟨(y : Int), k + 1, r + 1, by simp, ⟨?_, ?_, by omega, by omega, by omega, ?_, ?_⟩⟩, ?_⟩
        · have := HYA.out.2.1; omega
        · have := HYA.out.2.2; omega
        · rw [HSUM.out.2]; omega
        · unfold dayF
          rw [show k + 1 - 1 = k by omega, HYA.out.1]
          have := HSUM.out.1
          omega
        · rw [World.drewN_drewN]
          exact HFR.out.drewN _
#print axioms dateOf_any
end Go.Proofs.YtfpefegpilkbgaaGreatDoor
