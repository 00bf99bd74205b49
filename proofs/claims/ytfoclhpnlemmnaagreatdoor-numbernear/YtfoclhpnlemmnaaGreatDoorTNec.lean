/- Days have dates; the texts of a day and a second say them. -/
import Derived.Test.YtfoclhpnlemmnaaGreatDoorTNeb
namespace Go.Proofs.YtfoclhpnlemmnaaGreatDoor
open Go.RowKit Ieee

theorem ex_year (n : Int) (h0 : 0 ≤ n) : ∀ k : Nat, n < aheadF ((k : Int) + 1) → 1 ≤ k → ∃ y : Nat, 1 ≤ y ∧ y ≤ k ∧ aheadF (y : Int) ≤ n ∧ n < aheadF ((y : Int) + 1)
  | 0, _, h => absurd h (by decide)
  | k + 1, h, _ => by
    by_cases hk : aheadF ((k : Int) + 1) ≤ n
    · exact ⟨k + 1, by omega, by omega, by exact_mod_cast hk, by exact_mod_cast h⟩
    · by_cases h1 : 1 ≤ k
      · obtain ⟨y, a, b, c, d⟩ := ex_year n h0 k (by omega) h1
        exact ⟨y, a, by omega, c, d⟩
      · exfalso
        have : k = 0 := by omega
        subst this
        apply hk
        have : aheadF (((0 : Nat) : Int) + 1) = 0 := by decide
        omega
theorem ex_month (y n : Int) (h0 : 0 ≤ n) : ∀ k : Nat, n < upF y k → ∃ m : Nat, 1 ≤ m ∧ m ≤ k ∧ upF y (m - 1) ≤ n ∧ n < upF y m
  | 0, h => by
    have : upF y 0 = 0 := rfl
    omega
  | k + 1, h => by
    by_cases hk : upF y k ≤ n
    · exact ⟨k + 1, by omega, by omega, hk, h⟩
    · obtain ⟨m, a, b, c, d⟩ := ex_month y n h0 k (by omega)
      exact ⟨m, a, by omega, c, d⟩
theorem ex_day (n : Int) (h1 : -693593 ≤ n) (h2 : n ≤ 2958465) : ∃ y m d : Nat, IsDay n (y : Int) m (d : Int) := by
  obtain ⟨y, y1, y2, y3, y4⟩ := ex_year (n + 693593) (by omega) 9999 (by
    have : aheadF (((9999 : Nat) : Int) + 1) = 3652059 := by decide
    omega) (by omega)
  have hn := aheadF_next (y : Int)
  obtain ⟨m, m1, m2, m3, m4⟩ := ex_month (y : Int) (n + 693593 - aheadF (y : Int)) (by omega) 12 (by omega)
  refine ⟨y, m, (n + 693593 - aheadF (y : Int) - upF (y : Int) (m - 1) + 1).toNat, by omega, by omega, m1, m2, by omega, ?_, ?_⟩
  · have hs := upS (y : Int) (m - 1)
    rw [show m - 1 + 1 = m by omega] at hs
    omega
  · unfold dayF
    omega
theorem date_num {n : Int} {y m d : Nat} (h : IsDay n (y : Int) m (d : Int)) : dateF (y : Int) (m : Int) (d : Int) = true ∧ dayF (y : Int) m (d : Int) = n ∧ y ≤ 9999 ∧ m ≤ 12 ∧ d ≤ 31 := by
  obtain ⟨h1, h2, h3, h4, h5, h6, h7⟩ := h
  refine ⟨?_, h7, by omega, h4, ?_⟩
  · unfold dateF
    rw [Int.toNat_natCast]
    exact decide_eq_true ⟨h1, h2, by omega, by omega, h5, h6⟩
  · have := (domF_bounds (y : Int) m).2
    omega
theorem dayOk_text {n : Int} {y m d : Nat} (h : IsDay n (y : Int) m (d : Int)) : dayOk (dateT y m d) = some n ∧ (84 : UInt8) ∉ dateT y m d := by
  obtain ⟨h1, h2, h3, h4, h5⟩ := date_num h
  have p1 := pad_length y 4 (by omega) (by omega)
  have p2 := pad_length m 2 (by omega) (by omega)
  have p3 := pad_length d 2 (by omega) (by omega)
  constructor
  · unfold dayOk dateT
    rw [nums_date p1 p2 p3 (pad_digits _ _) (pad_digits _ _) (pad_digits _ _), num_pad, num_pad, num_pad]
    simp only
    rw [if_pos h1, h2]
  · unfold dateT
    intro hm
    simp only [List.mem_append, List.mem_cons] at hm
    rcases hm with hm | hm | hm | hm | hm
    · exact no_sign (pad_digits _ _) (by decide) hm
    · cases hm
    · exact no_sign (pad_digits _ _) (by decide) hm
    · cases hm
    · exact no_sign (pad_digits _ _) (by decide) hm
theorem clkOk_text (c : Nat) (hc : c < 86400) : clkOk (timeT (c / 3600) (c / 60 % 60) (c % 60)) = some c := by
  have p1 := pad_length (c / 3600) 2 (by omega) (by omega)
  have p2 := pad_length (c / 60 % 60) 2 (by omega) (by omega)
  have p3 := pad_length (c % 60) 2 (by omega) (by omega)
  unfold clkOk timeT
  rw [nums_clock p1 p2 p3 (pad_digits _ _) (pad_digits _ _) (pad_digits _ _), num_pad, num_pad, num_pad]
  simp only
  rw [if_pos (by omega)]
  congr 1
  omega
/-- The text of a day and a second says them. -/
theorem pd_text (d c : Nat) (hd : d < 2000000) (hc : c < 86400) : pdF (dtx (d * 86400 + c + 59926435200)) = some ((d : Int), c) := by
  obtain ⟨y, m, dd, h⟩ := ex_day (d : Int) (by omega) (by omega)
  obtain ⟨h1, h2⟩ := dayOk_text h
  unfold dtx
  rw [show (d * 86400 + c + 59926435200) / 86400 = d + 693593 by omega, show (d * 86400 + c + 59926435200) % 86400 = c by omega, show (((d + 693593 : Nat) : Int) - 693593) = (d : Int) by omega, ymd_of h]
  simp only
  by_cases hz : c = 0
  · subst hz
    rw [if_pos rfl, List.append_nil, pdF_miss h2, h1]
    rfl
  · rw [if_neg hz, pdF_hit h2, h1, clkOk_text c hc]
theorem dt_text (d c : Nat) (hd : d < 2000000) (hc : c < 86400) : dtV (sumF d c) = .tuple #[.string (baL (dtx (d * 86400 + c + 59926435200))), .int .i64 0] := by
  obtain ⟨hx, _, hq, hfl, _⟩ := near_sec d c hd hc
  unfold dtV
  rw [if_neg (by rw [finB_of hx]; simp)]
  have hs : secF (sumF d c) = some ((d * 86400 + c : Nat) : Int) := by
    unfold secF
    rw [if_neg (by rw [finB_of hq, hfl]; simp; omega), hfl]
  rw [hs]
  simp only
  rw [show (((d * 86400 + c : Nat) : Int) + 59926435200).toNat = d * 86400 + c + 59926435200 by omega]
theorem tt_text (d c : Nat) (hd : d < 2000000) (hc : c < 86400) : ttV (sumF d c) = .tuple #[.string (baL (ttx (d * 86400 + c))), .int .i64 0] := by
  obtain ⟨hx, h0, hq, hfl, _⟩ := near_sec d c hd hc
  have ha : absF (sumF d c) = sumF d c := by unfold absF; rw [if_neg (by omega)]
  have hn : ttN (sumF d c) = some (d * 86400 + c) := by
    unfold ttN
    rw [ha, if_neg (by rw [finB_of hq, hfl]; simp; omega), hfl]
    rfl
  rw [ttV_some (finB_of hx) hn, show decide (V (sumF d c) < 0) = false by simp; omega]
  unfold ttT
  rw [if_neg (by simp)]
theorem pt_text (n : Nat) (hn : n < 1000000000000) : ptF (ttx n) = some (false, n) := by
  have hnp : Lib.hasPrefix (ttx n) [45] = false := by
    unfold ttx Lib.hasPrefix
    simp only [List.cons_append, List.nil_append]
    rfl
  have htr : Lib.trimPrefix (ttx n) [45] = ttx n := by unfold Lib.trimPrefix; rw [if_neg (by rw [hnp]; simp)]
  rw [ptF_eq, hnp, htr]
  have p2 := pad_length (n / 60 % 60) 2 (by omega) (by omega)
  have p3 := pad_length (n % 60) 2 (by omega) (by omega)
  have hE : likeB (72 :: (padL (n / 60 % 60) 2 ++ 77 :: (padL (n % 60) 2 ++ [83]))) minHFm = true := by
    show ((if (72 : UInt8) = 48 then dgB 72 else (72 : UInt8) == 72) && likeB (padL (n / 60 % 60) 2 ++ 77 :: (padL (n % 60) 2 ++ [83])) minFm) = true
    rw [(like_min _).2 ⟨_, _, rfl, p2, p3, pad_digits _ _, pad_digits _ _⟩]
    rfl
  obtain ⟨M, S, e, m1, m2, _, _, hG⟩ := ptG_form (H := padL (n / 3600) 2) hE
  have hMS : M = padL (n / 60 % 60) 2 ∧ S = padL (n % 60) 2 := by
    injection e with _ e
    have h1 := List.append_inj e (by rw [m1, p2])
    obtain ⟨h1, h2⟩ := h1
    injection h2 with _ h2
    have h3 := List.append_inj h2 (by rw [m2, p3])
    exact ⟨h1.symm, h3.1.symm⟩
  obtain ⟨rfl, rfl⟩ := hMS
  have hdl := dec_length_le 13 (n / 3600) (by omega) (by omega)
  have hlen : (padL (n / 3600) 2).length = 2 - (Lib.decDigits (n / 3600)).length + (Lib.decDigits (n / 3600)).length := by unfold padL; simp
  have hcond : (padL (n / 3600) 2).all dgB = true ∧ 2 ≤ (padL (n / 3600) 2).length ∧ (padL (n / 3600) 2).length ≤ 13 ∧ ¬ (2 < (padL (n / 3600) 2).length ∧ (padL (n / 3600) 2).head? = some 48) ∧ numOf (padL (n / 60 % 60) 2) ≤ 59 ∧ numOf (padL (n % 60) 2) ≤ 59 := by
    refine ⟨List.all_eq_true.2 (pad_digits _ _), by omega, by omega, ?_, by rw [num_pad]; omega, by rw [num_pad]; omega⟩
    rintro ⟨h1, h2⟩
    have hd3 : 2 < (Lib.decDigits (n / 3600)).length := by omega
    have hp : padL (n / 3600) 2 = Lib.decDigits (n / 3600) := by
      unfold padL
      rw [show 2 - (Lib.decDigits (n / 3600)).length = 0 by omega]
      rfl
    rw [hp] at h2
    have h1' : 1 ≤ n / 3600 := by
      rcases Nat.eq_zero_or_pos (n / 3600) with h | h
      · rw [h] at hd3
        exact absurd hd3 (by rw [Lib.decDigits]; decide)
      · exact h
    have := dec_head (n / 3600) h1'
    apply this
    rw [List.head?_eq_getElem?] at h2
    simp [List.getD, h2]
  rw [if_pos hcond, num_pad, num_pad, num_pad] at hG
  have hT : ttx n = 80 :: 84 :: (padL (n / 3600) 2 ++ 72 :: (padL (n / 60 % 60) 2 ++ 77 :: (padL (n % 60) 2 ++ [83]))) := by
    unfold ttx
    simp only [List.cons_append, List.nil_append]
  rw [hT, hG, ptW_some, if_neg (by simp)]
  congr 2
  omega
theorem sum_lt (d c : Nat) (hd : d < 2000000) (hc : c < 86400) : sumF d c < 18446744073709551616 := by
  have h := sumF_spec (d : Int) c (by omega) (by omega) (by omega)
  have h' : double.add (FloatKind.f64.nearest (d : Int)) (dayQ c) = some (sumF d c) := h
  have := double.add_lt h'
  rwa [show (2 : Nat) ^ double.width = 18446744073709551616 by decide] at this
#print axioms pd_text
#print axioms pt_text
#print axioms sum_lt
end Go.Proofs.YtfoclhpnlemmnaaGreatDoor
