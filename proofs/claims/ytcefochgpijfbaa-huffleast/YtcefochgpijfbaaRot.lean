/- The contracts of the sort's rotation, of the comparison, of cmp.Compare. -/
import Derived.Test.YtcefochgpijfbaaSrt
import Derived.Test.YtcefochgpijfbaaBas
namespace Go.Proofs.Ytcefochgpijfbaa
open Go.RowKit

/-- The places of a rotation: what stood from m on comes first. -/
def rho (a m b t : Nat) : Nat := if a ≤ t ∧ t < a + (b - m) then t - a + m else if a + (b - m) ≤ t ∧ t < b then t - (b - m) else t
theorem rho_left (m i j t : Nat) (hi : i ≤ m) (hj : 0 < j) (hlt : j < i) : sgm (m - i) m j (rho (m - (i - j)) m (m + j) t) = rho (m - i) m (m + j) t := by
  unfold rho sgm
  by_cases h1 : m - (i - j) ≤ t ∧ t < m - (i - j) + (m + j - m)
  · rw [if_pos h1, if_neg (by omega), if_pos (by omega)]
    by_cases h2 : m - i ≤ t ∧ t < m - i + (m + j - m)
    · rw [if_pos h2]; omega
    · rw [if_neg h2, if_pos (by omega)]; omega
  · rw [if_neg h1]
    by_cases h2 : m - (i - j) + (m + j - m) ≤ t ∧ t < m + j
    · rw [if_pos h2]
      rw [if_neg (show ¬ (m - i ≤ t ∧ t < m - i + (m + j - m)) by omega), if_pos (show m - i + (m + j - m) ≤ t ∧ t < m + j by omega)]
      rw [if_neg (by omega), if_neg (by omega)]
    · rw [if_neg h2]
      by_cases h3 : m - i ≤ t ∧ t < m - i + j
      · rw [if_pos h3, if_pos (by omega)]
      · rw [if_neg h3, if_neg (show ¬ (m - i ≤ t ∧ t < m - i + (m + j - m)) by omega), if_neg (show ¬ (m - i + (m + j - m) ≤ t ∧ t < m + j) by omega), if_neg (by omega)]
theorem rho_right (m i j t : Nat) (hi : i ≤ m) (h0 : 0 < i) (hlt : i < j) : sgm (m - i) (m + j - i) i (rho (m - i) m (m + j - i) t) = rho (m - i) m (m + j) t := by
  unfold rho sgm
  by_cases h1 : m - i ≤ t ∧ t < m - i + (m + j - i - m)
  · rw [if_pos h1, if_pos (show m - i ≤ t ∧ t < m - i + (m + j - m) by omega), if_neg (by omega), if_neg (by omega)]
  · rw [if_neg h1]
    by_cases h2 : m - i + (m + j - i - m) ≤ t ∧ t < m + j - i
    · rw [if_pos h2, if_pos (by omega)]
      by_cases h3 : m - i ≤ t ∧ t < m - i + (m + j - m)
      · rw [if_pos h3]; omega
      · rw [if_neg h3, if_pos (by omega)]; omega
    · rw [if_neg h2]
      by_cases h3 : m + j - i ≤ t ∧ t < m + j - i + i
      · rw [if_neg (by omega), if_pos h3, if_neg (show ¬ (m - i ≤ t ∧ t < m - i + (m + j - m)) by omega), if_pos (show m - i + (m + j - m) ≤ t ∧ t < m + j by omega)]
        omega
      · rw [if_neg (by omega), if_neg h3, if_neg (show ¬ (m - i ≤ t ∧ t < m - i + (m + j - m)) by omega), if_neg (by omega)]
theorem rho_end (m i t : Nat) (hi : i ≤ m) : sgm (m - i) m i t = rho (m - i) m (m + i) t := by
  unfold rho sgm
  by_cases h1 : m - i ≤ t ∧ t < m - i + i
  · rw [if_pos h1, if_pos (by omega)]
  · rw [if_neg h1, if_neg (show ¬ (m - i ≤ t ∧ t < m - i + (m + i - m)) by omega)]
    by_cases h2 : m ≤ t ∧ t < m + i
    · rw [if_pos h2, if_pos (by omega)]; omega
    · rw [if_neg h2, if_neg (by omega)]

set_option maxHeartbeats 1600000 in
theorem rotate_any (g cap a m b : Nat) (f : Value) (D : List PV) (w : World) (h : PRow w g D) (hS : AllSl D) (ham : a < m) (hmb : m < b) (hb : b ≤ D.length) (hl : D.length ≤ 100000) :
    Calls Try.prog 34 #[.slice (some ⟨g, 0, none⟩) D.length cap, .int .i64 (a : Int), .int .i64 (m : Int), .int .i64 (b : Int), f] w fun e w' => e = .returned (.tuple #[]) ∧ ∃ E, PRow w' g E ∧ Like a b D E ∧ (∀ t, at_ E t = at_ D (rho a m b t)) ∧ Fr (oneB g) w w' := by
  obtain ⟨N, hN⟩ : ∃ N, D.length = N := ⟨_, rfl⟩
  have HSR := fun (a b n : Nat) (E : List PV) w (hP : PRow w g E) (hE : E.length = N) (hSE : AllSl E) (h1 : a + n ≤ b) (h2 : b + n ≤ N) => swapRange_any g cap a b n f E w hP hSE h1 (by omega) (by omega)
  have HSR2 : Hid (∀ (a b n : Nat) (E : List PV) w (hP : PRow w g E) (hE : E.length = N) (hSE : AllSl E) (h1 : a + n ≤ b) (h2 : b + n ≤ N), Calls Try.prog 35 #[.slice (some ⟨g, 0, none⟩) N cap, .int .i64 (a : Int), .int .i64 (b : Int), .int .i64 (n : Int), f] w fun e w' => e = .returned (.tuple #[]) ∧ ∃ E', PRow w' g E' ∧ Like a (b + n) E E' ∧ (∀ t, at_ E' t = at_ E (sgm a b n t)) ∧ Fr (oneB g) w w') := by
    intro a b n E w hP hE hSE h1 h2
    have := HSR a b n E w hP hE hSE h1 h2
    rwa [hE] at this
  rw [hN] at hb hl ⊢
  have HN : Hid (D.length = N) := hN
  clear hN HSR
  have hI1 : (m : Int) - (a : Int) = ((m - a : Nat) : Int) := by omega
  have hI2 : (b : Int) - (m : Int) = ((b - m : Nat) : Int) := by omega
  go_enter Try.func34, Try.ntmps34
  go_wp2_with fail
  clear hI1 hI2
  go_loopg [10, 11] (b - a) (fun gh iv jv wr => ∃ (i j : Nat) (E : List PV), gh = i + j ∧ iv = .int .i64 (i : Int) ∧ jv = .int .i64 (j : Int) ∧ 0 < i ∧ 0 < j ∧ i ≤ m - a ∧ j ≤ b - m ∧ PRow wr g E ∧ Like a b D E ∧ (∀ t, at_ E (rho (m - i) m (m + j) t) = at_ D (rho a m b t)) ∧ Fr (oneB g) w wr)
  case atStart => exact ⟨m - a, b - m, D, by omega, rfl, rfl, by omega, by omega, Nat.le_refl _, Nat.le_refl _, h, Like.refl, fun t => by rw [show m - (m - a) = a by omega, show m + (b - m) = b by omega], Fr.refl _ _⟩
  case round =>
    obtain ⟨i, j, E, rfl, rfl, rfl, hi0, hj0, him, hjm, hP, hL, hA, hF⟩ := hrel
    have hEl : E.length = N := hL.length.trans HN.out
    have hSE := hS.perm hL.perm
    by_cases hij : i = j
    · subst hij
      have hc := HSR2.out (m - i) m i E wr hP hEl hSE (by omega) (by omega)
      have hI3 : (m : Int) - (i : Int) = ((m - i : Nat) : Int) := by omega
      rw [← hI3] at hc
      have HA : Hid _ := hA
      have HEl : Hid (E.length = N) := hEl
      clear hI3 hA hEl
      go_wp2_with fail
      refine hc.mono ?_
      rintro e w2 ⟨rfl, E', hP', hL', hA', hF'⟩
      go_wp2_with fail
      go_end0
      exact ⟨rfl, E', hP', hL.trans (hL'.mono (by omega) (by omega)), fun t => by rw [hA' t, rho_end m i t (by omega), HA.out t], hF.trans hF'⟩
    · have hijI : ¬ (i : Int) = (j : Int) := by omega
      by_cases hlt : j < i
      · have hc := HSR2.out (m - i) m j E wr hP hEl hSE (by omega) (by omega)
        have hI3 : (m : Int) - (i : Int) = ((m - i : Nat) : Int) := by omega
        rw [← hI3] at hc
        have hltI : (j : Int) < (i : Int) := by omega
        have HA : Hid _ := hA
        have HEl : Hid (E.length = N) := hEl
        clear hI3 hA hEl
        go_wp2_with fail
        refine hc.mono ?_
        rintro e w2 ⟨rfl, E', hP', hL', hA', hF'⟩
        go_wp2_with fail
        go_roundg (i - j + j)
        case measure => omega
        case rel =>
          refine ⟨i - j, j, E', rfl, congrArg (Value.int .i64) (by omega), rfl, by omega, hj0, by omega, hjm, hP', hL.trans (hL'.mono (by omega) (by omega)), fun t => ?_, hF.trans hF'⟩
          rw [hA', rho_left m i j t (by omega) hj0 hlt, HA.out t]
      · have hc := HSR2.out (m - i) (m + j - i) i E wr hP hEl hSE (by omega) (by omega)
        have hI3 : (m : Int) - (i : Int) = ((m - i : Nat) : Int) := by omega
        have hI4 : (m : Int) + (j : Int) - (i : Int) = ((m + j - i : Nat) : Int) := by omega
        rw [← hI3, ← hI4] at hc
        have hltI : ¬ (j : Int) < (i : Int) := by omega
        have HA : Hid _ := hA
        have HEl : Hid (E.length = N) := hEl
        clear hI3 hI4 hA hEl
        go_wp2_with fail
        refine hc.mono ?_
        rintro e w2 ⟨rfl, E', hP', hL', hA', hF'⟩
        go_wp2_with fail
        go_roundg (i + (j - i))
        case measure => omega
        case rel =>
          refine ⟨i, j - i, E', rfl, rfl, congrArg (Value.int .i64) (by omega), hi0, by omega, him, by omega, hP', hL.trans (hL'.mono (by omega) (by omega)), fun t => ?_, hF.trans hF'⟩
          rw [hA', show m + (j - i) = m + j - i by omega, rho_right m i j t (by omega) hi0 (by omega), HA.out t]

/-- What a comparison answers. -/
def cmpI (x y : Nat) : Int := if x < y then -1 else if y < x then 1 else 0

set_option maxHeartbeats 400000 in
theorem isNaN_any (x : Int) (w : World) : Calls Try.prog 27 #[.int .i64 x] w fun e w' => e = .returned (.bool false) ∧ w' = w := by
  go_enter Try.func27, Try.ntmps27
  go_wp2
  go_ret
  exact ⟨rfl, rfl⟩

set_option maxHeartbeats 400000 in
theorem compare_any (x y : Nat) (w : World) : Calls Try.prog 19 #[.int .i64 (x : Int), .int .i64 (y : Int)] w fun e w' => e = .returned (.int .i64 (cmpI x y)) ∧ w' = w := by
  unfold cmpI
  by_cases h1 : x < y
  · have hI : (x : Int) < (y : Int) := by omega
    rw [if_pos h1]
    go_enter Try.func19, Try.ntmps19
    go_wp2_with (go_at_call 27; refine (isNaN_any _ _).mono ?_; rintro e w' ⟨rfl, rfl⟩)
    go_ret
    exact ⟨rfl, rfl⟩
  · have hI : ¬ (x : Int) < (y : Int) := by omega
    rw [if_neg h1]
    by_cases h2 : y < x
    · have hI2 : (y : Int) < (x : Int) := by omega
      rw [if_pos h2]
      go_enter Try.func19, Try.ntmps19
      go_wp2_with (go_at_call 27; refine (isNaN_any _ _).mono ?_; rintro e w' ⟨rfl, rfl⟩)
      go_ret
      exact ⟨rfl, rfl⟩
    · have hI2 : ¬ (y : Int) < (x : Int) := by omega
      rw [if_neg h2]
      go_enter Try.func19, Try.ntmps19
      go_wp2_with (go_at_call 27; refine (isNaN_any _ _).mono ?_; rintro e w' ⟨rfl, rfl⟩)
      go_ret
      exact ⟨rfl, rfl⟩

/-- The comparison as a value. -/
def lightF : Value := .func (.func 18) #[] #[]
set_option maxHeartbeats 400000 in
theorem light_any (x y : Nat) (a1 a2 : Option Addr) (l1 c1 l2 c2 : Nat) (w : World) : Calls Try.prog 18 #[.agg #[.int .i64 (x : Int), .slice a1 l1 c1], .agg #[.int .i64 (y : Int), .slice a2 l2 c2]] w fun e w' => e = .returned (.int .i64 (cmpI x y)) ∧ Fr noB w w' := by
  go_enter Try.func18, Try.ntmps18
  go_wp2_with (go_at_call 19; refine (compare_any _ _ _).mono ?_; rintro e w' ⟨rfl, rfl⟩)
  go_ret
  exact ⟨rfl, ((Fr.refl _ _).alloc _).alloc _⟩
#print axioms rotate_any
#print axioms light_any
end Go.Proofs.Ytcefochgpijfbaa
