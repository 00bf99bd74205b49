/- The contract of the sort's insertion sort. -/
import Derived.Test.YtcefochgpijfbaaRot
import Derived.Deep.RegionHeld3
namespace Go.Proofs.Ytcefochgpijfbaa
open Go.RowKit

theorem cmpI_lt (x y : Nat) (h : x < y) : cmpI x y = -1 := by unfold cmpI; rw [if_pos h]
theorem cmpI_ge (x y : Nat) (h : ¬ x < y) : cmpI x y = if y < x then 1 else 0 := by unfold cmpI; rw [if_neg h]
/-- A comparison that is below 0, and one that isn't. -/
theorem light_lt (x y : Nat) (a1 a2 : Option Addr) (l1 c1 l2 c2 : Nat) (w : World) (h : x < y) : Calls Try.prog 18 #[.agg #[.int .i64 (x : Int), .slice a1 l1 c1], .agg #[.int .i64 (y : Int), .slice a2 l2 c2]] w fun e w' => e = .returned (.int .i64 (-1)) ∧ Fr noB w w' := by
  have := light_any x y a1 a2 l1 c1 l2 c2 w
  rwa [cmpI_lt x y h] at this
theorem light_ge (x y : Nat) (a1 a2 : Option Addr) (l1 c1 l2 c2 : Nat) (w : World) (h : ¬ x < y) : Calls Try.prog 18 #[.agg #[.int .i64 (x : Int), .slice a1 l1 c1], .agg #[.int .i64 (y : Int), .slice a2 l2 c2]] w fun e w' => ∃ r : Nat, e = .returned (.int .i64 (r : Int)) ∧ r ≤ 1 ∧ Fr noB w w' := by
  refine (light_any x y a1 a2 l1 c1 l2 c2 w).mono ?_
  rintro e w' ⟨rfl, hF⟩
  rw [cmpI_ge x y h]
  by_cases h2 : y < x
  · exact ⟨1, by rw [if_pos h2]; rfl, by omega, hF⟩
  · exact ⟨0, by rw [if_neg h2]; rfl, by omega, hF⟩

/-- In order from a to i, but for the one at j, which is no heavier than those behind it. -/
def InsI (E : List PV) (a i j : Nat) : Prop := (∀ p q, a ≤ p → p ≤ q → q ≤ i → p ≠ j → q ≠ j → (at_ E p).1 ≤ (at_ E q).1) ∧ ∀ q, j ≤ q → q ≤ i → (at_ E j).1 ≤ (at_ E q).1
theorem InsI.start {E : List PV} {a i : Nat} (h : SortP E a i) : InsI E a i i := by
  refine ⟨fun p q h1 h2 h3 h4 h5 => h p q h1 h2 (by omega), fun q h1 h2 => ?_⟩
  rw [show q = i by omega]
  exact Nat.le_refl _
theorem InsI.stop {E : List PV} {a i j : Nat} (h : InsI E a i j) (hj : j ≤ i) (ha : a ≤ j) (hs : j = a ∨ (at_ E (j - 1)).1 ≤ (at_ E j).1) : SortP E a (i + 1) := by
  intro p q h1 h2 h3
  by_cases e1 : p = j
  · subst e1; exact h.2 q h2 (by omega)
  · by_cases e2 : q = j
    · subst e2
      rcases hs with rfl | hs
      · omega
      · by_cases e3 : p = q - 1
        · subst e3; exact hs
        · exact Nat.le_trans (h.1 p (q - 1) h1 (by omega) (by omega) e1 (by omega)) hs
    · exact h.1 p q h1 h2 (by omega) e1 e2
theorem InsI.step {E : List PV} {a i j : Nat} (h : InsI E a i j) (hj : j ≤ i) (ha : a < j) (hi : i < E.length) (hlt : (at_ E j).1 < (at_ E (j - 1)).1) : InsI (swp E j (j - 1)) a i (j - 1) := by
  have hsw := fun t => at_swp E j (j - 1) t (by omega) (by omega)
  constructor
  · intro p q h1 h2 h3 h4 h5
    rw [hsw p, hsw q, if_neg h4, if_neg h5]
    by_cases e1 : p = j
    · rw [if_pos e1]
      by_cases e2 : q = j
      · rw [if_pos e2]; exact Nat.le_refl _
      · rw [if_neg e2]; exact h.1 (j - 1) q (by omega) (by omega) h3 (by omega) e2
    · rw [if_neg e1]
      by_cases e2 : q = j
      · rw [if_pos e2]; exact h.1 p (j - 1) h1 (by omega) (by omega) e1 (by omega)
      · rw [if_neg e2]; exact h.1 p q h1 h2 h3 e1 e2
  · intro q h1 h2
    rw [hsw (j - 1), hsw q, if_pos rfl]
    by_cases e1 : q = j - 1
    · rw [if_pos e1]; exact Nat.le_refl _
    · rw [if_neg e1]
      by_cases e2 : q = j
      · rw [if_pos e2]; omega
      · rw [if_neg e2]; exact h.2 q (by omega) h2

set_option maxRecDepth 100000 in
set_option maxHeartbeats 1600000 in
theorem insertion_any (g cap a b : Nat) (D : List PV) (w : World) (h : PRow w g D) (hS : AllSl D) (ha : a ≤ b) (hb : b ≤ D.length) (hl : D.length ≤ 100000) :
    Calls Try.prog 31 #[.slice (some ⟨g, 0, none⟩) D.length cap, .int .i64 (a : Int), .int .i64 (b : Int), .func (.func 18) #[] #[]] w fun e w' => e = .returned (.tuple #[]) ∧ ∃ E, PRow w' g E ∧ Like a b D E ∧ SortP E a b ∧ Fr (oneB g) w w' := by
  obtain ⟨N, hN⟩ : ∃ N, D.length = N := ⟨_, rfl⟩
  rw [hN] at hb hl ⊢
  have HN : Hid (D.length = N) := hN
  clear hN
  go_enter Try.func31, Try.ntmps31
  go_wp2_with fail
  go_loopg [8] (b - (a + 1)) (fun gh iv wr => ∃ (i : Nat) (E : List PV), a < i ∧ (i = a + 1 ∨ i ≤ b) ∧ gh = b - i ∧ iv = .int .i64 (i : Int) ∧ PRow wr g E ∧ Like a b D E ∧ SortP E a i ∧ Fr (oneB g) w wr)
  case atStart =>
    refine ⟨a + 1, D, by omega, Or.inl rfl, rfl, by go_num, h, Like.refl, fun p q h1 h2 h3 => ?_, Fr.refl _ _⟩
    rw [show p = q by omega]
    exact Nat.le_refl _
  case round =>
    obtain ⟨i, E, hai, hib, rfl, rfl, hP, hL, hSo, hF⟩ := hrel
    by_cases hlt : i < b
    · go_wp2_with fail
      go_loopg [9] (i - a) (fun gh jv wx => ∃ (j : Nat) (E : List PV), j ≤ i ∧ a ≤ j ∧ gh = j - a ∧ jv = .int .i64 (j : Int) ∧ PRow wx g E ∧ Like a b D E ∧ InsI E a i j ∧ Fr (oneB g) w wx)
      case atStart => exact ⟨i, E, Nat.le_refl _, by omega, rfl, rfl, hP, hL, InsI.start hSo, hF⟩
      case round =>
        clear hP hL hSo hF
        obtain ⟨j, E, hji, haj, rfl, rfl, hP, hL, hI, hF⟩ := hrel
        have hEl : E.length = N := hL.length.trans HN.out
        have hSE := hS.perm hL.perm
        by_cases hja : j = a
        · have HSt : Hid _ := hI.stop hji haj (Or.inl hja)
          have hjaI : decide ((a : Int) < (j : Int)) = false := by simp; omega
          have hjaI2 : ¬ (a : Int) < (j : Int) := by omega
          have hjaN : decide (a < j) = false := by simp; omega
          clear hEl hja
          go_wp2_with fail
          go_quiet (fail)
          go_wp2_with fail
          go_roundg (b - (i + 1))
          case measure => omega
          case rel => exact ⟨i + 1, E, by omega, Or.inr (by omega), rfl, by go_num, hP, hL, HSt.out, hF.drewN _⟩
        · obtain ⟨k, rfl⟩ : ∃ k, j = k + 1 := ⟨j - 1, by omega⟩
          have hak : a ≤ k := by omega
          have hjaI : decide ((a : Int) < (k : Int) + 1) = true := by simp; omega
          have hjaI2 : (a : Int) < (k : Int) + 1 := by omega
          have hkN : (k : Int) + 1 < (N : Int) := by omega
          have hk0 : (0 : Int) ≤ (k : Int) + 1 := by omega
          have hk1 : (k : Int) < (N : Int) := by omega
          have hk2 : (0 : Int) ≤ (k : Int) := by omega
          have hwr : IntKind.i64.wrap ((k : Int) + 1 - 1) = (k : Int) := by rw [IntKind.wrap_i64]; omega
          have hwr2 : IntKind.i64.wrap (k : Int) = (k : Int) := by rw [IntKind.wrap_i64]; omega
          have hjaN : decide (a < k + 1) = true := by simp; omega
          obtain ⟨a1, l1, q1, e1, c11, c12⟩ := hP.two hSE (k + 1) (by omega)
          obtain ⟨a2, l2, q2, e2, c21, c22⟩ := hP.two hSE k (by omega)
          have d11 : wr.drew.cell? ⟨g, (k + 1) * 2, none⟩ = _ := c11
          have d12 : wr.drew.cell? ⟨g, (k + 1) * 2 + 1, none⟩ = _ := c12
          have d21 : wr.drew.cell? ⟨g, k * 2, none⟩ = _ := c21
          have d22 : wr.drew.cell? ⟨g, k * 2 + 1, none⟩ = _ := c22
          have hsw := fun w' (hP' : PRow w' g E) => hP'.swap (k + 1) k (by omega) (by omega) e1 e2
          have HSt : Hid (¬ (at_ E (k + 1)).1 < (at_ E k).1 → SortP E a (i + 1)) := fun hn => hI.stop hji (by omega) (Or.inr (by show (at_ E k).1 ≤ _; omega))
          have HStep : Hid ((at_ E (k + 1)).1 < (at_ E k).1 → InsI (swp E (k + 1) k) a i k ∧ Like a b D (swp E (k + 1) k)) := fun hlt' => ⟨hI.step hji (by omega) (by omega) hlt', Like.step E _ _ hL (by omega) (by omega) (by omega) (by omega) (by omega) (by omega)⟩
          have hglt : g < wr.heap.size := by obtain ⟨_, hh⟩ := hP; exact lt_of_block hh
          clear e1 e2 hEl hja
          generalize (at_ E (k + 1)).1 = x1 at *
          generalize (at_ E k).1 = x2 at *
          by_cases hx : x1 < x2
          · have hst := HStep.out hx
            go_wp2_with fail
            go_region_held3 (fun w' => w'.cell? ⟨g, (k + 1) * 2, none⟩ = some (.int .i64 (x1 : Int)) ∧ w'.cell? ⟨g, (k + 1) * 2 + 1, none⟩ = some (.slice a1 l1 q1) ∧ w'.cell? ⟨g, k * 2, none⟩ = some (.int .i64 (x2 : Int)) ∧ w'.cell? ⟨g, k * 2 + 1, none⟩ = some (.slice a2 l2 q2))
              (first | exact ⟨d11, d12, d21, d22⟩ | exact ⟨z11, z12, z21, z22⟩)
              (first | (go_at_call 18; refine (light_lt x1 x2 a1 a2 l1 q1 l2 q2 _ hx).mono ?_; rintro e w2 ⟨rfl, hF2⟩; have z11 := (hF2.cell (a := ⟨g, (k + 1) * 2, none⟩) hglt id).trans d11; have z12 := (hF2.cell (a := ⟨g, (k + 1) * 2 + 1, none⟩) hglt id).trans d12; have z21 := (hF2.cell (a := ⟨g, k * 2, none⟩) hglt id).trans d21; have z22 := (hF2.cell (a := ⟨g, k * 2 + 1, none⟩) hglt id).trans d22))
            have hF2' : Fr noB wr w2 := ((Fr.refl noB wr).drew).trans hF2
            have hP2 := hP.keep hF2' id
            have f1 := hP2.free ((k + 1) * 2)
            have f2 := hP2.free ((k + 1) * 2 + 1)
            have f3 := hP2.free (k * 2)
            have f4 := hP2.free (k * 2 + 1)
            have hsw2 := hsw w2 hP2
            have hne : ¬ (k + 1) * 2 = k * 2 := by omega
            have hne2 : ¬ (k + 1) * 2 = k * 2 + 1 := by omega
            have hne3 : ¬ (k + 1) * 2 + 1 = k * 2 := by omega
            have hne4 : ¬ (k + 1) * 2 + 1 = k * 2 + 1 := by omega
            have hFw : Fr (oneB g) w w2 := hF.trans hF2'.weak
            clear hsw c11 c12 c21 c22 d11 d12 d21 d22 hF2 hF2' hP hF HSt HStep
            go_wp2_with fail
            go_region
            go_wp2_with fail
            go_roundg (k - a)
            case measure => omega
            case rel => exact ⟨k, swp E (k + 1) k, by omega, hak, rfl, by go_num, hsw2, hst.2, hst.1, (hFw.four _ _ _ _ _ _ _ _).drew⟩
          · have hst := HSt.out hx
            go_wp2_with fail
            go_region_held3 (fun w' => w'.cell? ⟨g, (k + 1) * 2, none⟩ = some (.int .i64 (x1 : Int)) ∧ w'.cell? ⟨g, (k + 1) * 2 + 1, none⟩ = some (.slice a1 l1 q1) ∧ w'.cell? ⟨g, k * 2, none⟩ = some (.int .i64 (x2 : Int)) ∧ w'.cell? ⟨g, k * 2 + 1, none⟩ = some (.slice a2 l2 q2))
              (first | exact ⟨d11, d12, d21, d22⟩ | exact ⟨z11, z12, z21, z22⟩)
              (first | (go_at_call 18; refine (light_ge x1 x2 a1 a2 l1 q1 l2 q2 _ hx).mono ?_; rintro e w2 ⟨r, rfl, hr, hF2⟩; have z11 := (hF2.cell (a := ⟨g, (k + 1) * 2, none⟩) hglt id).trans d11; have z12 := (hF2.cell (a := ⟨g, (k + 1) * 2 + 1, none⟩) hglt id).trans d12; have z21 := (hF2.cell (a := ⟨g, k * 2, none⟩) hglt id).trans d21; have z22 := (hF2.cell (a := ⟨g, k * 2 + 1, none⟩) hglt id).trans d22))
            have hF2' : Fr noB wr w2 := ((Fr.refl noB wr).drew).trans hF2
            have hP2 := hP.keep hF2' id
            have hr0 : ¬ (r : Int) < 0 := by omega
            have hFw : Fr (oneB g) w w2 := hF.trans hF2'.weak
            clear hsw c11 c12 c21 c22 d11 d12 d21 d22 hF2 hF2' hP hF HSt HStep
            go_wp2_with fail
            go_roundg (b - (i + 1))
            case measure => omega
            case rel => exact ⟨i + 1, E, by omega, Or.inr (by omega), rfl, by go_num, hP2, hL, hst, hFw⟩
    · go_wp2_with fail
      go_end0
      exact ⟨rfl, E, hP, hL, fun p q h1 h2 h3 => hSo p q h1 h2 (by omega), hF⟩
#print axioms insertion_any
end Go.Proofs.Ytcefochgpijfbaa
