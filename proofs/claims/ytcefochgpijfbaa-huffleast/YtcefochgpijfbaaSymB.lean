/- The contract of the sort's symmetric merge, where the second part has one element. -/
import Derived.Test.YtcefochgpijfbaaSymM
import Derived.Test.YtcefochgpijfbaaIns
namespace Go.Proofs.Ytcefochgpijfbaa
open Go.RowKit

set_option maxRecDepth 100000 in
set_option maxHeartbeats 1600000 in
theorem symLast_any (g cap a m b : Nat) (hbm : b = m + 1) (D : List PV) (w : World) (h : PRow w g D) (hS : AllSl D) (ham : a + 1 < m) (hb : b ≤ D.length) (hl : D.length ≤ 100000) (hs : SortP D a m) :
    Calls Try.prog 32 #[.slice (some ⟨g, 0, none⟩) D.length cap, .int .i64 (a : Int), .int .i64 (m : Int), .int .i64 (b : Int), .func (.func 18) #[] #[]] w fun e w' => e = .returned (.tuple #[]) ∧ ∃ E, PRow w' g E ∧ Like a b D E ∧ SortP E a b ∧ Fr (oneB g) w w' := by
  obtain ⟨N, hN⟩ : ∃ N, D.length = N := ⟨_, rfl⟩
  rw [hN] at hb hl ⊢
  have HN : Hid (D.length = N) := hN
  clear hN
  have hI0 : ¬ (m : Int) - (a : Int) = 1 := by omega
  have hI1 : (b : Int) - (m : Int) = 1 := by omega
  have hI0b : ((m : Int) - (a : Int) == 1) = false := by simp; omega
  have HB : Hid (b = m + 1) := hbm
  have hmb : m < b := by omega
  clear hbm
  go_enter Try.func32, Try.ntmps32
  go_wp2_with fail
  go_loopg [14, 15] (m - a) (fun gh iv jv wr => ∃ (i j : Nat), gh = j - i ∧ iv = .int .i64 (i : Int) ∧ jv = .int .i64 (j : Int) ∧ PRow wr g D ∧ FindB D a m i j ∧ Fr (oneB g) w wr)
  case atStart => exact ⟨a, m, rfl, rfl, rfl, h, ⟨by omega, by omega, by omega, fun h => by omega, fun h => by omega⟩, Fr.refl _ _⟩
  case round =>
    obtain ⟨i, j, rfl, rfl, rfl, hP, hf, hF⟩ := hrel
    by_cases hlt : i < j
    · obtain ⟨k, hk⟩ : ∃ k, (i + j) / 2 = k := ⟨_, rfl⟩
      have hkI : ((i : Int) + (j : Int)) / 2 = (k : Int) := by omega
      have hfb := And.intro hf.1 (And.intro hf.2.1 hf.2.2.1)
      have hik : i ≤ k := by omega
      have hkj : k < j := by omega
      have hkN : (k : Int) < (N : Int) := by omega
      have haN : (m : Int) < (N : Int) := by omega
      have HX : Hid (((at_ D m).1 < (at_ D k).1 → FindB D a m i k) ∧ (¬ (at_ D m).1 < (at_ D k).1 → FindB D a m (k + 1) j)) := by
        obtain ⟨f1, f2, f3, f4, f5⟩ := hf
        exact ⟨fun h => ⟨f1, hik, by omega, f4, fun _ => h⟩, fun h => ⟨by omega, by omega, f3, fun _ => by show (at_ D k).1 ≤ _; omega, f5⟩⟩
      have hNl := HN.out
      obtain ⟨a1, l1, q1, e1, c11, c12⟩ := hP.two hS m (by omega)
      obtain ⟨a2, l2, q2, e2, c21, c22⟩ := hP.two hS k (by omega)
      have d11 : wr.drew.cell? ⟨g, m * 2, none⟩ = _ := c11
      have d12 : wr.drew.cell? ⟨g, m * 2 + 1, none⟩ = _ := c12
      have d21 : wr.drew.cell? ⟨g, k * 2, none⟩ = _ := c21
      have d22 : wr.drew.cell? ⟨g, k * 2 + 1, none⟩ = _ := c22
      have hglt : g < wr.heap.size := by obtain ⟨_, hh⟩ := hP; exact lt_of_block hh
      clear e1 e2 hNl hf hk
      generalize (at_ D m).1 = x1 at *
      generalize (at_ D k).1 = x2 at *
      by_cases hx : x1 < x2
      · have hst := HX.out.1 hx
        go_wp2_with fail
        go_region_held3 (fun w' => w'.cell? ⟨g, m * 2, none⟩ = some (.int .i64 (x1 : Int)) ∧ w'.cell? ⟨g, m * 2 + 1, none⟩ = some (.slice a1 l1 q1) ∧ w'.cell? ⟨g, k * 2, none⟩ = some (.int .i64 (x2 : Int)) ∧ w'.cell? ⟨g, k * 2 + 1, none⟩ = some (.slice a2 l2 q2))
          (first | exact ⟨d11, d12, d21, d22⟩ | exact ⟨z11, z12, z21, z22⟩)
          (first | (go_at_call 18; refine (light_lt x1 x2 a1 a2 l1 q1 l2 q2 _ hx).mono ?_; rintro e w2 ⟨rfl, hF2⟩; have z11 := (hF2.cell (a := ⟨g, m * 2, none⟩) hglt id).trans d11; have z12 := (hF2.cell (a := ⟨g, m * 2 + 1, none⟩) hglt id).trans d12; have z21 := (hF2.cell (a := ⟨g, k * 2, none⟩) hglt id).trans d21; have z22 := (hF2.cell (a := ⟨g, k * 2 + 1, none⟩) hglt id).trans d22))
        have hF2' : Fr noB wr w2 := ((Fr.refl noB wr).drew).trans hF2
        have hP2 := hP.keep hF2' id
        have hFw : Fr (oneB g) w w2 := hF.trans hF2'.weak
        clear c11 c12 c21 c22 d11 d12 d21 d22 hF2 hF2' hP hF HX
        go_wp2_with fail
        go_roundg (k - i)
        case measure => omega
        case rel => exact ⟨i, k, rfl, rfl, rfl, hP2, hst, hFw⟩
      · have hst := HX.out.2 hx
        go_wp2_with fail
        go_region_held3 (fun w' => w'.cell? ⟨g, m * 2, none⟩ = some (.int .i64 (x1 : Int)) ∧ w'.cell? ⟨g, m * 2 + 1, none⟩ = some (.slice a1 l1 q1) ∧ w'.cell? ⟨g, k * 2, none⟩ = some (.int .i64 (x2 : Int)) ∧ w'.cell? ⟨g, k * 2 + 1, none⟩ = some (.slice a2 l2 q2))
          (first | exact ⟨d11, d12, d21, d22⟩ | exact ⟨z11, z12, z21, z22⟩)
          (first | (go_at_call 18; refine (light_ge x1 x2 a1 a2 l1 q1 l2 q2 _ hx).mono ?_; rintro e w2 ⟨r, rfl, hr, hF2⟩; have z11 := (hF2.cell (a := ⟨g, m * 2, none⟩) hglt id).trans d11; have z12 := (hF2.cell (a := ⟨g, m * 2 + 1, none⟩) hglt id).trans d12; have z21 := (hF2.cell (a := ⟨g, k * 2, none⟩) hglt id).trans d21; have z22 := (hF2.cell (a := ⟨g, k * 2 + 1, none⟩) hglt id).trans d22))
        have hF2' : Fr noB wr w2 := ((Fr.refl noB wr).drew).trans hF2
        have hP2 := hP.keep hF2' id
        have hr0 : ¬ (r : Int) < 0 := by omega
        have hFw : Fr (oneB g) w w2 := hF.trans hF2'.weak
        clear c11 c12 c21 c22 d11 d12 d21 d22 hF2 hF2' hP hF HX
        go_wp2_with fail
        go_roundg (j - (k + 1))
        case measure => omega
        case rel => exact ⟨k + 1, j, rfl, by go_num, rfl, hP2, hst, hFw⟩
    · obtain rfl : i = j := by have := hf.2.1; omega
      have hfb : a ≤ i ∧ i ≤ m := ⟨hf.1, hf.2.2.1⟩
      have HSo : Hid (∀ E, MoveB D E m i → SortP E a b) := fun E hE => by rw [HB.out]; exact hE.sorted hs hf
      clear hlt hf hs
      go_wp2_with fail
      go_loopg [17] (m - i) (fun gh kv wx => ∃ (k : Nat) (E : List PV), i ≤ k ∧ k ≤ m ∧ gh = k - i ∧ kv = .int .i64 (k : Int) ∧ PRow wx g E ∧ Like a b D E ∧ MoveB D E m k ∧ Fr (oneB g) w wx)
      case atStart => exact ⟨m, D, by omega, by omega, rfl, rfl, hP, Like.refl, MoveB.start D m, hF⟩
      case round =>
        clear hP hF
        obtain ⟨v, E, hik, hkm, rfl, rfl, hP, hL, hM, hF⟩ := hrel
        by_cases hlt : i < v
        · obtain ⟨k, rfl⟩ : ∃ k, v = k + 1 := ⟨v - 1, by omega⟩
          have hEl : E.length = N := hL.length.trans HN.out
          have hSE := hS.perm hL.perm
          obtain ⟨a1, l1, q1, e1, c11, c12⟩ := hP.two hSE (k + 1) (by omega)
          obtain ⟨a2, l2, q2, e2, c21, c22⟩ := hP.two hSE k (by omega)
          have f1 := hP.free ((k + 1) * 2)
          have f2 := hP.free ((k + 1) * 2 + 1)
          have f3 := hP.free (k * 2)
          have f4 := hP.free (k * 2 + 1)
          have hsw := hP.swap (k + 1) k (by omega) (by omega) e1 e2
          have hne : ¬ (k + 1) * 2 = k * 2 := by omega
          have hne2 : ¬ (k + 1) * 2 = k * 2 + 1 := by omega
          have hne3 : ¬ (k + 1) * 2 + 1 = k * 2 := by omega
          have hne4 : ¬ (k + 1) * 2 + 1 = k * 2 + 1 := by omega
          have hI1 : (k : Int) < (N : Int) := by omega
          have hI2 : (k : Int) + 1 < (N : Int) := by omega
          have HX : Hid (MoveB D (swp E (k + 1) k) m k ∧ Like a b D (swp E (k + 1) k)) := ⟨hM.step (by omega) (by omega), Like.step E _ _ hL (by omega) (by omega) (by omega) (by omega) (by omega) (by omega)⟩
          generalize (at_ E (k + 1)).1 = x1 at *
          generalize (at_ E k).1 = x2 at *
          clear e1 e2 hEl
          go_wp2_with fail
          go_region
          go_wp2_with fail
          go_roundg (k - i)
          case measure => omega
          case rel => exact ⟨k, _, by omega, by omega, rfl, by go_num, hsw, HX.out.2, HX.out.1, (hF.four _ _ _ _ _ _ _ _).drew⟩
        · obtain rfl : v = i := by omega
          go_wp2_with fail
          (try simp only [Exit.inBlock, Exit.then]); refine bodyPost_ret (results_none rfl _ _ _) rfl ?_
          exact ⟨rfl, E, hP, hL, HSo.out E hM, hF⟩
#print axioms symLast_any
end Go.Proofs.Ytcefochgpijfbaa
