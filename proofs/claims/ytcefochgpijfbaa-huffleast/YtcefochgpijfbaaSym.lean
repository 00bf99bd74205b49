/- The contract of the sort's symmetric merge. -/
import Derived.Test.YtcefochgpijfbaaSymM
import Derived.Test.YtcefochgpijfbaaIns
namespace Go.Proofs.Ytcefochgpijfbaa
open Go.RowKit

set_option maxRecDepth 100000 in
set_option maxHeartbeats 1600000 in
theorem symFirst_any (g cap a b : Nat) (D : List PV) (w : World) (h : PRow w g D) (hS : AllSl D) (hab : a + 1 < b) (hb : b ≤ D.length) (hl : D.length ≤ 100000) (hs : SortP D (a + 1) b) :
    Calls Try.prog 32 #[.slice (some ⟨g, 0, none⟩) D.length cap, .int .i64 (a : Int), .int .i64 ((a + 1 : Nat) : Int), .int .i64 (b : Int), .func (.func 18) #[] #[]] w fun e w' => e = .returned (.tuple #[]) ∧ ∃ E, PRow w' g E ∧ Like a b D E ∧ SortP E a b ∧ Fr (oneB g) w w' := by
  obtain ⟨N, hN⟩ : ∃ N, D.length = N := ⟨_, rfl⟩
  rw [hN] at hb hl ⊢
  have HN : Hid (D.length = N) := hN
  clear hN
  have hI1 : (a : Int) + 1 - (a : Int) = 1 := by omega
  go_enter Try.func32, Try.ntmps32
  go_wp2_with fail
  go_loopg [10, 11] (b - (a + 1)) (fun gh iv jv wr => ∃ (i j : Nat), gh = j - i ∧ iv = .int .i64 (i : Int) ∧ jv = .int .i64 (j : Int) ∧ PRow wr g D ∧ FindA D a (a + 1) b i j ∧ Fr (oneB g) w wr)
  case atStart => exact ⟨a + 1, b, rfl, by go_num, rfl, h, ⟨by omega, by omega, by omega, fun h => by omega, fun h => by omega⟩, Fr.refl _ _⟩
  case round =>
    obtain ⟨i, j, rfl, rfl, rfl, hP, hf, hF⟩ := hrel
    by_cases hlt : i < j
    · obtain ⟨k, hk⟩ : ∃ k, (i + j) / 2 = k := ⟨_, rfl⟩
      have hkI : ((i : Int) + (j : Int)) / 2 = (k : Int) := by omega
      have hfb := And.intro hf.1 (And.intro hf.2.1 hf.2.2.1)
      have hik : i ≤ k := by omega
      have hkj : k < j := by omega
      have hkN : (k : Int) < (N : Int) := by omega
      have haN : (a : Int) < (N : Int) := by omega
      have HX : Hid (((at_ D k).1 < (at_ D a).1 → FindA D a (a + 1) b (k + 1) j) ∧ (¬ (at_ D k).1 < (at_ D a).1 → FindA D a (a + 1) b i k)) := by
        obtain ⟨f1, f2, f3, f4, f5⟩ := hf
        exact ⟨fun h => ⟨by omega, by omega, f3, fun _ => h, f5⟩, fun h => ⟨f1, hik, by omega, f4, fun _ => by omega⟩⟩
      have hNl := HN.out
      obtain ⟨a1, l1, q1, e1, c11, c12⟩ := hP.two hS k (by omega)
      obtain ⟨a2, l2, q2, e2, c21, c22⟩ := hP.two hS a (by omega)
      have d11 : wr.drew.cell? ⟨g, k * 2, none⟩ = _ := c11
      have d12 : wr.drew.cell? ⟨g, k * 2 + 1, none⟩ = _ := c12
      have d21 : wr.drew.cell? ⟨g, a * 2, none⟩ = _ := c21
      have d22 : wr.drew.cell? ⟨g, a * 2 + 1, none⟩ = _ := c22
      have hglt : g < wr.heap.size := by obtain ⟨_, hh⟩ := hP; exact lt_of_block hh
      clear e1 e2 hNl hf hk
      generalize (at_ D k).1 = x1 at *
      generalize (at_ D a).1 = x2 at *
      by_cases hx : x1 < x2
      · have hst := HX.out.1 hx
        go_wp2_with fail
        go_region_held3 (fun w' => w'.cell? ⟨g, k * 2, none⟩ = some (.int .i64 (x1 : Int)) ∧ w'.cell? ⟨g, k * 2 + 1, none⟩ = some (.slice a1 l1 q1) ∧ w'.cell? ⟨g, a * 2, none⟩ = some (.int .i64 (x2 : Int)) ∧ w'.cell? ⟨g, a * 2 + 1, none⟩ = some (.slice a2 l2 q2))
          (first | exact ⟨d11, d12, d21, d22⟩ | exact ⟨z11, z12, z21, z22⟩)
          (first | (go_at_call 18; refine (light_lt x1 x2 a1 a2 l1 q1 l2 q2 _ hx).mono ?_; rintro e w2 ⟨rfl, hF2⟩; have z11 := (hF2.cell (a := ⟨g, k * 2, none⟩) hglt id).trans d11; have z12 := (hF2.cell (a := ⟨g, k * 2 + 1, none⟩) hglt id).trans d12; have z21 := (hF2.cell (a := ⟨g, a * 2, none⟩) hglt id).trans d21; have z22 := (hF2.cell (a := ⟨g, a * 2 + 1, none⟩) hglt id).trans d22))
        have hF2' : Fr noB wr w2 := ((Fr.refl noB wr).drew).trans hF2
        have hP2 := hP.keep hF2' id
        have hFw : Fr (oneB g) w w2 := hF.trans hF2'.weak
        clear c11 c12 c21 c22 d11 d12 d21 d22 hF2 hF2' hP hF HX
        go_wp2_with fail
        go_roundg (j - (k + 1))
        case measure => omega
        case rel => exact ⟨k + 1, j, rfl, by go_num, rfl, hP2, hst, hFw⟩
      · have hst := HX.out.2 hx
        go_wp2_with fail
        go_region_held3 (fun w' => w'.cell? ⟨g, k * 2, none⟩ = some (.int .i64 (x1 : Int)) ∧ w'.cell? ⟨g, k * 2 + 1, none⟩ = some (.slice a1 l1 q1) ∧ w'.cell? ⟨g, a * 2, none⟩ = some (.int .i64 (x2 : Int)) ∧ w'.cell? ⟨g, a * 2 + 1, none⟩ = some (.slice a2 l2 q2))
          (first | exact ⟨d11, d12, d21, d22⟩ | exact ⟨z11, z12, z21, z22⟩)
          (first | (go_at_call 18; refine (light_ge x1 x2 a1 a2 l1 q1 l2 q2 _ hx).mono ?_; rintro e w2 ⟨r, rfl, hr, hF2⟩; have z11 := (hF2.cell (a := ⟨g, k * 2, none⟩) hglt id).trans d11; have z12 := (hF2.cell (a := ⟨g, k * 2 + 1, none⟩) hglt id).trans d12; have z21 := (hF2.cell (a := ⟨g, a * 2, none⟩) hglt id).trans d21; have z22 := (hF2.cell (a := ⟨g, a * 2 + 1, none⟩) hglt id).trans d22))
        have hF2' : Fr noB wr w2 := ((Fr.refl noB wr).drew).trans hF2
        have hP2 := hP.keep hF2' id
        have hr0 : ¬ (r : Int) < 0 := by omega
        have hFw : Fr (oneB g) w w2 := hF.trans hF2'.weak
        clear c11 c12 c21 c22 d11 d12 d21 d22 hF2 hF2' hP hF HX
        go_wp2_with fail
        go_roundg (k - i)
        case measure => omega
        case rel => exact ⟨i, k, rfl, rfl, rfl, hP2, hst, hFw⟩
    · obtain rfl : i = j := by have := hf.2.1; omega
      obtain ⟨u, hu⟩ : ∃ u, i = u + 1 := ⟨i - 1, by have := hf.1; omega⟩
      have hfb : a ≤ u ∧ u < b := ⟨by have := hf.1; omega, by have := hf.2.2.1; omega⟩
      have HSo : Hid (∀ E, MoveA D E a u → SortP E a b) := fun E hE => hE.sorted hs hf hu.symm
      have huI : (i : Int) - 1 = (u : Int) := by omega
      clear hlt hf hs
      subst hu
      go_wp2_with fail
      go_loopg [13] (u - a) (fun gh kv wx => ∃ (k : Nat) (E : List PV), a ≤ k ∧ k ≤ u ∧ gh = u - k ∧ kv = .int .i64 (k : Int) ∧ PRow wx g E ∧ Like a b D E ∧ MoveA D E a k ∧ Fr (oneB g) w wx)
      case atStart => exact ⟨a, D, by omega, by omega, rfl, rfl, hP, Like.refl, MoveA.start D a, hF⟩
      case round =>
        clear hP hF
        obtain ⟨k, E, hak, hku, rfl, rfl, hP, hL, hM, hF⟩ := hrel
        by_cases hlt : k < u
        · have hEl : E.length = N := hL.length.trans HN.out
          have hSE := hS.perm hL.perm
          obtain ⟨a1, l1, q1, e1, c11, c12⟩ := hP.two hSE k (by omega)
          obtain ⟨a2, l2, q2, e2, c21, c22⟩ := hP.two hSE (k + 1) (by omega)
          have f1 := hP.free (k * 2)
          have f2 := hP.free (k * 2 + 1)
          have f3 := hP.free ((k + 1) * 2)
          have f4 := hP.free ((k + 1) * 2 + 1)
          have hsw := hP.swap k (k + 1) (by omega) (by omega) e1 e2
          have hne : ¬ k * 2 = (k + 1) * 2 := by omega
          have hne2 : ¬ k * 2 = (k + 1) * 2 + 1 := by omega
          have hne3 : ¬ k * 2 + 1 = (k + 1) * 2 := by omega
          have hne4 : ¬ k * 2 + 1 = (k + 1) * 2 + 1 := by omega
          have hI1 : (k : Int) < (N : Int) := by omega
          have hI2 : (k : Int) + 1 < (N : Int) := by omega
          have HX : Hid (MoveA D (swp E k (k + 1)) a (k + 1) ∧ Like a b D (swp E k (k + 1))) := ⟨hM.step hak (by omega), Like.step E _ _ hL (by omega) (by omega) (by omega) (by omega) (by omega) (by omega)⟩
          generalize (at_ E k).1 = x1 at *
          generalize (at_ E (k + 1)).1 = x2 at *
          clear e1 e2 hEl
          go_wp2_with fail
          go_region
          go_wp2_with fail
          go_roundg (u - (k + 1))
          case measure => omega
          case rel => exact ⟨k + 1, _, by omega, by omega, rfl, by go_num, hsw, HX.out.2, HX.out.1, (hF.four _ _ _ _ _ _ _ _).drew⟩
        · obtain rfl : k = u := by omega
          go_wp2_with fail
          (try simp only [Exit.inBlock, Exit.then]); refine bodyPost_ret (results_none rfl _ _ _) rfl ?_
          exact ⟨rfl, E, hP, hL, HSo.out E hM, hF⟩
#print axioms symFirst_any
end Go.Proofs.Ytcefochgpijfbaa
