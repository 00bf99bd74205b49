/- The contract of the stable sort over packages, by their weight. -/
import Derived.Test.YtcefochgpijfbaaSymE
namespace Go.Proofs.Ytcefochgpijfbaa
open Go.RowKit

set_option maxRecDepth 100000 in
set_option maxHeartbeats 3200000 in
theorem stable_any (g cap N : Nat) (D : List PV) (w : World) (h : PRow w g D) (hS : AllSl D) (hN : D.length = N) (hl : N ≤ 100000) :
    Calls Try.prog 28 #[.slice (some ⟨g, 0, none⟩) N cap, .int .i64 (N : Int), .func (.func 18) #[] #[]] w fun e w' => e = .returned (.tuple #[]) ∧ ∃ E, PRow w' g E ∧ Like 0 N D E ∧ SortP E 0 N ∧ Fr (oneB g) w w' := by
  have HN : Hid (D.length = N) := hN
  have HI : Hid (∀ (a b : Nat) (E : List PV) (w : World), PRow w g E → Like 0 N D E → a ≤ b → b ≤ N → Calls Try.prog 31 #[.slice (some ⟨g, 0, none⟩) N cap, .int .i64 (a : Int), .int .i64 (b : Int), .func (.func 18) #[] #[]] w fun e w' => e = .returned (.tuple #[]) ∧ ∃ F, PRow w' g F ∧ Like a b E F ∧ SortP F a b ∧ Fr (oneB g) w w') := by
    intro a b E w hP hL h1 h2
    have hEl : E.length = N := hL.length.trans hN
    have := insertion_any g cap a b E w hP (hS.perm hL.perm) h1 (by omega) (by omega)
    rwa [hEl] at this
  have HY : Hid (∀ (a m b : Nat) (E : List PV) (w : World), PRow w g E → Like 0 N D E → a < m → m < b → b ≤ N → SortP E a m → SortP E m b → Calls Try.prog 32 #[.slice (some ⟨g, 0, none⟩) N cap, .int .i64 (a : Int), .int .i64 (m : Int), .int .i64 (b : Int), .func (.func 18) #[] #[]] w fun e w' => e = .returned (.tuple #[]) ∧ ∃ F, PRow w' g F ∧ Like a b E F ∧ SortP F a b ∧ Fr (oneB g) w w') := by
    intro a m b E w hP hL h1 h2 h3 s1 s2
    have hEl : E.length = N := hL.length.trans hN
    exact symMerge_any g cap N hl (N + 1) a m b E w (by omega) hP (hS.perm hL.perm) hEl h1 h2 h3 s1 s2
  clear hN hS
  go_enter Try.func28, Try.ntmps28
  go_wp2_with fail
  go_loopg [7, 8] N (fun gh av bv wr => ∃ (A B : Nat) (E : List PV), Hid (∃ k, A = k * 20 ∧ B = A + 20) ∧ A ≤ N ∧ B ≤ 100020 ∧ gh = N - A ∧ av = .int .i64 (A : Int) ∧ bv = .int .i64 (B : Int) ∧ PRow wr g E ∧ Like 0 N D E ∧ BlkS E 20 A ∧ Fr (oneB g) w wr)
  case atStart => exact ⟨0, 20, D, ⟨0, rfl, rfl⟩, by omega, by omega, rfl, rfl, rfl, h, Like.refl, fun i j _ h2 => by omega, Fr.refl _ _⟩
  case round =>
    clear h
    obtain ⟨A, B, E, HA, hAN, hBN, rfl, rfl, rfl, hP, hL, hB, hF⟩ := hrel
    by_cases hle : B ≤ N
    · have hc := HI.out A B E wr hP hL (by obtain ⟨k, h1, h2⟩ := HA.out; omega) hle
      go_wp2_with fail
      refine hc.mono ?_
      rintro e w2 ⟨rfl, F, hPF, hLF, hSF, hFF⟩
      have HX : Hid ((∃ k, B = k * 20) ∧ BlkS F 20 B ∧ Like 0 N D F ∧ A < B) := by
        obtain ⟨k, h1, h2⟩ := HA.out
        subst h1
        exact ⟨⟨k + 1, by omega⟩, BlkS.more (by omega) hB hLF hSF, hL.trans (hLF.mono (by omega) hle), by omega⟩
      have hFw := hF.trans hFF
      clear hc hP hL hB hF hLF hSF hFF
      go_wp2_with fail
      go_roundg (N - B)
      case measure => have := HX.out.2.2.2; omega
      case rel => exact ⟨B, B + 20, F, (by obtain ⟨k, hk⟩ := HX.out.1; exact ⟨k, hk, rfl⟩), hle, by omega, rfl, rfl, by go_num, hPF, HX.out.2.2.1, HX.out.2.1, hFw⟩
    · have hc := HI.out A N E wr hP hL hAN (Nat.le_refl _)
      go_wp2_with fail
      refine hc.mono ?_
      rintro e w2 ⟨rfl, F, hPF, hLF, hSF, hFF⟩
      have HX : Hid (BlkS F 20 N ∧ Like 0 N D F) := by
        obtain ⟨k, h1, h2⟩ := HA.out
        subst h1
        exact ⟨BlkS.more (by omega) hB hLF hSF, hL.trans (hLF.mono (by omega) (Nat.le_refl _))⟩
      have hFw := hF.trans hFF
      clear hc hP hL hB hF hLF hSF hFF
      go_wp2_with fail
      go_loopg [6] (N - 20) (fun gh cv wr => ∃ (C : Nat) (E : List PV), 0 < C ∧ C ≤ 200020 ∧ gh = N - C ∧ cv = .int .i64 (C : Int) ∧ PRow wr g E ∧ Like 0 N D E ∧ BlkS E C N ∧ Fr (oneB g) w wr)
      case atStart => exact ⟨20, F, by omega, by omega, rfl, rfl, hPF, HX.out.2, HX.out.1, hFw⟩
      case round =>
        clear hPF hFw HX HA
        obtain ⟨C, E, hC0, hC1, rfl, rfl, hP, hL, hB, hF⟩ := hrel
        by_cases hlt : C < N
        · obtain ⟨C2, hC2⟩ : ∃ C2, C2 = 2 * C := ⟨_, rfl⟩
          have h2I : 2 * (C : Int) = (C2 : Int) := by omega
          have h2I' : (C : Int) * 2 = (C2 : Int) := by omega
          have hC2b : C < C2 ∧ C2 ≤ 200020 := by omega
          have HC : Hid (C2 = 2 * C) := hC2
          have HMs : Hid (MixS E C C2 0 N) := by rw [hC2]; exact MixS.start hB
          clear hC2 hB
          go_wp2_with fail
          go_loopg [7, 8] N (fun gh av bv wr => ∃ (A B : Nat) (E : List PV), Hid (∃ k, A = k * C2 ∧ B = A + C2) ∧ A ≤ N ∧ B ≤ 300020 ∧ gh = N - A ∧ av = .int .i64 (A : Int) ∧ bv = .int .i64 (B : Int) ∧ PRow wr g E ∧ Like 0 N D E ∧ MixS E C C2 A N ∧ Fr (oneB g) w wr)
          case atStart => exact ⟨0, C2, E, ⟨0, by omega, by omega⟩, by omega, by omega, rfl, rfl, rfl, hP, hL, HMs.out, hF⟩
          case round =>
            clear hP hL hF HMs
            obtain ⟨A, B, E, HA, hAN, hBN, rfl, rfl, rfl, hP, hL, hB, hF⟩ := hrel
            obtain ⟨M, hM⟩ : ∃ M, M = A + C := ⟨_, rfl⟩
            have hMI : (A : Int) + (C : Int) = (M : Int) := by omega
            by_cases hle : B ≤ N
            · have HX0 : Hid (A < M ∧ M < B ∧ SortP E A M ∧ SortP E M B) := by
                obtain ⟨k, h1, h2⟩ := HA.out
                have e := HC.out
                subst e
                subst h1
                subst hM
                exact ⟨by omega, by omega, hB.first (by omega), hB.second (by omega) (by omega)⟩
              have hc := HY.out A M B E wr hP hL HX0.out.1 HX0.out.2.1 hle HX0.out.2.2.1 HX0.out.2.2.2
              clear hM
              go_wp2_with fail
              refine hc.mono ?_
              rintro e w2 ⟨rfl, F, hPF, hLF, hSF, hFF⟩
              have HX : Hid ((∃ k, B = k * C2) ∧ MixS F C C2 B N ∧ Like 0 N D F ∧ A < B) := by
                obtain ⟨k, h1, h2⟩ := HA.out
                have e := HC.out
                subst e
                subst h1
                subst h2
                have e2 : (k + 1) * (2 * C) = k * (2 * C) + 2 * C := by rw [Nat.add_mul, Nat.one_mul]
                exact ⟨⟨k + 1, e2.symm⟩, by rw [← e2]; exact hB.step hC0 hLF hSF, hL.trans (hLF.mono (by omega) hle), by omega⟩
              have hFw := hF.trans hFF
              clear hc hP hL hB hF hLF hSF hFF HX0
              go_wp2_with fail
              go_roundg (N - B)
              case measure => have := HX.out.2.2.2; omega
              case rel => exact ⟨B, B + C2, F, (by obtain ⟨k, hk⟩ := HX.out.1; exact ⟨k, hk, rfl⟩), hle, by omega, rfl, rfl, by go_num, hPF, HX.out.2.2.1, HX.out.2.1, hFw⟩
            · by_cases hMN : M < N
              · have hMNI : (M : Int) < (N : Int) := by omega
                have HX0 : Hid (A < M ∧ SortP E A M ∧ SortP E M N) := by
                  obtain ⟨k, h1, h2⟩ := HA.out
                  have e := HC.out
                  subst e
                  subst h1
                  subst hM
                  exact ⟨by omega, hB.first (by omega), hB.second (by omega) (by omega)⟩
                have hc := HY.out A M N E wr hP hL HX0.out.1 hMN (Nat.le_refl _) HX0.out.2.1 HX0.out.2.2
                clear hM
                go_wp2_with fail
                refine hc.mono ?_
                rintro e w2 ⟨rfl, F, hPF, hLF, hSF, hFF⟩
                have HX : Hid (BlkS F C2 N ∧ Like 0 N D F) := by
                  obtain ⟨k, h1, h2⟩ := HA.out
                  subst h1
                  exact ⟨BlkS.more (by omega) hB.1 hLF hSF, hL.trans (hLF.mono (by omega) (Nat.le_refl _))⟩
                have hFw := hF.trans hFF
                clear hc hP hL hB hF hLF hSF hFF HX0
                go_wp2_with fail
                go_roundg (N - C2)
                case measure => omega
                case rel => exact ⟨C2, F, by omega, by omega, rfl, rfl, hPF, HX.out.2, HX.out.1, hFw⟩
              · have hMNI : ¬ (M : Int) < (N : Int) := by omega
                have HX : Hid (BlkS E C2 N) := by
                  obtain ⟨k, h1, h2⟩ := HA.out
                  have e := HC.out
                  subst e
                  subst h1
                  subst hM
                  exact hB.stay hC0 (by omega)
                clear hM hB
                go_wp2_with fail
                go_roundg (N - C2)
                case measure => omega
                case rel => exact ⟨C2, E, by omega, by omega, rfl, rfl, hP, hL, HX.out, hF⟩
        · go_wp2_with fail
          go_end0
          exact ⟨rfl, E, hP, hL, hB.whole (by omega), hF⟩

set_option maxHeartbeats 800000 in
theorem sortStable_any (g cap N : Nat) (D : List PV) (w : World) (h : PRow w g D) (hS : AllSl D) (hN : D.length = N) (hl : N ≤ 100000) :
    Calls Try.prog 20 #[.slice (some ⟨g, 0, none⟩) N cap, .func (.func 18) #[] #[]] w fun e w' => e = .returned (.tuple #[]) ∧ ∃ E, PRow w' g E ∧ E.Perm D ∧ SortP E 0 N ∧ Fr (oneB g) w w' := by
  have hc := stable_any g cap N D w h hS hN hl
  clear hN
  go_enter Try.func20, Try.ntmps20
  go_wp2_with fail
  refine hc.mono ?_
  rintro e w2 ⟨rfl, F, hPF, hLF, hSF, hFF⟩
  go_wp2_with fail
  go_end0
  exact ⟨rfl, F, hPF, hLF.perm, hSF, hFF⟩
#print axioms sortStable_any
end Go.Proofs.Ytcefochgpijfbaa
