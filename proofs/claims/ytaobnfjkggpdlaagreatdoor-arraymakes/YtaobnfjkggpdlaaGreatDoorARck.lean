/- Which arrays may be: the document's Check. -/
import Derived.Test.YtaobnfjkggpdlaaGreatDoorAPck
namespace Go.Proofs.YtaobnfjkggpdlaaGreatDoor
open Go.RowKit Ieee Go.Shelf
attribute [local go_sem] run_store_float

theorem rckV_any (v : Vv) (h : Vok v) (w : World) (hU : U8 w) : Calls Tryz.prog 39 #[(.agg #[.int .i64 v.k, .float .f64 v.n, .string v.s, .bool v.y, .int .i64 v.e])] w fun e w' => e = .returned (.int .i64 (ckV v)) ∧ Fr noB w w' :=
  rcheck_any v.k v.n h.1 v.s v.y v.e w h.2 hU
set_option maxRecDepth 100000 in
set_option maxHeartbeats 2000000 in
theorem rcheckA (r c : Int) (ao : Option Addr) (cap : Nat) (L : List Vv) (w : World) (hA : VsAt w ao L) (hV : ∀ y ∈ L, Vok y) (hU : U8 w) :
    Calls Tryz.prog 11 #[.agg #[.int .i64 r, .int .i64 c, .slice ao L.length cap]] w fun e w' => e = .returned (.int .i64 (arrF ckV r c L)) ∧ Fr noB w w' := by
  have hF0 : Fr noB w (w.alloc (.cells #[.int .i64 r, .int .i64 c, .slice ao L.length cap] 24 (0, 0))) := (Fr.refl noB w).alloc _
  by_cases h1 : r < 1
  · have e1 : arrF ckV r c L = 1 := by simp [arrF, h1]
    rw [e1]
    clear hA hV hU
    go_enter Tryz.func11, Tryz.ntmps11
    go_wp2_with fail
    go_ret
    exact ⟨rfl, hF0⟩
  by_cases h2 : c < 1
  · have e1 : arrF ckV r c L = 1 := by simp [arrF, h2]
    rw [e1]
    clear hA hV hU
    go_enter Tryz.func11, Tryz.ntmps11
    go_wp2_with fail
    go_ret
    exact ⟨rfl, hF0⟩
  have hq := @quo_lt c r (by omega)
  have hc0 : ¬ r = 0 := by omega
  have hcm : c * r = r * c := Int.mul_comm c r
  by_cases h6 : 4096 < r
  · have h3 : 4096 < r * c := by
      have := Int.mul_le_mul_of_nonneg_left (show 1 ≤ c by omega) (show 0 ≤ r by omega)
      omega
    have e1 : arrF ckV r c L = 3 := by simp [arrF, h1, h2, h3]
    rw [e1]
    have g1 : decide (4096 < r) = true := by simpa using h6
    have hA0 : AAt (w.alloc (.cells #[.int .i64 r, .int .i64 c, .slice ao L.length cap] 24 (0, 0))) w.heap.size r c ao L.length cap := ⟨new1 _ _ _ rfl⟩
    clear hA hV hU hq h3 hcm
    go_enter Tryz.func11, Tryz.ntmps11
    go_wp2_with fail
    generalize w.alloc (.cells #[.int .i64 r, .int .i64 c, .slice ao L.length cap] 24 (0, 0)) = W0 at hA0 hF0 ⊢
    have x0 : W0.cell? ⟨w.heap.size, 0, none⟩ = some (.int .i64 r) := cellOf (o := 0) hA0.o rfl
    have x1 : W0.cell? ⟨w.heap.size, 1, none⟩ = some (.int .i64 c) := cellOf (o := 1) hA0.o rfl
    have x2 : W0.cell? ⟨w.heap.size, 2, none⟩ = some (.slice ao L.length cap) := cellOf (o := 2) hA0.o rfl
    clear hA0
    go_quiet (fail)
    go_wp2_with fail
    go_ret
    exact ⟨rfl, hF0.drewN _⟩
  have g1 : decide (4096 < r) = false := by simpa using h6
  by_cases h3 : 4096 < r * c
  · have e1 : arrF ckV r c L = 3 := by simp [arrF, h1, h2, h3]
    rw [e1]
    have hq1 : (4096 : Int) / r < c := hq.2 (by omega)
    have hA0 : AAt (w.alloc (.cells #[.int .i64 r, .int .i64 c, .slice ao L.length cap] 24 (0, 0))) w.heap.size r c ao L.length cap := ⟨new1 _ _ _ rfl⟩
    clear hA hV hU hq h3 hcm
    go_enter Tryz.func11, Tryz.ntmps11
    go_wp2_with fail
    generalize w.alloc (.cells #[.int .i64 r, .int .i64 c, .slice ao L.length cap] 24 (0, 0)) = W0 at hA0 hF0 ⊢
    have x0 : W0.cell? ⟨w.heap.size, 0, none⟩ = some (.int .i64 r) := cellOf (o := 0) hA0.o rfl
    have x1 : W0.cell? ⟨w.heap.size, 1, none⟩ = some (.int .i64 c) := cellOf (o := 1) hA0.o rfl
    have x2 : W0.cell? ⟨w.heap.size, 2, none⟩ = some (.slice ao L.length cap) := cellOf (o := 2) hA0.o rfl
    clear hA0
    go_quiet (fail)
    go_wp2_with fail
    go_ret
    exact ⟨rfl, hF0.drewN _⟩
  have hq1 : ¬ (4096 : Int) / r < c := fun h => h3 (by have := hq.1 h; omega)
  have hm0 : 0 ≤ r * c := Int.mul_nonneg (by omega) (by omega)
  have hm1 : r * c ≤ 4096 := by omega
  obtain ⟨m, hm⟩ : ∃ m, r * c = m := ⟨_, rfl⟩
  rw [hm] at hm0 hm1
  have hq2 : c ≤ (4096 : Int) / r := by omega
  clear hq1 hcm
  by_cases h4 : (L.length : Int) = m
  · have e1 : arrF ckV r c L = fstE ckV L := by simp [arrF, h1, h2, hm, h4]; intro hh; omega
    rw [e1]
    have hA0 : AAt (w.alloc (.cells #[.int .i64 r, .int .i64 c, .slice ao L.length cap] 24 (0, 0))) w.heap.size r c ao L.length cap := ⟨new1 _ _ _ rfl⟩
    have HA : Hid (VsAt w ao L) := hA
    have HV : Hid (∀ y ∈ L, Vok y) := hV
    have HU : Hid (∀ W, Fr noB w W → U8 W) := fun W h => hU.fr h
    clear hA hV hU hq h3 e1
    go_enter Tryz.func11, Tryz.ntmps11
    go_wp2_with fail
    generalize w.alloc (.cells #[.int .i64 r, .int .i64 c, .slice ao L.length cap] 24 (0, 0)) = W0 at hA0 hF0 ⊢
    have x0 : W0.cell? ⟨w.heap.size, 0, none⟩ = some (.int .i64 r) := cellOf (o := 0) hA0.o rfl
    have x1 : W0.cell? ⟨w.heap.size, 1, none⟩ = some (.int .i64 c) := cellOf (o := 1) hA0.o rfl
    have x2 : W0.cell? ⟨w.heap.size, 2, none⟩ = some (.slice ao L.length cap) := cellOf (o := 2) hA0.o rfl
    go_quiet (fail)
    have h5 : ((L.length : Int) != m) = false := by simp [h4]
    go_wp2_with fail
    have HF1 : Hid (Fr noB w (W0.drewN nq)) := hF0.drewN _
    have HB : Hid (∀ W, Fr noB (W0.drewN nq) W → W.cell? ⟨w.heap.size, 2, none⟩ = some (.slice ao L.length cap)) := fun W h => cellOf (o := 2) ((hA0.fr ((Fr.refl noB W0).drewN nq) id).fr h id).o rfl
    clear h5 x0 x1 x2 hA0
    go_loopw [3] (fun i wr => ∃ k : Nat, k ≤ L.length ∧ i = .int .i64 (k : Int) ∧ (∀ j (hj : j < L.length), j < k → ckV L[j] = 0) ∧ Fr noB (W0.drewN nq) wr) (fun i _ => L.length - (intOf i).toNat)
    case atStart => exact ⟨0, Nat.zero_le _, rfl, fun j _ h => absurd h (Nat.not_lt_zero _), Fr.refl _ _⟩
    case round =>
      obtain ⟨k, hk, rfl, hall, hF⟩ := hrel
      have HL : Hid _ := hall
      have y2 := HB.out _ hF
      clear hall
      by_cases hlt : k < L.length
      · obtain ⟨b, off, rfl, hb, c0, c1, c2, c3, c4⟩ := (HA.out.keep (HF1.out.trans hF)).get k hlt
        obtain ⟨v, hv⟩ : ∃ v, L[k] = v := ⟨_, rfl⟩
        have hVk : Vok v := by rw [← hv]; exact HV.out _ (List.getElem_mem hlt)
        have HX : Hid (∀ j (hj : j < L.length), j = k → ckV L[j] = ckV v) := fun j hj e => by subst e; rw [hv]
        rw [hv] at c0 c1 c2 c3 c4
        clear hv
        have HC := rckV_any v hVk wr (HU.out _ (HF1.out.trans hF))
        have HF : Hid (Fr noB (W0.drewN nq) wr) := hF
        obtain ⟨e0, he0⟩ : ∃ e0, ckV v = e0 := ⟨_, rfl⟩
        rw [he0] at HC HX
        clear he0 hVk
        obtain ⟨vk, vn, vs, vy, ve⟩ := v
        simp only at c0 c1 c2 c3 c4 HC
        clear hF hF0
        by_cases hz : e0 = 0
        · subst hz
          go_wp2_with (go_at_call 39; refine HC.mono ?_; rintro e w1 ⟨rfl, hF1⟩)
          refine ⟨⟨k + 1, by omega, by go_num, fun j hj hjk => ?_, HF.out.trans hF1⟩, by simp [intOf]; omega⟩
          by_cases hjk2 : j = k
          · exact HX.out j hj hjk2
          · exact HL.out j hj (by omega)
        · have hz2 : (e0 != 0) = true := by simpa using hz
          have HR : Hid (fstE ckV L = e0) := by
            show fstE ckV L = e0
            rw [fstE_hit ckV L k hlt HL.out (by rw [HX.out k hlt rfl]; exact hz)]
            exact HX.out k hlt rfl
          go_wp2_with (go_at_call 39; refine HC.mono ?_; rintro e w1 ⟨rfl, hF1⟩)
          go_ret
          rw [HR.out]
          exact ⟨rfl, HF1.out.trans (HF.out.trans hF1)⟩
      · obtain rfl : k = L.length := by omega
        go_wp2_with fail
        go_ret
        rw [fstE_none ckV L (fun j hj => HL.out j hj hj)]
        exact ⟨rfl, HF1.out.trans hF⟩
  · have e1 : arrF ckV r c L = 1 := by
      simp only [arrF]
      rw [if_neg (by omega), if_neg (by omega), if_pos (by omega)]
    rw [e1]
    have hA0 : AAt (w.alloc (.cells #[.int .i64 r, .int .i64 c, .slice ao L.length cap] 24 (0, 0))) w.heap.size r c ao L.length cap := ⟨new1 _ _ _ rfl⟩
    clear hA hV hU hq h3 e1
    go_enter Tryz.func11, Tryz.ntmps11
    go_wp2_with fail
    generalize w.alloc (.cells #[.int .i64 r, .int .i64 c, .slice ao L.length cap] 24 (0, 0)) = W0 at hA0 hF0 ⊢
    have x0 : W0.cell? ⟨w.heap.size, 0, none⟩ = some (.int .i64 r) := cellOf (o := 0) hA0.o rfl
    have x1 : W0.cell? ⟨w.heap.size, 1, none⟩ = some (.int .i64 c) := cellOf (o := 1) hA0.o rfl
    have x2 : W0.cell? ⟨w.heap.size, 2, none⟩ = some (.slice ao L.length cap) := cellOf (o := 2) hA0.o rfl
    clear hA0
    go_quiet (fail)
    have h5 : ((L.length : Int) != m) = true := by simpa using h4
    go_wp2_with fail
    go_ret
    exact ⟨rfl, hF0.drewN _⟩
#print axioms rcheckA
end Go.Proofs.YtaobnfjkggpdlaaGreatDoor
