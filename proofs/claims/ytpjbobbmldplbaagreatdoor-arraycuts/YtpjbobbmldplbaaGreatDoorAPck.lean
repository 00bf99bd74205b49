/- Which arrays may be: the program's Check. -/
import Derived.Test.YtpjbobbmldplbaaGreatDoorK01
import Derived.Test.YtpjbobbmldplbaaGreatDoorAOne
import Derived.Test.YtpjbobbmldplbaaGreatDoorK13
import Derived.Deep.RegionHeld3
import Derived.Deep.DeepCutAuto
import Derived.Deep.QuietTactic
namespace Go.Proofs.YtpjbobbmldplbaaGreatDoor
open Go.RowKit Ieee Go.Shelf
attribute [local go_sem] run_store_float

def ckV (v : Vv) : Int := ckF v.k v.n v.s v.y v.e
theorem ckV_any (v : Vv) (h : Vok v) (w : World) (hU : U8 w) : Calls Tryz.prog 42 #[(.agg #[.int .i64 v.k, .float .f64 v.n, .string v.s, .bool v.y, .int .i64 v.e])] w fun e w' => e = .returned (.int .i64 (ckV v)) ∧ Fr noB w w' :=
  pcheck_any v.k v.n h.1 v.s v.y v.e w h.2 hU
theorem quo_lt {r c : Int} (hc : 1 ≤ c) : ((4096 : Int) / c < r) ↔ 4096 < r * c := Int.ediv_lt_iff_lt_mul (by omega)
set_option maxRecDepth 100000 in
set_option maxHeartbeats 2000000 in
theorem pcheckA (r c : Int) (ao : Option Addr) (cap : Nat) (L : List Vv) (w : World) (hA : VsAt w ao L) (hV : ∀ y ∈ L, Vok y) (hU : U8 w) :
    Calls Tryz.prog 27 #[.agg #[.int .i64 r, .int .i64 c, .slice ao L.length cap]] w fun e w' => e = .returned (.int .i64 (arrF ckV r c L)) ∧ Fr noB w w' := by
  have hF0 : Fr noB w (w.alloc (.cells #[.int .i64 r, .int .i64 c, .slice ao L.length cap] 27 (0, 0))) := (Fr.refl noB w).alloc _
  by_cases h1 : r < 1
  · have e1 : arrF ckV r c L = 1 := by simp [arrF, h1]
    rw [e1]
    clear hA hV hU
    go_enter Tryz.func27, Tryz.ntmps27
    go_wp2_with fail
    go_ret
    exact ⟨rfl, hF0⟩
  by_cases h2 : c < 1
  · have e1 : arrF ckV r c L = 1 := by simp [arrF, h2]
    rw [e1]
    clear hA hV hU
    go_enter Tryz.func27, Tryz.ntmps27
    go_wp2_with fail
    go_ret
    exact ⟨rfl, hF0⟩
  have hq := @quo_lt r c (by omega)
  have hc0 : ¬ c = 0 := by omega
  by_cases h3 : 4096 < r * c
  · have e1 : arrF ckV r c L = 3 := by simp [arrF, h1, h2, h3]
    rw [e1]
    have hq1 : (4096 : Int) / c < r := hq.2 h3
    have hA0 : AAt (w.alloc (.cells #[.int .i64 r, .int .i64 c, .slice ao L.length cap] 27 (0, 0))) w.heap.size r c ao L.length cap := ⟨new1 _ _ _ rfl⟩
    clear hA hV hU hq h3
    go_enter Tryz.func27, Tryz.ntmps27
    go_wp2_with fail
    generalize w.alloc (.cells #[.int .i64 r, .int .i64 c, .slice ao L.length cap] 27 (0, 0)) = W0 at hA0 hF0 ⊢
    have x0 : W0.cell? ⟨w.heap.size, 0, none⟩ = some (.int .i64 r) := cellOf (o := 0) hA0.o rfl
    have x1 : W0.cell? ⟨w.heap.size, 1, none⟩ = some (.int .i64 c) := cellOf (o := 1) hA0.o rfl
    have x2 : W0.cell? ⟨w.heap.size, 2, none⟩ = some (.slice ao L.length cap) := cellOf (o := 2) hA0.o rfl
    clear hA0
    go_quiet (fail)
    go_wp2_with fail
    go_ret
    exact ⟨rfl, hF0.drewN _⟩
  have hq1 : ¬ (4096 : Int) / c < r := fun h => h3 (hq.1 h)
  have hm0 : 0 ≤ r * c := Int.mul_nonneg (by omega) (by omega)
  have hm1 : r * c ≤ 4096 := by omega
  obtain ⟨m, hm⟩ : ∃ m, r * c = m := ⟨_, rfl⟩
  rw [hm] at hm0 hm1
  have hq2 : r ≤ (4096 : Int) / c := by omega
  clear hq1
  by_cases h4 : (L.length : Int) = m
  · have e1 : arrF ckV r c L = fstE ckV L := by simp [arrF, h1, h2, hm, h4]; intro hh; omega
    rw [e1]
    have hA0 : AAt (w.alloc (.cells #[.int .i64 r, .int .i64 c, .slice ao L.length cap] 27 (0, 0))) w.heap.size r c ao L.length cap := ⟨new1 _ _ _ rfl⟩
    have HA : Hid (VsAt w ao L) := hA
    have HV : Hid (∀ y ∈ L, Vok y) := hV
    have HU : Hid (∀ W, Fr noB w W → U8 W) := fun W h => hU.fr h
    clear hA hV hU hq h3 e1
    go_enter Tryz.func27, Tryz.ntmps27
    go_wp2_with fail
    generalize w.alloc (.cells #[.int .i64 r, .int .i64 c, .slice ao L.length cap] 27 (0, 0)) = W0 at hA0 hF0 ⊢
    have x0 : W0.cell? ⟨w.heap.size, 0, none⟩ = some (.int .i64 r) := cellOf (o := 0) hA0.o rfl
    have x1 : W0.cell? ⟨w.heap.size, 1, none⟩ = some (.int .i64 c) := cellOf (o := 1) hA0.o rfl
    have x2 : W0.cell? ⟨w.heap.size, 2, none⟩ = some (.slice ao L.length cap) := cellOf (o := 2) hA0.o rfl
    clear hA0
    go_quiet (fail)
    have h5 : ((L.length : Int) != m) = false := by simp [h4]
    go_wp2_with fail
    have HF1 : Hid (Fr noB w (W0.drewN nq)) := hF0.drewN _
    clear h5 x0 x1 x2
    go_loopw [35] (fun i wr => ∃ k : Nat, k ≤ L.length ∧ i = .int .i64 (k : Int) ∧ (∀ j (hj : j < L.length), j < k → ckV L[j] = 0) ∧ Fr noB w wr) (fun i _ => L.length - (intOf i).toNat)
    case atStart => exact ⟨0, Nat.zero_le _, rfl, fun j _ h => absurd h (Nat.not_lt_zero _), HF1.out⟩
    case round =>
      obtain ⟨k, hk, rfl, hall, hF⟩ := hrel
      have HL : Hid _ := hall
      clear hall
      by_cases hlt : k < L.length
      · obtain ⟨b, off, rfl, hb, c0, c1, c2, c3, c4⟩ := (HA.out.keep hF).get k hlt
        obtain ⟨v, hv⟩ : ∃ v, L[k] = v := ⟨_, rfl⟩
        have hVk : Vok v := by rw [← hv]; exact HV.out _ (List.getElem_mem hlt)
        have HX : Hid (∀ j (hj : j < L.length), j = k → ckV L[j] = ckV v) := fun j hj e => by subst e; rw [hv]
        rw [hv] at c0 c1 c2 c3 c4
        clear hv
        have HC := ckV_any v hVk (wr.alloc (.cells #[.int .i64 v.k, .float .f64 v.n, .string v.s, .bool v.y, .int .i64 v.e] 37 (0, 0))) (HU.out _ (hF.alloc _))
        have HF : Hid (Fr noB w wr) := hF
        obtain ⟨e0, he0⟩ : ∃ e0, ckV v = e0 := ⟨_, rfl⟩
        rw [he0] at HC HX
        clear he0 hVk
        obtain ⟨vk, vn, vs, vy, ve⟩ := v
        simp only at c0 c1 c2 c3 c4 HC
        clear hF
        by_cases hz : e0 = 0
        · subst hz
          go_wp2_with (go_at_call 42; refine HC.mono ?_; rintro e w1 ⟨rfl, hF1⟩)
          refine ⟨⟨k + 1, by omega, by go_num, fun j hj hjk => ?_, (HF.out.alloc _).trans hF1⟩, by simp [intOf]; omega⟩
          by_cases hjk2 : j = k
          · exact HX.out j hj hjk2
          · exact HL.out j hj (by omega)
        · have hz2 : (e0 != 0) = true := by simpa using hz
          have HR : Hid (fstE ckV L = e0) := by
            show fstE ckV L = e0
            rw [fstE_hit ckV L k hlt HL.out (by rw [HX.out k hlt rfl]; exact hz)]
            exact HX.out k hlt rfl
          go_wp2_with (go_at_call 42; refine HC.mono ?_; rintro e w1 ⟨rfl, hF1⟩)
          go_ret
          rw [HR.out]
          exact ⟨rfl, (HF.out.alloc _).trans hF1⟩
      · obtain rfl : k = L.length := by omega
        go_wp2_with fail
        go_ret
        rw [fstE_none ckV L (fun j hj => HL.out j hj hj)]
        exact ⟨rfl, hF⟩
  · have e1 : arrF ckV r c L = 1 := by
      simp only [arrF]
      rw [if_neg (by omega), if_neg (by omega), if_pos (by omega)]
    rw [e1]
    have hA0 : AAt (w.alloc (.cells #[.int .i64 r, .int .i64 c, .slice ao L.length cap] 27 (0, 0))) w.heap.size r c ao L.length cap := ⟨new1 _ _ _ rfl⟩
    clear hA hV hU hq h3 e1
    go_enter Tryz.func27, Tryz.ntmps27
    go_wp2_with fail
    generalize w.alloc (.cells #[.int .i64 r, .int .i64 c, .slice ao L.length cap] 27 (0, 0)) = W0 at hA0 hF0 ⊢
    have x0 : W0.cell? ⟨w.heap.size, 0, none⟩ = some (.int .i64 r) := cellOf (o := 0) hA0.o rfl
    have x1 : W0.cell? ⟨w.heap.size, 1, none⟩ = some (.int .i64 c) := cellOf (o := 1) hA0.o rfl
    have x2 : W0.cell? ⟨w.heap.size, 2, none⟩ = some (.slice ao L.length cap) := cellOf (o := 2) hA0.o rfl
    clear hA0
    go_quiet (fail)
    have h5 : ((L.length : Int) != m) = true := by simpa using h4
    go_wp2_with fail
    go_ret
    exact ⟨rfl, hF0.drewN _⟩
#print axioms pcheckA
end Go.Proofs.YtpjbobbmldplbaaGreatDoor
