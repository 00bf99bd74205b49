/- Which arrays may be: the program's Check. -/
import Derived.Test.YtpjbobbmldplbaaGreatDoorK01
import Derived.Test.YtpjbobbmldplbaaGreatDoorAOne
import Derived.Test.YtpjbobbmldplbaaGreatDoorK13
import Derived.Deep.RegionHeld3
import Derived.Deep.DeepCutAuto
import Derived.Deep.QuietTactic
import Derived.Deep.LoopGhost
namespace Go.Proofs.YtpjbobbmldplbaaGreatDoor
open Go.RowKit Ieee Go.Shelf
attribute [local go_sem] run_store_float

def ckV (v : Vv) : Int := ckF v.k v.n v.s v.y v.e
theorem ckV_any (v : Vv) (h : Vok v) (w : World) (hU : U8 w) : Calls Tryz.prog 42 #[(.agg #[.int .i64 v.k, .float .f64 v.n, .string v.s, .bool v.y, .int .i64 v.e])] w fun e w' => e = .returned (.int .i64 (ckV v)) ∧ Fr noB w w' :=
  pcheck_any v.k v.n h.1 v.s v.y v.e w h.2 hU
theorem quo_lt {r c : Int} (hc : 1 ≤ c) : ((4096 : Int) / c < r) ↔ 4096 < r * c := Int.ediv_lt_iff_lt_mul (by omega)
set_option maxRecDepth 100000 in
set_option maxHeartbeats 2000000 in
theorem pcheckA (r c : Int) (ao : Option Addr) (cap : Nat) (L : List Vv) (w : World) (hA : VsAt w ao L) (hV : ∀ y ∈ L, Vok y) (hU : U8 w) :
    Calls Tryz.prog 27 #[.agg #[.int .i64 r, .int .i64 c, .slice ao L.length cap]] w fun e w' => e = .returned (.int .i64 (arrF ckV r c L)) ∧ Fr noB w w' := by
  have hF0 : Fr noB w (w.alloc (.cells #[.int .i64 r, .int .i64 c, .slice ao L.length cap] 27 (0, 0))) := (Fr.refl noB w).alloc _
  by_cases h1 : r < 1
  · have e1 : arrF ckV r c L = 1 := by simp [arrF, h1]
    rw [e1]
    clear hA hV hU
    go_enter Tryz.func27, Tryz.ntmps27
    go_wp2_with fail
    go_ret
    exact ⟨rfl, hF0⟩
  by_cases h2 : c < 1
  · have e1 : arrF ckV r c L = 1 := by simp [arrF, h2]
    rw [e1]
    clear hA hV hU
    go_enter Tryz.func27, Tryz.ntmps27
    go_wp2_with fail
    go_ret
    exact ⟨rfl, hF0⟩
  have hq := @quo_lt r c (by omega)
  have hc0 : ¬ c = 0 := by omega
  by_cases h3 : 4096 < r * c
  · have e1 : arrF ckV r c L = 3 := by simp [arrF, h1, h2, h3]
    rw [e1]
    have hq1 : (4096 : Int) / c < r := hq.2 h3
    have hA0 : AAt (w.alloc (.cells #[.int .i64 r, .int .i64 c, .slice ao L.length cap] 27 (0, 0))) w.heap.size r c ao L.length cap := ⟨new1 _ _ _ rfl⟩
    clear hA hV hU hq h3
    go_enter Tryz.func27, Tryz.ntmps27
    go_wp2_with fail
    generalize w.alloc (.cells #[.int .i64 r, .int .i64 c, .slice ao L.length cap] 27 (0, 0)) = W0 at hA0 hF0 ⊢
    have x0 : W0.cell? ⟨w.heap.size, 0, none⟩ = some (.int .i64 r) := cellOf (o := 0) hA0.o rfl
    have x1 : W0.cell? ⟨w.heap.size, 1, none⟩ = some (.int .i64 c) := cellOf (o := 1) hA0.o rfl
    have x2 : W0.cell? ⟨w.heap.size, 2, none⟩ = some (.slice ao L.length cap) := cellOf (o := 2) hA0.o rfl
    clear hA0
    go_quiet (fail)
    go_wp2_with fail
    go_ret
    exact ⟨rfl, hF0.drewN _⟩
  have hq1 : ¬ (4096 : Int) / c < r := fun h => h3 (hq.1 h)
  have hm0 : 0 ≤ r * c := Int.mul_nonneg (by omega) (by omega)
  have hm1 : r * c ≤ 4096 := by omega
  obtain ⟨m, hm⟩ : ∃ m, r * c = m := ⟨_, rfl⟩
  rw [hm] at hm0 hm1
  have hq2 : r ≤ (4096 : Int) / c := by omega
  clear hq1
  by_cases h4 : (L.length : Int) = m
  · have e1 : arrF ckV r c L = fstE ckV L := by simp [arrF, h1, h2, hm, h4]; intro hh; omega
    rw [e1]
    have hA0 : AAt (w.alloc (.cells #[.int .i64 r, .int .i64 c, .slice ao L.length cap] 27 (0, 0))) w.heap.size r c ao L.length cap := ⟨new1 _ _ _ rfl⟩
    have HA : Hid (VsAt w ao L) := hA
    have HV : Hid (∀ y ∈ L, Vok y) := hV
    have HU : Hid (∀ W, Fr noB w W → U8 W) := fun W h => hU.fr h
    clear hA hV hU hq h3 e1
    go_enter Tryz.func27, Tryz.ntmps27
    go_wp2_with fail
    generalize w.alloc (.cells #[.int .i64 r, .int .i64 c, .slice ao L.length cap] 27 (0, 0)) = W0 at hA0 hF0 ⊢
    have x0 : W0.cell? ⟨w.heap.size, 0, none⟩ = some (.int .i64 r) := cellOf (o := 0) hA0.o rfl
    have x1 : W0.cell? ⟨w.heap.size, 1, none⟩ = some (.int .i64 c) := cellOf (o := 1) hA0.o rfl
    have x2 : W0.cell? ⟨w.heap.size, 2, none⟩ = some (.slice ao L.length cap) := cellOf (o := 2) hA0.o rfl
    clear hA0
    go_quiet (fail)
    have h5 : ((L.length : Int) != m) = false := by simp [h4]
    go_wp2_with fail
    have HF1 : Hid (Fr noB w (W0.drewN nq)) := hF0.drewN _
    clear h5 x0 x1 x2
    go_loopw [35] (fun i wr => ∃ k : Nat, k ≤ L.length ∧ i = .int .i64 (k : Int) ∧ (∀ j (hj : j < L.length), j < k → ckV L[j] = 0) ∧ Fr noB w wr) (fun i _ => L.length - (intOf i).toNat)
    case atStart => exact ⟨0, Nat.zero_le _, rfl, fun j _ h => absurd h (Nat.not_lt_zero _), HF1.out⟩
    case round =>
      obtain ⟨k, hk, rfl, hall, hF⟩ := hrel
      have HL : Hid _ := hall
      clear hall
      by_cases hlt : k < L.length
      · obtain ⟨b, off, rfl, hb, c0, c1, c2, c3, c4⟩ := (HA.out.keep hF).get k hlt
        obtain ⟨v, hv⟩ : ∃ v, L[k] = v := ⟨_, rfl⟩
        have hVk : Vok v := by rw [← hv]; exact HV.out _ (List.getElem_mem hlt)
        have HX : Hid (∀ j (hj : j < L.length), j = k → ckV L[j] = ckV v) := fun j hj e => by subst e; rw [hv]
        rw [hv] at c0 c1 c2 c3 c4
        clear hv
        have HC := ckV_any v hVk (wr.alloc (.cells #[.int .i64 v.k, .float .f64 v.n, .string v.s, .bool v.y, .int .i64 v.e] 37 (0, 0))) (HU.out _ (hF.alloc _))
        have HF : Hid (Fr noB w wr) := hF
        obtain ⟨e0, he0⟩ : ∃ e0, ckV v = e0 := ⟨_, rfl⟩
        rw [he0] at HC HX
        clear he0 hVk
        obtain ⟨vk, vn, vs, vy, ve⟩ := v
        simp only at c0 c1 c2 c3 c4 HC
        clear hF
        by_cases hz : e0 = 0
        · subst hz
          go_wp2_with (go_at_call 42; refine HC.mono ?_; rintro e w1 ⟨rfl, hF1⟩)
          refine ⟨⟨k + 1, by omega, by go_num, fun j hj hjk => ?_, (HF.out.alloc _).trans hF1⟩, by simp [intOf]; omega⟩
          by_cases hjk2 : j = k
          · exact HX.out j hj hjk2
          · exact HL.out j hj (by omega)
        · have hz2 : (e0 != 0) = true := by simpa using hz
          have HR : Hid (fstE ckV L = e0) := by
            show fstE ckV L = e0
            rw [fstE_hit ckV L k hlt HL.out (by rw [HX.out k hlt rfl]; exact hz)]
            exact HX.out k hlt rfl
          go_wp2_with (go_at_call 42; refine HC.mono ?_; rintro e w1 ⟨rfl, hF1⟩)
          go_ret
          rw [HR.out]
          exact ⟨rfl, (HF.out.alloc _).trans hF1⟩
      · obtain rfl : k = L.length := by omega
        go_wp2_with fail
        go_ret
        rw [fstE_none ckV L (fun j hj => HL.out j hj hj)]
        exact ⟨rfl, hF⟩
  · have e1 : arrF ckV r c L = 1 := by
      simp only [arrF]
      rw [if_neg (by omega), if_neg (by omega), if_pos (by omega)]
    rw [e1]
    have hA0 : AAt (w.alloc (.cells #[.int .i64 r, .int .i64 c, .slice ao L.length cap] 27 (0, 0))) w.heap.size r c ao L.length cap := ⟨new1 _ _ _ rfl⟩
    clear hA hV hU hq h3 e1
    go_enter Tryz.func27, Tryz.ntmps27
    go_wp2_with fail
    generalize w.alloc (.cells #[.int .i64 r, .int .i64 c, .slice ao L.length cap] 27 (0, 0)) = W0 at hA0 hF0 ⊢
    have x0 : W0.cell? ⟨w.heap.size, 0, none⟩ = some (.int .i64 r) := cellOf (o := 0) hA0.o rfl
    have x1 : W0.cell? ⟨w.heap.size, 1, none⟩ = some (.int .i64 c) := cellOf (o := 1) hA0.o rfl
    have x2 : W0.cell? ⟨w.heap.size, 2, none⟩ = some (.slice ao L.length cap) := cellOf (o := 2) hA0.o rfl
    clear hA0
    go_quiet (fail)
    have h5 : ((L.length : Int) != m) = true := by simpa using h4
    go_wp2_with fail
    go_ret
    exact ⟨rfl, hF0.drewN _⟩
#print axioms pcheckA
end Go.Proofs.YtpjbobbmldplbaaGreatDoor
/- Which arguments may be: the program's laid. -/
namespace Go.Proofs.YtpjbobbmldplbaaGreatDoor
open Go.RowKit Ieee Go.Shelf
attribute [local go_sem] run_store_float

def laidB (ms : Bool) (r c : Int) (P : List Pl) : Bool :=
  if r < 1 ∨ 1048576 < r ∨ c < 1 ∨ 1024 < c then false else if ms = true ∧ (1 < r ∨ 1 < c ∨ 0 < P.length) then false else laidF r c 0 P
/-- An argument's cells in a block. -/
structure GAt (w : World) (B : Nat) (rf ms : Bool) (r c : Int) (ao : Option Addr) (n cap : Nat) : Prop where
  o : w.heap[B]? = some (.cells #[.bool rf, .bool ms, .int .i64 r, .int .i64 c, .slice ao n cap] 24 (0, 0))
theorem GAt.fr {S : Nat → Prop} {w w' : World} {B : Nat} {rf ms : Bool} {r c : Int} {ao : Option Addr} {n cap : Nat} (h : GAt w B rf ms r c ao n cap) (hF : Fr S w w') (hB : ¬ S B) : GAt w' B rf ms r c ao n cap := ⟨hF.obj h.o hB⟩
section
variable {w : World} {B : Nat} {rf ms : Bool} {r c : Int} {ao : Option Addr} {n cap : Nat} (h : GAt w B rf ms r c ao n cap)
include h
theorem GAt.c0 : w.cell? ⟨B, 0, none⟩ = some (.bool rf) := cellOf (o := 0) h.o rfl
theorem GAt.c1 : w.cell? ⟨B, 1, none⟩ = some (.bool ms) := cellOf (o := 1) h.o rfl
theorem GAt.c2 : w.cell? ⟨B, 2, none⟩ = some (.int .i64 r) := cellOf (o := 2) h.o rfl
theorem GAt.c3 : w.cell? ⟨B, 3, none⟩ = some (.int .i64 c) := cellOf (o := 3) h.o rfl
theorem GAt.c4 : w.cell? ⟨B, 4, none⟩ = some (.slice ao n cap) := cellOf (o := 4) h.o rfl
end
theorem laidF_bad {r c nx : Int} {P : List Pl} {k : Nat} (hk : k < P.length) (h : plOk r c P[k] = false) : laidF r c nx (P.drop k) = false := by
  rw [laidF_drop r c nx P k hk, h]
  rfl
theorem laidF_low {r c nx : Int} {P : List Pl} {k : Nat} (hk : k < P.length) (h : P[k].r * c + P[k].c < nx) : laidF r c nx (P.drop k) = false := by
  rw [laidF_drop r c nx P k hk, decide_eq_false (show ¬ nx ≤ P[k].r * c + P[k].c by omega), Bool.and_false, Bool.false_and]
theorem laidF_on {r c nx : Int} {P : List Pl} {k : Nat} (hk : k < P.length) (h : plOk r c P[k] = true) (h2 : nx ≤ P[k].r * c + P[k].c) : laidF r c nx (P.drop k) = laidF r c (P[k].r * c + P[k].c + 1) (P.drop (k + 1)) := by
  rw [laidF_drop r c nx P k hk, h, decide_eq_true h2]
  rfl
theorem place_range {r c a b : Int} (h1 : 0 ≤ a) (h2 : a < r) (h3 : 0 ≤ b) (h4 : b < c) (h5 : r ≤ 1048576) (h6 : c ≤ 1024) : 0 ≤ a * c ∧ a * c ≤ 1073741824 := by
  refine ⟨Int.mul_nonneg h1 (by omega), ?_⟩
  have k1 := Int.mul_le_mul_of_nonneg_right (show a ≤ 1048576 by omega) (show 0 ≤ c by omega)
  omega
set_option maxRecDepth 100000 in
set_option maxHeartbeats 4000000 in
theorem laid_false (rf : Bool) (r c : Int) (ao : Option Addr) (cap : Nat) (P : List Pl) (w : World) (hA : PsAt w ao P) (hl : P.length ≤ 140737488355328) (h1 : ¬ r < 1) (h2 : ¬ 1048576 < r) (h3 : ¬ c < 1) (h4 : ¬ 1024 < c) :
    Calls Tryz.prog 41 #[.agg #[.bool rf, .bool false, .int .i64 r, .int .i64 c, .slice ao P.length cap]] w fun e w' => e = .returned (.bool (laidF r c 0 P)) ∧ Fr noB w w' := by
  have hA0 : GAt (w.alloc (.cells #[.bool rf, .bool false, .int .i64 r, .int .i64 c, .slice ao P.length cap] 24 (0, 0))) w.heap.size rf false r c ao P.length cap := ⟨new1 _ _ _ rfl⟩
  have HA : Hid (PsAt w ao P) := hA
  have HB : Hid (∀ W, Fr noB (w.alloc (.cells #[.bool rf, .bool false, .int .i64 r, .int .i64 c, .slice ao P.length cap] 24 (0, 0))) W → GAt W w.heap.size rf false r c ao P.length cap) := fun W h => hA0.fr h id
  have HF0 : Hid (Fr noB w (w.alloc (.cells #[.bool rf, .bool false, .int .i64 r, .int .i64 c, .slice ao P.length cap] 24 (0, 0)))) := (Fr.refl noB w).alloc _
  clear hA hA0
  obtain ⟨n, hn⟩ : ∃ n, P.length = n := ⟨_, rfl⟩
  have HN : Hid (P.length = n) := hn
  rw [hn] at hl HB HF0 ⊢
  clear hn
  go_enter Tryz.func41, Tryz.ntmps41
  go_wp2_with fail
  generalize w.alloc (.cells #[.bool rf, .bool false, .int .i64 r, .int .i64 c, .slice ao n cap] 24 (0, 0)) = W0 at HB HF0 ⊢
  go_loopg [3, 46] n (fun gh nv iv wr => ∃ (k : Nat) (nx : Int), k ≤ n ∧ gh = n - k ∧ nv = .int .i64 nx ∧ iv = .int .i64 (k : Int) ∧ Hid (laidF r c 0 P = laidF r c nx (P.drop k)) ∧ 0 ≤ nx ∧ nx ≤ 1073750000 ∧ Fr noB W0 wr)
  case atStart => exact ⟨0, 0, Nat.zero_le _, rfl, rfl, rfl, rfl, by decide, by decide, Fr.refl _ _⟩
  case round =>
    obtain ⟨k, nx, hk, rfl, rfl, rfl, HL, hn0, hn1, hF⟩ := hrel
    by_cases hlt : k < n
    · obtain ⟨b, off, rfl, hb, c0, c1, c2, c3, c4, c5, c6⟩ := (HA.out.keep (HF0.out.trans hF)).get k (by rw [HN.out]; exact hlt)
      obtain ⟨p, hp⟩ : ∃ p, P[k]'(by rw [HN.out]; exact hlt) = p := ⟨_, rfl⟩
      have HP : Hid (∃ h : k < P.length, P[k] = p) := ⟨by rw [HN.out]; exact hlt, hp⟩
      rw [hp] at c0 c1 c2 c3 c4 c5 c6
      clear hp
      obtain ⟨pr, pc, ⟨vk, vn, vs, vy, ve⟩⟩ := p
      simp only at c0 c1 c2 c3 c4 c5 c6
      have HF : Hid (Fr noB W0 wr) := hF
      have HBad : Hid (plOk r c ⟨pr, pc, ⟨vk, vn, vs, vy, ve⟩⟩ = false → laidF r c 0 P = false) := fun h => by
        obtain ⟨h1, h2⟩ := HP.out
        rw [HL.out]
        exact laidF_bad h1 (by rw [h2]; exact h)
      have z1 : (wr.alloc (.cells #[.int .i64 pr, .int .i64 pc, .int .i64 vk, .float .f64 vn, .string vs, .bool vy, .int .i64 ve] 48 (0, 0))).cell? ⟨w.heap.size, 2, none⟩ = some (.int .i64 r) := (HB.out _ (hF.alloc _)).c2
      have z2 : (wr.alloc (.cells #[.int .i64 pr, .int .i64 pc, .int .i64 vk, .float .f64 vn, .string vs, .bool vy, .int .i64 ve] 48 (0, 0))).cell? ⟨w.heap.size, 3, none⟩ = some (.int .i64 c) := (HB.out _ (hF.alloc _)).c3
      clear hF
      by_cases q1 : pr < 0
      · have E1 : Hid (laidF r c 0 P = false) := HBad.out (by simp only [plOk, decide_eq_false_iff_not]; omega)
        skip
        go_wp2_with fail
        go_ret
        rw [E1.out]
        exact ⟨rfl, HF0.out.trans (HF.out.alloc _)⟩
      by_cases q2 : r ≤ pr
      · have E1 : Hid (laidF r c 0 P = false) := HBad.out (by simp only [plOk, decide_eq_false_iff_not]; omega)
        skip
        go_wp2_with fail
        go_ret
        rw [E1.out]
        exact ⟨rfl, HF0.out.trans (HF.out.alloc _)⟩
      by_cases q3 : pc < 0
      · have E1 : Hid (laidF r c 0 P = false) := HBad.out (by simp only [plOk, decide_eq_false_iff_not]; omega)
        skip
        go_wp2_with fail
        go_ret
        rw [E1.out]
        exact ⟨rfl, HF0.out.trans (HF.out.alloc _)⟩
      by_cases q4 : c ≤ pc
      · have E1 : Hid (laidF r c 0 P = false) := HBad.out (by simp only [plOk, decide_eq_false_iff_not]; omega)
        skip
        go_wp2_with fail
        go_ret
        rw [E1.out]
        exact ⟨rfl, HF0.out.trans (HF.out.alloc _)⟩
      by_cases q5 : vk = 0
      · have E1 : Hid (laidF r c 0 P = false) := HBad.out (by simp only [plOk, decide_eq_false_iff_not]; omega)
        subst q5
        go_wp2_with fail
        go_ret
        rw [E1.out]
        exact ⟨rfl, HF0.out.trans (HF.out.alloc _)⟩
      have hok : plOk r c ⟨pr, pc, ⟨vk, vn, vs, vy, ve⟩⟩ = true := by simp only [plOk, decide_eq_true_eq]; omega
      have q5b : (vk == 0) = false := by simp [q5]
      obtain ⟨g1, g2⟩ := place_range (show 0 ≤ pr by omega) (show pr < r by omega) (show 0 ≤ pc by omega) (show pc < c by omega) (show r ≤ 1048576 by omega) (show c ≤ 1024 by omega)
      have HOn : Hid (nx ≤ pr * c + pc → laidF r c 0 P = laidF r c (pr * c + pc + 1) (P.drop (k + 1))) := fun h => by
        obtain ⟨h1, h2⟩ := HP.out
        rw [HL.out, laidF_on h1 (by rw [h2]; exact hok) (by rw [h2]; exact h), h2]
      have HLow : Hid (pr * c + pc < nx → laidF r c 0 P = false) := fun h => by
        obtain ⟨h1, h2⟩ := HP.out
        rw [HL.out]
        exact laidF_low h1 (by rw [h2]; exact h)
      obtain ⟨mm, hmm⟩ : ∃ mm, pr * c = mm := ⟨_, rfl⟩
      have HO2 : Hid (nx ≤ mm + pc → laidF r c 0 P = laidF r c (mm + pc + 1) (P.drop (k + 1))) := by rw [← hmm]; exact HOn.out
      have HL2 : Hid (mm + pc < nx → laidF r c 0 P = false) := by rw [← hmm]; exact HLow.out
      rw [hmm] at g1 g2
      clear hok HOn HLow
      by_cases q6 : mm + pc < nx
      · have E1 : Hid (laidF r c 0 P = false) := HL2.out q6
        go_wp2_with fail
        go_ret
        rw [E1.out]
        exact ⟨rfl, HF0.out.trans (HF.out.alloc _)⟩
      · have E1 : Hid (laidF r c 0 P = laidF r c (mm + pc + 1) (P.drop (k + 1))) := HO2.out (by omega)
        go_wp2_with fail
        go_roundg (n - (k + 1))
        case measure => omega
        case rel => exact ⟨k + 1, mm + pc + 1, by omega, rfl, by go_num, by go_num, E1, by omega, by omega, HF.out.alloc _⟩
    · obtain rfl : k = n := by omega
      go_wp2_with fail
      go_ret
      have he : laidF r c 0 P = true := by rw [HL.out, ← HN.out, List.drop_length]; rfl
      rw [he]
      exact ⟨rfl, HF0.out.trans hF⟩
set_option maxRecDepth 100000 in
set_option maxHeartbeats 4000000 in
theorem laid_true (rf : Bool) (r c : Int) (ao : Option Addr) (cap : Nat) (P : List Pl) (w : World) (hA : PsAt w ao P) (hl : P.length ≤ 140737488355328) (h1 : ¬ r < 1) (h2 : ¬ 1048576 < r) (h3 : ¬ c < 1) (h4 : ¬ 1024 < c) (m1 : ¬ 1 < r) (m2 : ¬ 1 < c) (m3 : ¬ 0 < P.length) :
    Calls Tryz.prog 41 #[.agg #[.bool rf, .bool true, .int .i64 r, .int .i64 c, .slice ao P.length cap]] w fun e w' => e = .returned (.bool (laidF r c 0 P)) ∧ Fr noB w w' := by
  have hA0 : GAt (w.alloc (.cells #[.bool rf, .bool true, .int .i64 r, .int .i64 c, .slice ao P.length cap] 24 (0, 0))) w.heap.size rf true r c ao P.length cap := ⟨new1 _ _ _ rfl⟩
  have HA : Hid (PsAt w ao P) := hA
  have HB : Hid (∀ W, Fr noB (w.alloc (.cells #[.bool rf, .bool true, .int .i64 r, .int .i64 c, .slice ao P.length cap] 24 (0, 0))) W → GAt W w.heap.size rf true r c ao P.length cap) := fun W h => hA0.fr h id
  have HF0 : Hid (Fr noB w (w.alloc (.cells #[.bool rf, .bool true, .int .i64 r, .int .i64 c, .slice ao P.length cap] 24 (0, 0)))) := (Fr.refl noB w).alloc _
  clear hA hA0
  obtain ⟨n, hn⟩ : ∃ n, P.length = n := ⟨_, rfl⟩
  have HN : Hid (P.length = n) := hn
  rw [hn] at hl HB HF0 m3 ⊢
  clear hn
  have m4 : ¬ 0 < (n : Int) := by omega
  go_enter Tryz.func41, Tryz.ntmps41
  go_wp2_with fail
  generalize w.alloc (.cells #[.bool rf, .bool true, .int .i64 r, .int .i64 c, .slice ao n cap] 24 (0, 0)) = W0 at HB HF0 ⊢
  go_loopg [3, 46] n (fun gh nv iv wr => ∃ (k : Nat) (nx : Int), k ≤ n ∧ gh = n - k ∧ nv = .int .i64 nx ∧ iv = .int .i64 (k : Int) ∧ Hid (laidF r c 0 P = laidF r c nx (P.drop k)) ∧ 0 ≤ nx ∧ nx ≤ 1073750000 ∧ Fr noB W0 wr)
  case atStart => exact ⟨0, 0, Nat.zero_le _, rfl, rfl, rfl, rfl, by decide, by decide, Fr.refl _ _⟩
  case round =>
    obtain ⟨k, nx, hk, rfl, rfl, rfl, HL, hn0, hn1, hF⟩ := hrel
    by_cases hlt : k < n
    · exfalso; omega
    · obtain rfl : k = n := by omega
      go_wp2_with fail
      go_ret
      have he : laidF r c 0 P = true := by rw [HL.out, ← HN.out, List.drop_length]; rfl
      rw [he]
      exact ⟨rfl, HF0.out.trans hF⟩
set_option maxRecDepth 100000 in
set_option maxHeartbeats 4000000 in
theorem laid_any (rf ms : Bool) (r c : Int) (ao : Option Addr) (cap : Nat) (P : List Pl) (w : World) (hA : PsAt w ao P) (hl : P.length ≤ 140737488355328) :
    Calls Tryz.prog 41 #[.agg #[.bool rf, .bool ms, .int .i64 r, .int .i64 c, .slice ao P.length cap]] w fun e w' => e = .returned (.bool (laidB ms r c P)) ∧ Fr noB w w' := by
  have hF0 : Fr noB w (w.alloc (.cells #[.bool rf, .bool ms, .int .i64 r, .int .i64 c, .slice ao P.length cap] 24 (0, 0))) := (Fr.refl noB w).alloc _
  by_cases h1 : r < 1
  · have e1 : laidB ms r c P = false := by simp [laidB, h1]
    rw [e1]
    clear hA
    go_enter Tryz.func41, Tryz.ntmps41
    go_wp2_with fail
    go_ret
    exact ⟨rfl, hF0⟩
  by_cases h2 : 1048576 < r
  · have e1 : laidB ms r c P = false := by simp [laidB, h2]
    rw [e1]
    clear hA
    go_enter Tryz.func41, Tryz.ntmps41
    go_wp2_with fail
    go_ret
    exact ⟨rfl, hF0⟩
  by_cases h3 : c < 1
  · have e1 : laidB ms r c P = false := by simp [laidB, h3]
    rw [e1]
    clear hA
    go_enter Tryz.func41, Tryz.ntmps41
    go_wp2_with fail
    go_ret
    exact ⟨rfl, hF0⟩
  by_cases h4 : 1024 < c
  · have e1 : laidB ms r c P = false := by simp [laidB, h4]
    rw [e1]
    clear hA
    go_enter Tryz.func41, Tryz.ntmps41
    go_wp2_with fail
    go_ret
    exact ⟨rfl, hF0⟩
  have hrc : ¬ (r < 1 ∨ 1048576 < r ∨ c < 1 ∨ 1024 < c) := by omega
  cases ms with
  | false =>
    have e1 : laidB false r c P = laidF r c 0 P := by simp only [laidB]; rw [if_neg hrc, if_neg (by simp)]
    rw [e1]
    exact laid_false rf r c ao cap P w hA hl h1 h2 h3 h4
  | true =>
    by_cases m1 : 1 < r
    · have e1 : laidB true r c P = false := by simp only [laidB]; rw [if_neg hrc, if_pos ⟨trivial, by omega⟩]
      rw [e1]
      skip
      clear hA
      go_enter Tryz.func41, Tryz.ntmps41
      go_wp2_with fail
      go_ret
      exact ⟨rfl, hF0⟩
    by_cases m2 : 1 < c
    · have e1 : laidB true r c P = false := by simp only [laidB]; rw [if_neg hrc, if_pos ⟨trivial, by omega⟩]
      rw [e1]
      skip
      clear hA
      go_enter Tryz.func41, Tryz.ntmps41
      go_wp2_with fail
      go_ret
      exact ⟨rfl, hF0⟩
    by_cases m3 : 0 < P.length
    · have e1 : laidB true r c P = false := by simp only [laidB]; rw [if_neg hrc, if_pos ⟨trivial, by omega⟩]
      rw [e1]
      have m5 : 0 < (P.length : Int) := by omega
      clear hA
      go_enter Tryz.func41, Tryz.ntmps41
      go_wp2_with fail
      go_ret
      exact ⟨rfl, hF0⟩
    have e1 : laidB true r c P = laidF r c 0 P := by simp only [laidB]; rw [if_neg hrc, if_neg (by omega)]
    rw [e1]
    exact laid_true rf r c ao cap P w hA hl h1 h2 h3 h4 m1 m2 m3
#print axioms laid_any
end Go.Proofs.YtpjbobbmldplbaaGreatDoor
/- Which arrays may be: the document's Check. -/
namespace Go.Proofs.YtpjbobbmldplbaaGreatDoor
open Go.RowKit Ieee Go.Shelf
attribute [local go_sem] run_store_float

theorem rckV_any (v : Vv) (h : Vok v) (w : World) (hU : U8 w) : Calls Tryz.prog 44 #[(.agg #[.int .i64 v.k, .float .f64 v.n, .string v.s, .bool v.y, .int .i64 v.e])] w fun e w' => e = .returned (.int .i64 (ckV v)) ∧ Fr noB w w' :=
  rcheck_any v.k v.n h.1 v.s v.y v.e w h.2 hU
set_option maxRecDepth 100000 in
set_option maxHeartbeats 2000000 in
theorem rcheckA (r c : Int) (ao : Option Addr) (cap : Nat) (L : List Vv) (w : World) (hA : VsAt w ao L) (hV : ∀ y ∈ L, Vok y) (hU : U8 w) :
    Calls Tryz.prog 29 #[.agg #[.int .i64 r, .int .i64 c, .slice ao L.length cap]] w fun e w' => e = .returned (.int .i64 (arrF ckV r c L)) ∧ Fr noB w w' := by
  have hF0 : Fr noB w (w.alloc (.cells #[.int .i64 r, .int .i64 c, .slice ao L.length cap] 27 (0, 0))) := (Fr.refl noB w).alloc _
  by_cases h1 : r < 1
  · have e1 : arrF ckV r c L = 1 := by simp [arrF, h1]
    rw [e1]
    clear hA hV hU
    go_enter Tryz.func29, Tryz.ntmps29
    go_wp2_with fail
    go_ret
    exact ⟨rfl, hF0⟩
  by_cases h2 : c < 1
  · have e1 : arrF ckV r c L = 1 := by simp [arrF, h2]
    rw [e1]
    clear hA hV hU
    go_enter Tryz.func29, Tryz.ntmps29
    go_wp2_with fail
    go_ret
    exact ⟨rfl, hF0⟩
  have hq := @quo_lt c r (by omega)
  have hc0 : ¬ r = 0 := by omega
  have hcm : c * r = r * c := Int.mul_comm c r
  by_cases h6 : 4096 < r
  · have h3 : 4096 < r * c := by
      have := Int.mul_le_mul_of_nonneg_left (show 1 ≤ c by omega) (show 0 ≤ r by omega)
      omega
    have e1 : arrF ckV r c L = 3 := by simp [arrF, h1, h2, h3]
    rw [e1]
    have g1 : decide (4096 < r) = true := by simpa using h6
    have hA0 : AAt (w.alloc (.cells #[.int .i64 r, .int .i64 c, .slice ao L.length cap] 27 (0, 0))) w.heap.size r c ao L.length cap := ⟨new1 _ _ _ rfl⟩
    clear hA hV hU hq h3 hcm
    go_enter Tryz.func29, Tryz.ntmps29
    go_wp2_with fail
    generalize w.alloc (.cells #[.int .i64 r, .int .i64 c, .slice ao L.length cap] 27 (0, 0)) = W0 at hA0 hF0 ⊢
    have x0 : W0.cell? ⟨w.heap.size, 0, none⟩ = some (.int .i64 r) := cellOf (o := 0) hA0.o rfl
    have x1 : W0.cell? ⟨w.heap.size, 1, none⟩ = some (.int .i64 c) := cellOf (o := 1) hA0.o rfl
    have x2 : W0.cell? ⟨w.heap.size, 2, none⟩ = some (.slice ao L.length cap) := cellOf (o := 2) hA0.o rfl
    clear hA0
    go_quiet (fail)
    go_wp2_with fail
    go_ret
    exact ⟨rfl, hF0.drewN _⟩
  have g1 : decide (4096 < r) = false := by simpa using h6
  by_cases h3 : 4096 < r * c
  · have e1 : arrF ckV r c L = 3 := by simp [arrF, h1, h2, h3]
    rw [e1]
    have hq1 : (4096 : Int) / r < c := hq.2 (by omega)
    have hA0 : AAt (w.alloc (.cells #[.int .i64 r, .int .i64 c, .slice ao L.length cap] 27 (0, 0))) w.heap.size r c ao L.length cap := ⟨new1 _ _ _ rfl⟩
    clear hA hV hU hq h3 hcm
    go_enter Tryz.func29, Tryz.ntmps29
    go_wp2_with fail
    generalize w.alloc (.cells #[.int .i64 r, .int .i64 c, .slice ao L.length cap] 27 (0, 0)) = W0 at hA0 hF0 ⊢
    have x0 : W0.cell? ⟨w.heap.size, 0, none⟩ = some (.int .i64 r) := cellOf (o := 0) hA0.o rfl
    have x1 : W0.cell? ⟨w.heap.size, 1, none⟩ = some (.int .i64 c) := cellOf (o := 1) hA0.o rfl
    have x2 : W0.cell? ⟨w.heap.size, 2, none⟩ = some (.slice ao L.length cap) := cellOf (o := 2) hA0.o rfl
    clear hA0
    go_quiet (fail)
    go_wp2_with fail
    go_ret
    exact ⟨rfl, hF0.drewN _⟩
  have hq1 : ¬ (4096 : Int) / r < c := fun h => h3 (by have := hq.1 h; omega)
  have hm0 : 0 ≤ r * c := Int.mul_nonneg (by omega) (by omega)
  have hm1 : r * c ≤ 4096 := by omega
  obtain ⟨m, hm⟩ : ∃ m, r * c = m := ⟨_, rfl⟩
  rw [hm] at hm0 hm1
  have hq2 : c ≤ (4096 : Int) / r := by omega
  clear hq1 hcm
  by_cases h4 : (L.length : Int) = m
  · have e1 : arrF ckV r c L = fstE ckV L := by simp [arrF, h1, h2, hm, h4]; intro hh; omega
    rw [e1]
    have hA0 : AAt (w.alloc (.cells #[.int .i64 r, .int .i64 c, .slice ao L.length cap] 27 (0, 0))) w.heap.size r c ao L.length cap := ⟨new1 _ _ _ rfl⟩
    have HA : Hid (VsAt w ao L) := hA
    have HV : Hid (∀ y ∈ L, Vok y) := hV
    have HU : Hid (∀ W, Fr noB w W → U8 W) := fun W h => hU.fr h
    clear hA hV hU hq h3 e1
    go_enter Tryz.func29, Tryz.ntmps29
    go_wp2_with fail
    generalize w.alloc (.cells #[.int .i64 r, .int .i64 c, .slice ao L.length cap] 27 (0, 0)) = W0 at hA0 hF0 ⊢
    have x0 : W0.cell? ⟨w.heap.size, 0, none⟩ = some (.int .i64 r) := cellOf (o := 0) hA0.o rfl
    have x1 : W0.cell? ⟨w.heap.size, 1, none⟩ = some (.int .i64 c) := cellOf (o := 1) hA0.o rfl
    have x2 : W0.cell? ⟨w.heap.size, 2, none⟩ = some (.slice ao L.length cap) := cellOf (o := 2) hA0.o rfl
    go_quiet (fail)
    have h5 : ((L.length : Int) != m) = false := by simp [h4]
    go_wp2_with fail
    have HF1 : Hid (Fr noB w (W0.drewN nq)) := hF0.drewN _
    have HB : Hid (∀ W, Fr noB (W0.drewN nq) W → W.cell? ⟨w.heap.size, 2, none⟩ = some (.slice ao L.length cap)) := fun W h => cellOf (o := 2) ((hA0.fr ((Fr.refl noB W0).drewN nq) id).fr h id).o rfl
    clear h5 x0 x1 x2 hA0
    go_loopw [3] (fun i wr => ∃ k : Nat, k ≤ L.length ∧ i = .int .i64 (k : Int) ∧ (∀ j (hj : j < L.length), j < k → ckV L[j] = 0) ∧ Fr noB (W0.drewN nq) wr) (fun i _ => L.length - (intOf i).toNat)
    case atStart => exact ⟨0, Nat.zero_le _, rfl, fun j _ h => absurd h (Nat.not_lt_zero _), Fr.refl _ _⟩
    case round =>
      obtain ⟨k, hk, rfl, hall, hF⟩ := hrel
      have HL : Hid _ := hall
      have y2 := HB.out _ hF
      clear hall
      by_cases hlt : k < L.length
      · obtain ⟨b, off, rfl, hb, c0, c1, c2, c3, c4⟩ := (HA.out.keep (HF1.out.trans hF)).get k hlt
        obtain ⟨v, hv⟩ : ∃ v, L[k] = v := ⟨_, rfl⟩
        have hVk : Vok v := by rw [← hv]; exact HV.out _ (List.getElem_mem hlt)
        have HX : Hid (∀ j (hj : j < L.length), j = k → ckV L[j] = ckV v) := fun j hj e => by subst e; rw [hv]
        rw [hv] at c0 c1 c2 c3 c4
        clear hv
        have HC := rckV_any v hVk wr (HU.out _ (HF1.out.trans hF))
        have HF : Hid (Fr noB (W0.drewN nq) wr) := hF
        obtain ⟨e0, he0⟩ : ∃ e0, ckV v = e0 := ⟨_, rfl⟩
        rw [he0] at HC HX
        clear he0 hVk
        obtain ⟨vk, vn, vs, vy, ve⟩ := v
        simp only at c0 c1 c2 c3 c4 HC
        clear hF hF0
        by_cases hz : e0 = 0
        · subst hz
          go_wp2_with (go_at_call 44; refine HC.mono ?_; rintro e w1 ⟨rfl, hF1⟩)
          refine ⟨⟨k + 1, by omega, by go_num, fun j hj hjk => ?_, HF.out.trans hF1⟩, by simp [intOf]; omega⟩
          by_cases hjk2 : j = k
          · exact HX.out j hj hjk2
          · exact HL.out j hj (by omega)
        · have hz2 : (e0 != 0) = true := by simpa using hz
          have HR : Hid (fstE ckV L = e0) := by
            show fstE ckV L = e0
            rw [fstE_hit ckV L k hlt HL.out (by rw [HX.out k hlt rfl]; exact hz)]
            exact HX.out k hlt rfl
          go_wp2_with (go_at_call 44; refine HC.mono ?_; rintro e w1 ⟨rfl, hF1⟩)
          go_ret
          rw [HR.out]
          exact ⟨rfl, HF1.out.trans (HF.out.trans hF1)⟩
      · obtain rfl : k = L.length := by omega
        go_wp2_with fail
        go_ret
        rw [fstE_none ckV L (fun j hj => HL.out j hj hj)]
        exact ⟨rfl, HF1.out.trans hF⟩
  · have e1 : arrF ckV r c L = 1 := by
      simp only [arrF]
      rw [if_neg (by omega), if_neg (by omega), if_pos (by omega)]
    rw [e1]
    have hA0 : AAt (w.alloc (.cells #[.int .i64 r, .int .i64 c, .slice ao L.length cap] 27 (0, 0))) w.heap.size r c ao L.length cap := ⟨new1 _ _ _ rfl⟩
    clear hA hV hU hq h3 e1
    go_enter Tryz.func29, Tryz.ntmps29
    go_wp2_with fail
    generalize w.alloc (.cells #[.int .i64 r, .int .i64 c, .slice ao L.length cap] 27 (0, 0)) = W0 at hA0 hF0 ⊢
    have x0 : W0.cell? ⟨w.heap.size, 0, none⟩ = some (.int .i64 r) := cellOf (o := 0) hA0.o rfl
    have x1 : W0.cell? ⟨w.heap.size, 1, none⟩ = some (.int .i64 c) := cellOf (o := 1) hA0.o rfl
    have x2 : W0.cell? ⟨w.heap.size, 2, none⟩ = some (.slice ao L.length cap) := cellOf (o := 2) hA0.o rfl
    clear hA0
    go_quiet (fail)
    have h5 : ((L.length : Int) != m) = true := by simpa using h4
    go_wp2_with fail
    go_ret
    exact ⟨rfl, hF0.drewN _⟩
#print axioms rcheckA
end Go.Proofs.YtpjbobbmldplbaaGreatDoor
/- Which arguments may be: the document's CheckArg. -/
namespace Go.Proofs.YtpjbobbmldplbaaGreatDoor
open Go.RowKit Ieee Go.Shelf Go.BigFrame
attribute [local go_sem] run_store_float

theorem argF_eq (f : Vv → Int) (m : Bool) (r c : Int) (P : List Pl) : argF f m r c P = if laidB m r c P = false then 1 else fstE (fun p => f p.v) P := by
  unfold argF laidB
  by_cases h1 : r < 1 ∨ 1048576 < r ∨ c < 1 ∨ 1024 < c
  · rw [if_pos h1, if_pos h1, if_pos rfl]
  · rw [if_neg h1, if_neg h1]
    by_cases h2 : m = true ∧ (1 < r ∨ 1 < c ∨ 0 < P.length)
    · rw [if_pos h2, if_pos h2, if_pos rfl]
    · rw [if_neg h2, if_neg h2]
def cvP (p : Pl) : Int := ckV p.v
/-- What is known ahead of the k-th place: the number from which on places may be told. -/
def Ahead (r c : Int) (P : List Pl) (k : Nat) (nx : Int) : Prop := laidF r c 0 P = laidF r c nx (P.drop k) ∧ ((k = 0 ∧ nx = 0) ∨ ∃ j, ∃ h : j < P.length, k = j + 1 ∧ nx = P[j].r * c + P[j].c + 1 ∧ plOk r c P[j] = true)
set_option maxRecDepth 100000 in
set_option maxHeartbeats 8000000 in
theorem rarg_false (rf : Bool) (r c : Int) (ao : Option Addr) (cap : Nat) (P : List Pl) (w : World) (hA : PsAt w ao P) (hl : P.length ≤ 140737488355328) (hV : ∀ p ∈ P, Vok p.v) (hU : U8 w) (h1 : ¬ r < 1) (h2 : ¬ 1048576 < r) (h3 : ¬ c < 1) (h4 : ¬ 1024 < c) :
    Calls Tryz.prog 21 #[.agg #[.bool rf, .bool false, .int .i64 r, .int .i64 c, .slice ao P.length cap]] w fun e w' => e = .returned (.int .i64 (if laidF r c 0 P = false then 1 else fstE cvP P)) ∧ Fr noB w w' := by
  obtain ⟨V, hVV⟩ : ∃ V : Int, (if laidF r c 0 P = false then 1 else fstE cvP P) = V := ⟨_, rfl⟩
  rw [hVV]
  have HVb : Hid (laidF r c 0 P = false → V = 1) := fun h => by rw [← hVV, if_pos h]
  have HVg : Hid (laidF r c 0 P = true → V = fstE cvP P) := fun h => by rw [← hVV, if_neg (by rw [h]; decide)]
  clear hVV
  have hA0 : GAt (w.alloc (.cells #[.bool rf, .bool false, .int .i64 r, .int .i64 c, .slice ao P.length cap] 24 (0, 0))) w.heap.size rf false r c ao P.length cap := ⟨new1 _ _ _ rfl⟩
  have HA : Hid (PsAt w ao P) := hA
  have HV : Hid (∀ p ∈ P, Vok p.v) := hV
  have HU : Hid (∀ W, Fr noB w W → U8 W) := fun W h => hU.fr h
  have HB : Hid (∀ W, Fr noB (w.alloc (.cells #[.bool rf, .bool false, .int .i64 r, .int .i64 c, .slice ao P.length cap] 24 (0, 0))) W → GAt W w.heap.size rf false r c ao P.length cap) := fun W h => hA0.fr h id
  have HF0 : Hid (Fr noB w (w.alloc (.cells #[.bool rf, .bool false, .int .i64 r, .int .i64 c, .slice ao P.length cap] 24 (0, 0)))) := (Fr.refl noB w).alloc _
  clear hA hA0 hV hU
  obtain ⟨n, hn⟩ : ∃ n, P.length = n := ⟨_, rfl⟩
  have HN : Hid (P.length = n) := hn
  rw [hn] at hl HB HF0 ⊢
  clear hn
  go_enter Tryz.func21, Tryz.ntmps21
  go_wp2_with fail
  generalize w.alloc (.cells #[.bool rf, .bool false, .int .i64 r, .int .i64 c, .slice ao n cap] 24 (0, 0)) = W0 at HB HF0 ⊢
  go_loopg [3] n (fun gh iv wr => ∃ (k : Nat) (nx : Int), k ≤ n ∧ gh = n - k ∧ iv = .int .i64 (k : Int) ∧ Hid (Ahead r c P k nx) ∧ Fr noB W0 wr)
  case atStart => exact ⟨0, 0, Nat.zero_le _, rfl, rfl, ⟨rfl, Or.inl ⟨rfl, rfl⟩⟩, Fr.refl _ _⟩
  case round =>
    obtain ⟨k, nx, hk, rfl, rfl, HL, hF⟩ := hrel
    have y4 := (HB.out _ hF).c4
    by_cases hlt : k < n
    · have i1 : (k : Int) < (n : Int) := by omega
      have i2 : (0 : Int) ≤ (k : Int) := by omega
      have hkP : k < P.length := by rw [HN.out]; exact hlt
      obtain ⟨b, off, rfl, hb, c0, c1, c2, c3, c4, c5, c6⟩ := (HA.out.keep (HF0.out.trans hF)).get k hkP
      obtain ⟨p, hp⟩ : ∃ p, P[k] = p := ⟨_, rfl⟩
      have HP : Hid (∃ h : k < P.length, P[k] = p) := ⟨hkP, hp⟩
      rw [hp] at c0 c1 c2 c3 c4 c5 c6
      clear hp hkP
      obtain ⟨pr, pc, ⟨vk, vn, vs, vy, ve⟩⟩ := p
      simp only at c0 c1 c2 c3 c4 c5 c6
      have HF : Hid (Fr noB W0 wr) := hF
      have HG : Hid (∀ W, Fr noB (wr.alloc (.cells #[.int .i64 pr, .int .i64 pc, .int .i64 vk, .float .f64 vn, .string vs, .bool vy, .int .i64 ve] 48 (0, 0))) W → GAt W w.heap.size rf false r c (some ⟨b, off, none⟩) n cap) := fun W h => HB.out W ((hF.alloc _).trans h)
      have HBad : Hid (plOk r c ⟨pr, pc, ⟨vk, vn, vs, vy, ve⟩⟩ = false → laidF r c 0 P = false) := fun h => by
        obtain ⟨h1, h2⟩ := HP.out
        rw [HL.out.1]
        exact laidF_bad h1 (by rw [h2]; exact h)
      have z1 : (wr.alloc (.cells #[.int .i64 pr, .int .i64 pc, .int .i64 vk, .float .f64 vn, .string vs, .bool vy, .int .i64 ve] 48 (0, 0))).cell? ⟨w.heap.size, 2, none⟩ = some (.int .i64 r) := (HB.out _ (hF.alloc _)).c2
      have z2 : (wr.alloc (.cells #[.int .i64 pr, .int .i64 pc, .int .i64 vk, .float .f64 vn, .string vs, .bool vy, .int .i64 ve] 48 (0, 0))).cell? ⟨w.heap.size, 3, none⟩ = some (.int .i64 c) := (HB.out _ (hF.alloc _)).c3
      clear hF
      by_cases q1 : pr < 0
      · have E1 : Hid (laidF r c 0 P = false) := HBad.out (by simp only [plOk, decide_eq_false_iff_not]; omega)
        go_wp2_with fail
        go_ret
        rw [HVb.out E1.out]
        exact ⟨rfl, HF0.out.trans (HF.out.alloc _)⟩
      by_cases q2 : r ≤ pr
      · have E1 : Hid (laidF r c 0 P = false) := HBad.out (by simp only [plOk, decide_eq_false_iff_not]; omega)
        go_wp2_with fail
        go_ret
        rw [HVb.out E1.out]
        exact ⟨rfl, HF0.out.trans (HF.out.alloc _)⟩
      by_cases q3 : pc < 0
      · have E1 : Hid (laidF r c 0 P = false) := HBad.out (by simp only [plOk, decide_eq_false_iff_not]; omega)
        go_wp2_with fail
        go_ret
        rw [HVb.out E1.out]
        exact ⟨rfl, HF0.out.trans (HF.out.alloc _)⟩
      by_cases q4 : c ≤ pc
      · have E1 : Hid (laidF r c 0 P = false) := HBad.out (by simp only [plOk, decide_eq_false_iff_not]; omega)
        go_wp2_with fail
        go_ret
        rw [HVb.out E1.out]
        exact ⟨rfl, HF0.out.trans (HF.out.alloc _)⟩
      have HOn : Hid (vk ≠ 0 → nx ≤ pr * c + pc → Ahead r c P (k + 1) (pr * c + pc + 1)) := fun hv h => by
        obtain ⟨h1, h2⟩ := HP.out
        have hok : plOk r c P[k] = true := by rw [h2]; simp only [plOk, decide_eq_true_eq]; omega
        refine ⟨?_, Or.inr ⟨k, h1, rfl, by rw [h2], hok⟩⟩
        rw [HL.out.1, laidF_on h1 hok (by rw [h2]; exact h), h2]
      have HLow : Hid (pr * c + pc < nx → laidF r c 0 P = false) := fun h => by
        obtain ⟨h1, h2⟩ := HP.out
        rw [HL.out.1]
        exact laidF_low h1 (by rw [h2]; exact h)
      have HW1 : Hid (Fr noB w (wr.alloc (.cells #[.int .i64 pr, .int .i64 pc, .int .i64 vk, .float .f64 vn, .string vs, .bool vy, .int .i64 ve] 48 (0, 0)))) := HF0.out.trans (HF.out.alloc _)
      go_wp2_with fail
      have p0 : (wr.alloc (.cells #[.int .i64 pr, .int .i64 pc, .int .i64 vk, .float .f64 vn, .string vs, .bool vy, .int .i64 ve] 48 (0, 0))).cell? ⟨wr.heap.size, 0, none⟩ = some (.int .i64 pr) := cellOf (o := 0) (new1 _ _ _ rfl) rfl
      have p1 : (wr.alloc (.cells #[.int .i64 pr, .int .i64 pc, .int .i64 vk, .float .f64 vn, .string vs, .bool vy, .int .i64 ve] 48 (0, 0))).cell? ⟨wr.heap.size, 1, none⟩ = some (.int .i64 pc) := cellOf (o := 1) (new1 _ _ _ rfl) rfl
      have p2 : (wr.alloc (.cells #[.int .i64 pr, .int .i64 pc, .int .i64 vk, .float .f64 vn, .string vs, .bool vy, .int .i64 ve] 48 (0, 0))).cell? ⟨wr.heap.size, 2, none⟩ = some (.int .i64 vk) := cellOf (o := 2) (new1 _ _ _ rfl) rfl
      have w4 : (wr.alloc (.cells #[.int .i64 pr, .int .i64 pc, .int .i64 vk, .float .f64 vn, .string vs, .bool vy, .int .i64 ve] 48 (0, 0))).cell? ⟨w.heap.size, 4, none⟩ = some (.slice (some ⟨b, off, none⟩) n cap) := (HG.out _ (Fr.refl _ _)).c4
      have HR : Hid (Fr noB W0 (wr.alloc (.cells #[.int .i64 pr, .int .i64 pc, .int .i64 vk, .float .f64 vn, .string vs, .bool vy, .int .i64 ve] 48 (0, 0)))) := HF.out.alloc _
      clear c0 c1 c2 c3 c4 c5 c6 z1 z2 y4
      rcases HL.out.2 with ⟨hk0, hnx⟩ | ⟨j, hj, hkj, hnx, hjo⟩
      · have d0 : decide ((0 : Int) < (k : Int)) = false := by simp; omega
        have d0n : decide (0 < k) = false := by simp; omega
        generalize wr.alloc (.cells #[.int .i64 pr, .int .i64 pc, .int .i64 vk, .float .f64 vn, .string vs, .bool vy, .int .i64 ve] 48 (0, 0)) = W1 at *
        have hz0 : nx ≤ pr * c + pc := by
          have := Int.mul_nonneg (show 0 ≤ pr by omega) (show 0 ≤ c by omega)
          omega
        have HZ : Hid (nx ≤ pr * c + pc) := hz0
        clear hz0 hk0 hnx
        refine wp_region_quiet_lit (by kernel_rfl) (by kernel_rfl) ?_
        try dsimp only [List.append]
        repeat (go_big_quiet_step (fail))
        refine wpQuiet_nil ?_
        intro _ hw'
        obtain ⟨nq, hw''⟩ := hw'
        subst hw''
        by_cases q5 : vk = 0
        · have E1 : Hid (laidF r c 0 P = false) := HBad.out (by simp only [plOk, decide_eq_false_iff_not]; omega)
          subst q5
          go_wp2_with fail
          go_ret
          rw [HVb.out E1.out]
          exact ⟨rfl, HW1.out.drewN _⟩
        · have q5b : (vk == 0) = false := by simp [q5]
          have HY : Hid (Ahead r c P (k + 1) (pr * c + pc + 1)) := HOn.out q5 HZ.out
          go_wp2_with fail
          go_roundg (n - (k + 1))
          case measure => omega
          case rel => exact ⟨k + 1, pr * c + pc + 1, by omega, rfl, by go_num, HY, HR.out.drewN _⟩
      · have hjn : j < n := by rw [← HN.out]; exact hj
        obtain ⟨b', off', hao, hb', e0, e1, e2⟩ := (HA.out.keep HW1.out).get j hj
        obtain ⟨q, hqq⟩ : ∃ q, P[j] = q := ⟨_, rfl⟩
        rw [hqq] at e0 e1 hnx hjo
        obtain ⟨qr, qc, qv⟩ := q
        simp only at e0 e1 hnx hjo
        injection hao with hao'
        injection hao' with hb1 hb2 _
        subst hb1 hb2
        simp only [plOk, decide_eq_true_eq] at hjo
        have hpl := @place_lt c qr qc pr pc hjo.2.2.1 hjo.2.2.2.1 (by omega) (by omega)
        have d0 : decide ((0 : Int) < (k : Int)) = true := by simp; omega
        have d0n : decide (0 < k) = true := by simp; omega
        have d1 : (k : Int) - 1 = (j : Int) := by omega
        have d2 : (j : Int) < (n : Int) := by omega
        have HX : Hid (nx = qr * c + qc + 1) := hnx
        have HPL : Hid _ := hpl
        clear hnx hpl hjo e2 hqq hj hkj hb'
        generalize wr.alloc (.cells #[.int .i64 pr, .int .i64 pc, .int .i64 vk, .float .f64 vn, .string vs, .bool vy, .int .i64 ve] 48 (0, 0)) = W1 at *
        by_cases t1 : pr < qr
        · have a1 : decide (pr < qr) = true := by simpa using t1
          have E1 : Hid (laidF r c 0 P = false) := HLow.out (by
            have h := HPL.out
            have h2 := HX.out
            by_cases hh : qr * c + qc + 1 ≤ pr * c + pc
            · exact absurd (Or.inl t1) (h.1 hh)
            · omega)
          refine wp_region_quiet_lit (by kernel_rfl) (by kernel_rfl) ?_
          try dsimp only [List.append]
          repeat (go_big_quiet_step (fail))
          refine wpQuiet_nil ?_
          intro _ hw'
          obtain ⟨nq, hw''⟩ := hw'
          subst hw''
          go_wp2_with fail
          go_ret
          rw [HVb.out E1.out]
          exact ⟨rfl, HW1.out.drewN _⟩
        have a1 : decide (pr < qr) = false := by simpa using t1
        by_cases t2 : pr = qr
        · subst t2
          have a2 : (pr == pr) = true := by simp
          by_cases t3 : pc ≤ qc
          · have a3 : decide (pc ≤ qc) = true := by simpa using t3
            have E1 : Hid (laidF r c 0 P = false) := HLow.out (by
              have h := HPL.out
              have h2 := HX.out
              by_cases hh : pr * c + qc + 1 ≤ pr * c + pc
              · exact absurd (Or.inr ⟨rfl, t3⟩) (h.1 hh)
              · omega)
            refine wp_region_quiet_lit (by kernel_rfl) (by kernel_rfl) ?_
            try dsimp only [List.append]
            repeat (go_big_quiet_step (fail))
            refine wpQuiet_nil ?_
            intro _ hw'
            obtain ⟨nq, hw''⟩ := hw'
            subst hw''
            go_wp2_with fail
            go_ret
            rw [HVb.out E1.out]
            exact ⟨rfl, HW1.out.drewN _⟩
          · have a3 : decide (pc ≤ qc) = false := by simpa using t3
            have HZ : Hid (nx ≤ pr * c + pc) := by
              show nx ≤ pr * c + pc
              rw [HX.out]
              exact HPL.out.2 (by omega)
            clear t3
            refine wp_region_quiet_lit (by kernel_rfl) (by kernel_rfl) ?_
            try dsimp only [List.append]
            repeat (go_big_quiet_step (fail))
            refine wpQuiet_nil ?_
            intro _ hw'
            obtain ⟨nq, hw''⟩ := hw'
            subst hw''
            by_cases q5 : vk = 0
            · have E1 : Hid (laidF r c 0 P = false) := HBad.out (by simp only [plOk, decide_eq_false_iff_not]; omega)
              subst q5
              go_wp2_with fail
              go_ret
              rw [HVb.out E1.out]
              exact ⟨rfl, HW1.out.drewN _⟩
            · have q5b : (vk == 0) = false := by simp [q5]
              have HY : Hid (Ahead r c P (k + 1) (pr * c + pc + 1)) := HOn.out q5 HZ.out
              go_wp2_with fail
              go_roundg (n - (k + 1))
              case measure => omega
              case rel => exact ⟨k + 1, pr * c + pc + 1, by omega, rfl, by go_num, HY, HR.out.drewN _⟩
        · have a2 : (pr == qr) = false := by simpa using t2
          have HZ : Hid (nx ≤ pr * c + pc) := by
            show nx ≤ pr * c + pc
            rw [HX.out]
            exact HPL.out.2 (by omega)
          refine wp_region_quiet_lit (by kernel_rfl) (by kernel_rfl) ?_
          try dsimp only [List.append]
          repeat (go_big_quiet_step (fail))
          refine wpQuiet_nil ?_
          intro _ hw'
          obtain ⟨nq, hw''⟩ := hw'
          subst hw''
          by_cases q5 : vk = 0
          · have E1 : Hid (laidF r c 0 P = false) := HBad.out (by simp only [plOk, decide_eq_false_iff_not]; omega)
            subst q5
            go_wp2_with fail
            go_ret
            rw [HVb.out E1.out]
            exact ⟨rfl, HW1.out.drewN _⟩
          · have q5b : (vk == 0) = false := by simp [q5]
            have HY : Hid (Ahead r c P (k + 1) (pr * c + pc + 1)) := HOn.out q5 HZ.out
            go_wp2_with fail
            go_roundg (n - (k + 1))
            case measure => omega
            case rel => exact ⟨k + 1, pr * c + pc + 1, by omega, rfl, by go_num, HY, HR.out.drewN _⟩
    · obtain rfl : k = n := by omega
      have hlast : laidF r c 0 P = true := by rw [HL.out.1, ← HN.out, List.drop_length]; rfl
      have HE : Hid (V = fstE cvP P) := HVg.out hlast
      clear hlast HL
      have HW0 : Hid (Fr noB w wr) := HF0.out.trans hF
      have HC : Hid (∀ W, Fr noB wr W → W.cell? ⟨w.heap.size, 4, none⟩ = some (.slice ao k cap)) := fun W h => (HB.out W (hF.trans h)).c4
      clear hF
      go_wp2_with fail
      clear y4
      go_loopw [5] (fun i wq => ∃ j : Nat, j ≤ k ∧ i = .int .i64 (j : Int) ∧ Hid (∀ x (hx : x < P.length), x < j → cvP P[x] = 0) ∧ Fr noB wr wq) (fun i _ => k - (intOf i).toNat)
      case atStart => exact ⟨0, Nat.zero_le _, rfl, fun j _ h => absurd h (Nat.not_lt_zero _), Fr.refl _ _⟩
      case round =>
        obtain ⟨j, hj, rfl, HL, hF⟩ := hrel
        have y4 := HC.out _ hF
        by_cases hlt2 : j < k
        · have i1 : (j : Int) < (k : Int) := by omega
          have i2 : (0 : Int) ≤ (j : Int) := by omega
          have hjP : j < P.length := by rw [HN.out]; exact hlt2
          obtain ⟨b, off, rfl, hb, c0, c1, c2, c3, c4, c5, c6⟩ := (HA.out.keep (HW0.out.trans hF)).get j hjP
          obtain ⟨p, hp⟩ : ∃ p, P[j] = p := ⟨_, rfl⟩
          have hVk : Vok p.v := by rw [← hp]; exact HV.out _ (List.getElem_mem hjP)
          have HX : Hid (∀ x (hx : x < P.length), x = j → cvP P[x] = ckV p.v) := fun x hx e => by subst e; rw [← hp]; rfl
          have HJ : Hid (j < P.length) := hjP
          rw [hp] at c0 c1 c2 c3 c4 c5 c6
          clear hp hjP
          have HK := rckV_any p.v hVk wr (HU.out _ (HW0.out.trans hF))
          have HF : Hid _ := hF
          obtain ⟨e0, he0⟩ : ∃ e0, ckV p.v = e0 := ⟨_, rfl⟩
          rw [he0] at HK HX
          clear he0 hVk
          obtain ⟨pr, pc, ⟨vk, vn, vs, vy, ve⟩⟩ := p
          simp only at c0 c1 c2 c3 c4 c5 c6 HK
          clear hF
          by_cases hz : e0 = 0
          · subst hz
            go_wp2_with (go_at_call 44; refine HK.mono ?_; rintro e w1 ⟨rfl, hF1⟩)
            refine ⟨⟨j + 1, by omega, by go_num, fun x hx hxj => ?_, HF.out.trans hF1⟩, by simp [intOf]; omega⟩
            by_cases hxj2 : x = j
            · exact HX.out x hx hxj2
            · exact HL.out x hx (by omega)
          · have hz2 : (e0 != 0) = true := by simpa using hz
            have HR : Hid (fstE cvP P = e0) := by
              show fstE cvP P = e0
              rw [fstE_hit cvP P j HJ.out HL.out (by rw [HX.out j HJ.out rfl]; exact hz)]
              exact HX.out j HJ.out rfl
            go_wp2_with (go_at_call 44; refine HK.mono ?_; rintro e w1 ⟨rfl, hF1⟩)
            go_ret
            rw [HE.out, HR.out]
            exact ⟨rfl, HW0.out.trans (HF.out.trans hF1)⟩
        · obtain rfl : j = k := by omega
          go_wp2_with fail
          go_ret
          rw [HE.out, fstE_none cvP P (fun x hx => HL.out x hx (by rw [← HN.out]; exact hx))]
          exact ⟨rfl, HW0.out.trans hF⟩
#print axioms rarg_false
set_option maxRecDepth 100000 in
set_option maxHeartbeats 8000000 in
theorem rarg_true (rf : Bool) (ao : Option Addr) (cap : Nat) (P : List Pl) (w : World) (hA : PsAt w ao P) (hl : P.length ≤ 140737488355328) (hV : ∀ p ∈ P, Vok p.v) (hU : U8 w) (m3 : ¬ 0 < P.length) :
    Calls Tryz.prog 21 #[.agg #[.bool rf, .bool true, .int .i64 1, .int .i64 1, .slice ao P.length cap]] w fun e w' => e = .returned (.int .i64 (if laidF 1 1 0 P = false then 1 else fstE cvP P)) ∧ Fr noB w w' := by
  obtain ⟨V, hVV⟩ : ∃ V : Int, (if laidF 1 1 0 P = false then 1 else fstE cvP P) = V := ⟨_, rfl⟩
  rw [hVV]
  have HVb : Hid (laidF 1 1 0 P = false → V = 1) := fun h => by rw [← hVV, if_pos h]
  have HVg : Hid (laidF 1 1 0 P = true → V = fstE cvP P) := fun h => by rw [← hVV, if_neg (by rw [h]; decide)]
  clear hVV
  have hA0 : GAt (w.alloc (.cells #[.bool rf, .bool true, .int .i64 1, .int .i64 1, .slice ao P.length cap] 24 (0, 0))) w.heap.size rf true 1 1 ao P.length cap := ⟨new1 _ _ _ rfl⟩
  have HA : Hid (PsAt w ao P) := hA
  have HV : Hid (∀ p ∈ P, Vok p.v) := hV
  have HU : Hid (∀ W, Fr noB w W → U8 W) := fun W h => hU.fr h
  have HB : Hid (∀ W, Fr noB (w.alloc (.cells #[.bool rf, .bool true, .int .i64 1, .int .i64 1, .slice ao P.length cap] 24 (0, 0))) W → GAt W w.heap.size rf true 1 1 ao P.length cap) := fun W h => hA0.fr h id
  have HF0 : Hid (Fr noB w (w.alloc (.cells #[.bool rf, .bool true, .int .i64 1, .int .i64 1, .slice ao P.length cap] 24 (0, 0)))) := (Fr.refl noB w).alloc _
  clear hA hA0 hV hU
  obtain ⟨n, hn⟩ : ∃ n, P.length = n := ⟨_, rfl⟩
  have HN : Hid (P.length = n) := hn
  rw [hn] at hl HB HF0 m3 ⊢
  clear hn
  have m4 : ¬ 0 < (n : Int) := by omega
  go_enter Tryz.func21, Tryz.ntmps21
  go_wp2_with fail
  generalize w.alloc (.cells #[.bool rf, .bool true, .int .i64 1, .int .i64 1, .slice ao n cap] 24 (0, 0)) = W0 at HB HF0 ⊢
  go_loopg [3] n (fun gh iv wr => ∃ (k : Nat) (nx : Int), k ≤ n ∧ gh = n - k ∧ iv = .int .i64 (k : Int) ∧ Hid (Ahead 1 1 P k nx) ∧ Fr noB W0 wr)
  case atStart => exact ⟨0, 0, Nat.zero_le _, rfl, rfl, ⟨rfl, Or.inl ⟨rfl, rfl⟩⟩, Fr.refl _ _⟩
  case round =>
    obtain ⟨k, nx, hk, rfl, rfl, HL, hF⟩ := hrel
    have y4 := (HB.out _ hF).c4
    by_cases hlt : k < n
    · exfalso; omega
    · obtain rfl : k = n := by omega
      have hlast : laidF 1 1 0 P = true := by rw [HL.out.1, ← HN.out, List.drop_length]; rfl
      have HE : Hid (V = fstE cvP P) := HVg.out hlast
      clear hlast HL
      have HW0 : Hid (Fr noB w wr) := HF0.out.trans hF
      have HC : Hid (∀ W, Fr noB wr W → W.cell? ⟨w.heap.size, 4, none⟩ = some (.slice ao k cap)) := fun W h => (HB.out W (hF.trans h)).c4
      clear hF
      go_wp2_with fail
      clear y4
      go_loopw [5] (fun i wq => ∃ j : Nat, j ≤ k ∧ i = .int .i64 (j : Int) ∧ Hid (∀ x (hx : x < P.length), x < j → cvP P[x] = 0) ∧ Fr noB wr wq) (fun i _ => k - (intOf i).toNat)
      case atStart => exact ⟨0, Nat.zero_le _, rfl, fun j _ h => absurd h (Nat.not_lt_zero _), Fr.refl _ _⟩
      case round =>
        obtain ⟨j, hj, rfl, HL, hF⟩ := hrel
        have y4 := HC.out _ hF
        by_cases hlt2 : j < k
        · exfalso; omega
        · obtain rfl : j = k := by omega
          go_wp2_with fail
          go_ret
          rw [HE.out, fstE_none cvP P (fun x hx => HL.out x hx (by rw [← HN.out]; exact hx))]
          exact ⟨rfl, HW0.out.trans hF⟩
set_option maxRecDepth 100000 in
set_option maxHeartbeats 4000000 in
theorem rarg_any (rf ms : Bool) (r c : Int) (ao : Option Addr) (cap : Nat) (P : List Pl) (w : World) (hA : PsAt w ao P) (hl : P.length ≤ 140737488355328) (hV : ∀ p ∈ P, Vok p.v) (hU : U8 w) :
    Calls Tryz.prog 21 #[.agg #[.bool rf, .bool ms, .int .i64 r, .int .i64 c, .slice ao P.length cap]] w fun e w' => e = .returned (.int .i64 (argF ckV ms r c P)) ∧ Fr noB w w' := by
  have hF0 : Fr noB w (w.alloc (.cells #[.bool rf, .bool ms, .int .i64 r, .int .i64 c, .slice ao P.length cap] 24 (0, 0))) := (Fr.refl noB w).alloc _
  rw [argF_eq]
  by_cases h1 : r < 1
  · have e1 : laidB ms r c P = false := by simp [laidB, h1]
    rw [if_pos e1]
    clear hA hV hU
    go_enter Tryz.func21, Tryz.ntmps21
    go_wp2_with fail
    go_ret
    exact ⟨rfl, hF0⟩
  by_cases h2 : 1048576 < r
  · have e1 : laidB ms r c P = false := by simp [laidB, h2]
    rw [if_pos e1]
    clear hA hV hU
    go_enter Tryz.func21, Tryz.ntmps21
    go_wp2_with fail
    go_ret
    exact ⟨rfl, hF0⟩
  by_cases h3 : c < 1
  · have e1 : laidB ms r c P = false := by simp [laidB, h3]
    rw [if_pos e1]
    clear hA hV hU
    go_enter Tryz.func21, Tryz.ntmps21
    go_wp2_with fail
    go_ret
    exact ⟨rfl, hF0⟩
  by_cases h4 : 1024 < c
  · have e1 : laidB ms r c P = false := by simp [laidB, h4]
    rw [if_pos e1]
    clear hA hV hU
    go_enter Tryz.func21, Tryz.ntmps21
    go_wp2_with fail
    go_ret
    exact ⟨rfl, hF0⟩
  have hrc : ¬ (r < 1 ∨ 1048576 < r ∨ c < 1 ∨ 1024 < c) := by omega
  cases ms with
  | false =>
    have e1 : laidB false r c P = laidF r c 0 P := by simp only [laidB]; rw [if_neg hrc, if_neg (by simp)]
    rw [e1]
    exact rarg_false rf r c ao cap P w hA hl hV hU h1 h2 h3 h4
  | true =>
    by_cases m1 : r = 1
    case neg =>
      have e1 : laidB true r c P = false := by simp only [laidB]; rw [if_neg hrc, if_pos ⟨trivial, by omega⟩]
      have m5 : (r != 1) = true := by simpa using m1
      rw [if_pos e1]
      clear hA hV hU
      go_enter Tryz.func21, Tryz.ntmps21
      go_wp2_with fail
      go_ret
      exact ⟨rfl, hF0⟩
    subst m1
    by_cases m2 : c = 1
    case neg =>
      have e1 : laidB true 1 c P = false := by simp only [laidB]; rw [if_neg hrc, if_pos ⟨trivial, by omega⟩]
      have m5 : (c != 1) = true := by simpa using m2
      rw [if_pos e1]
      clear hA hV hU
      go_enter Tryz.func21, Tryz.ntmps21
      go_wp2_with fail
      go_ret
      exact ⟨rfl, hF0⟩
    subst m2
    by_cases m3 : 0 < P.length
    · have e1 : laidB true 1 1 P = false := by simp only [laidB]; rw [if_neg hrc, if_pos ⟨trivial, by omega⟩]
      have m5 : 0 < (P.length : Int) := by omega
      rw [if_pos e1]
      clear hA hV hU
      go_enter Tryz.func21, Tryz.ntmps21
      go_wp2_with fail
      go_ret
      exact ⟨rfl, hF0⟩
    have e1 : laidB true 1 1 P = laidF 1 1 0 P := by simp only [laidB]; rw [if_neg hrc, if_neg (by omega)]
    rw [e1]
    exact rarg_true rf ao cap P w hA hl hV hU m3
#print axioms rarg_any
end Go.Proofs.YtpjbobbmldplbaaGreatDoor
/- Which arguments may be: the program's CheckArg. -/
namespace Go.Proofs.YtpjbobbmldplbaaGreatDoor
open Go.RowKit Ieee Go.Shelf
attribute [local go_sem] run_store_float

set_option maxRecDepth 100000 in
set_option maxHeartbeats 4000000 in
theorem parg_any (rf ms : Bool) (r c : Int) (ao : Option Addr) (cap : Nat) (P : List Pl) (w : World) (hA : PsAt w ao P) (hl : P.length ≤ 140737488355328) (hV : ∀ p ∈ P, Vok p.v) (hU : U8 w) :
    Calls Tryz.prog 19 #[.agg #[.bool rf, .bool ms, .int .i64 r, .int .i64 c, .slice ao P.length cap]] w fun e w' => e = .returned (.int .i64 (argF ckV ms r c P)) ∧ Fr noB w w' := by
  have hF0 : Fr noB w (w.alloc (.cells #[.bool rf, .bool ms, .int .i64 r, .int .i64 c, .slice ao P.length cap] 24 (0, 0))) := (Fr.refl noB w).alloc _
  have HG : Hid (∀ W, Fr noB (w.alloc (.cells #[.bool rf, .bool ms, .int .i64 r, .int .i64 c, .slice ao P.length cap] 24 (0, 0))) W → GAt W w.heap.size rf ms r c ao P.length cap) := fun W h => GAt.fr (show GAt (w.alloc (.cells #[.bool rf, .bool ms, .int .i64 r, .int .i64 c, .slice ao P.length cap] 24 (0, 0))) w.heap.size rf ms r c ao P.length cap from ⟨new1 _ _ _ rfl⟩) h id
  have HLd := laid_any rf ms r c ao cap P (w.alloc (.cells #[.bool rf, .bool ms, .int .i64 r, .int .i64 c, .slice ao P.length cap] 24 (0, 0))) (hA.keep hF0) hl
  have HF0 : Hid (Fr noB w (w.alloc (.cells #[.bool rf, .bool ms, .int .i64 r, .int .i64 c, .slice ao P.length cap] 24 (0, 0)))) := hF0
  rw [argF_eq]
  cases hb : laidB ms r c P with
  | false =>
    rw [if_pos rfl]
    rw [hb] at HLd
    clear hA hV hU hb
    go_enter Tryz.func19, Tryz.ntmps19
    go_wp2_with (go_at_call 41; refine HLd.mono ?_; rintro e w1 ⟨rfl, hF1⟩)
    go_ret
    exact ⟨rfl, HF0.out.trans hF1⟩
  | true =>
    rw [if_neg (by decide)]
    rw [hb] at HLd
    have HA : Hid (PsAt w ao P) := hA
    have HV : Hid (∀ p ∈ P, Vok p.v) := hV
    have HU : Hid (∀ W, Fr noB w W → U8 W) := fun W h => hU.fr h
    clear hA hV hU hb hF0
    obtain ⟨n, hn⟩ : ∃ n, P.length = n := ⟨_, rfl⟩
    have HN : Hid (P.length = n) := hn
    rw [hn] at hl HG HF0 HLd ⊢
    clear hn
    go_enter Tryz.func19, Tryz.ntmps19
    go_wp2_with (go_at_call 41; refine HLd.mono ?_; rintro e w1 ⟨rfl, hF1⟩; have y4 := (HG.out _ hF1).c4)
    have HW0 : Hid (Fr noB w w1) := HF0.out.trans hF1
    clear hF1 y4
    go_loopw [12] (fun i wq => ∃ j : Nat, j ≤ n ∧ i = .int .i64 (j : Int) ∧ Hid (∀ x (hx : x < P.length), x < j → cvP P[x] = 0) ∧ Fr noB w1 wq) (fun i _ => n - (intOf i).toNat)
    case atStart => exact ⟨0, Nat.zero_le _, rfl, fun j _ h => absurd h (Nat.not_lt_zero _), Fr.refl _ _⟩
    case round =>
      obtain ⟨j, hj, rfl, HL, hF⟩ := hrel
      by_cases hlt2 : j < n
      · have hjP : j < P.length := by rw [HN.out]; exact hlt2
        obtain ⟨b, off, rfl, hb, c0, c1, c2, c3, c4, c5, c6⟩ := (HA.out.keep (HW0.out.trans hF)).get j hjP
        obtain ⟨p, hp⟩ : ∃ p, P[j] = p := ⟨_, rfl⟩
        have hVk : Vok p.v := by rw [← hp]; exact HV.out _ (List.getElem_mem hjP)
        have HX : Hid (∀ x (hx : x < P.length), x = j → cvP P[x] = ckV p.v) := fun x hx e => by subst e; rw [← hp]; rfl
        have HJ : Hid (j < P.length) := hjP
        rw [hp] at c0 c1 c2 c3 c4 c5 c6
        clear hp hjP
        have HK := ckV_any p.v hVk (wr.alloc (.cells #[.int .i64 p.r, .int .i64 p.c, .int .i64 p.v.k, .float .f64 p.v.n, .string p.v.s, .bool p.v.y, .int .i64 p.v.e] 48 (0, 0))) (HU.out _ ((HW0.out.trans hF).alloc _))
        have HF : Hid _ := hF
        obtain ⟨e0, he0⟩ : ∃ e0, ckV p.v = e0 := ⟨_, rfl⟩
        rw [he0] at HK HX
        clear he0 hVk
        obtain ⟨pr, pc, ⟨vk, vn, vs, vy, ve⟩⟩ := p
        simp only at c0 c1 c2 c3 c4 c5 c6 HK
        clear hF
        by_cases hz : e0 = 0
        · subst hz
          go_wp2_with (go_at_call 42; refine HK.mono ?_; rintro e w2 ⟨rfl, hF2⟩)
          refine ⟨⟨j + 1, by omega, by go_num, fun x hx hxj => ?_, (HF.out.alloc _).trans hF2⟩, by simp [intOf]; omega⟩
          by_cases hxj2 : x = j
          · exact HX.out x hx hxj2
          · exact HL.out x hx (by omega)
        · have hz2 : (e0 != 0) = true := by simpa using hz
          have HR : Hid (fstE cvP P = e0) := by
            show fstE cvP P = e0
            rw [fstE_hit cvP P j HJ.out HL.out (by rw [HX.out j HJ.out rfl]; exact hz)]
            exact HX.out j HJ.out rfl
          go_wp2_with (go_at_call 42; refine HK.mono ?_; rintro e w2 ⟨rfl, hF2⟩)
          go_ret
          rw [show fstE (fun p => ckV p.v) P = fstE cvP P from rfl, HR.out]
          exact ⟨rfl, HW0.out.trans ((HF.out.alloc _).trans hF2)⟩
      · obtain rfl : j = n := by omega
        go_wp2_with fail
        go_ret
        rw [show fstE (fun p => ckV p.v) P = fstE cvP P from rfl, fstE_none cvP P (fun x hx => HL.out x hx (by rw [← HN.out]; exact hx))]
        exact ⟨rfl, HW0.out.trans hF⟩
#print axioms parg_any
end Go.Proofs.YtpjbobbmldplbaaGreatDoor
/- What an argument tells of a place: told, Place; a single value. -/
namespace Go.Proofs.YtpjbobbmldplbaaGreatDoor
open Go.RowKit Ieee Go.Shelf
attribute [local go_sem] run_store_float

def toldF : List Pl → Int → Int → Vv
  | [], _, _ => ⟨0, 0, ⟨#[]⟩, false, 0⟩
  | p :: P, r, c => if p.r = r ∧ p.c = c then p.v else toldF P r c
theorem toldF_hit (P : List Pl) (r c : Int) (k : Nat) (hk : k < P.length) (h1 : ∀ j (hj : j < P.length), j < k → ¬ (P[j].r = r ∧ P[j].c = c)) (h2 : P[k].r = r ∧ P[k].c = c) : toldF P r c = P[k].v := by
  induction P generalizing k with
  | nil => simp at hk
  | cons p P ih =>
    cases k with
    | zero => simp only [List.getElem_cons_zero] at h2 ⊢; rw [toldF, if_pos h2]
    | succ k =>
      have h0 : ¬ (p.r = r ∧ p.c = c) := h1 0 (by simp) (by omega)
      rw [toldF, if_neg h0]
      simp only [List.getElem_cons_succ]
      exact ih k (by simpa using hk) (fun j hj h => h1 (j + 1) (by simpa using hj) (by omega)) h2
theorem toldF_none (P : List Pl) (r c : Int) (h1 : ∀ j (hj : j < P.length), ¬ (P[j].r = r ∧ P[j].c = c)) : toldF P r c = ⟨0, 0, ⟨#[]⟩, false, 0⟩ := by
  induction P with
  | nil => rfl
  | cons p P ih =>
    have h0 : ¬ (p.r = r ∧ p.c = c) := h1 0 (by simp)
    rw [toldF, if_neg h0]
    exact ih (fun j hj => h1 (j + 1) (by simpa using hj))
set_option maxRecDepth 100000 in
set_option maxHeartbeats 4000000 in
theorem told_any (rf ms : Bool) (r c : Int) (ao : Option Addr) (cap : Nat) (P : List Pl) (row col : Int) (w : World) (hA : PsAt w ao P) (hl : P.length ≤ 140737488355328) (hV : ∀ p ∈ P, Vok p.v) :
    Calls Tryz.prog 33 #[.agg #[.bool rf, .bool ms, .int .i64 r, .int .i64 c, .slice ao P.length cap], .int .i64 row, .int .i64 col] w fun e w' => e = .returned (.agg #[.int .i64 (toldF P row col).k, .float .f64 (toldF P row col).n, .string (toldF P row col).s, .bool (toldF P row col).y, .int .i64 (toldF P row col).e]) ∧ Fr noB w w' := by
  have hG : GAt ((w.alloc (.cells #[.bool rf, .bool ms, .int .i64 r, .int .i64 c, .slice ao P.length cap] 24 (0, 0))).alloc (.cells #[.int .i64 0, .float .f64 0, .string ⟨#[]⟩, .bool false, .int .i64 0] 37 (0, 0))) w.heap.size rf ms r c ao P.length cap := ⟨old1 (new1 _ _ _ rfl)⟩
  have hO : VAt ((w.alloc (.cells #[.bool rf, .bool ms, .int .i64 r, .int .i64 c, .slice ao P.length cap] 24 (0, 0))).alloc (.cells #[.int .i64 0, .float .f64 0, .string ⟨#[]⟩, .bool false, .int .i64 0] 37 (0, 0))) (w.heap.size + 1) 0 0 ⟨#[]⟩ false 0 := ⟨new1 _ _ _ (by simp)⟩
  have HB : Hid (∀ W, Fr noB ((w.alloc (.cells #[.bool rf, .bool ms, .int .i64 r, .int .i64 c, .slice ao P.length cap] 24 (0, 0))).alloc (.cells #[.int .i64 0, .float .f64 0, .string ⟨#[]⟩, .bool false, .int .i64 0] 37 (0, 0))) W → GAt W w.heap.size rf ms r c ao P.length cap ∧ VAt W (w.heap.size + 1) 0 0 ⟨#[]⟩ false 0) := fun W h => ⟨hG.fr h id, hO.fr h id⟩
  have HF0 : Hid (Fr noB w ((w.alloc (.cells #[.bool rf, .bool ms, .int .i64 r, .int .i64 c, .slice ao P.length cap] 24 (0, 0))).alloc (.cells #[.int .i64 0, .float .f64 0, .string ⟨#[]⟩, .bool false, .int .i64 0] 37 (0, 0)))) := ((Fr.refl noB w).alloc _).alloc _
  have HA : Hid (PsAt w ao P) := hA
  have HV : Hid (∀ p ∈ P, Vok p.v) := hV
  clear hA hV hG hO
  obtain ⟨Tv, hTv⟩ : ∃ Tv, toldF P row col = Tv := ⟨_, rfl⟩
  have HT : Hid (toldF P row col = Tv) := hTv
  rw [hTv]
  clear hTv
  obtain ⟨n, hn⟩ : ∃ n, P.length = n := ⟨_, rfl⟩
  have HN : Hid (P.length = n) := hn
  rw [hn] at hl HB HF0 ⊢
  clear hn
  go_enter Tryz.func33, Tryz.ntmps33
  go_wp2_with fail
  generalize (w.alloc (.cells #[.bool rf, .bool ms, .int .i64 r, .int .i64 c, .slice ao n cap] 24 (0, 0))).alloc (.cells #[.int .i64 0, .float .f64 0, .string ⟨#[]⟩, .bool false, .int .i64 0] 37 (0, 0)) = W0 at HB HF0 ⊢
  go_loopw [12] (fun i wq => ∃ j : Nat, j ≤ n ∧ i = .int .i64 (j : Int) ∧ Hid (∀ x (hx : x < P.length), x < j → ¬ (P[x].r = row ∧ P[x].c = col)) ∧ Fr noB W0 wq) (fun i _ => n - (intOf i).toNat)
  case atStart => exact ⟨0, Nat.zero_le _, rfl, fun j _ h => absurd h (Nat.not_lt_zero _), Fr.refl _ _⟩
  case round =>
    obtain ⟨j, hj, rfl, HL, hF⟩ := hrel
    by_cases hlt2 : j < n
    · have i1 : (j : Int) < (n : Int) := by omega
      have i2 : (0 : Int) ≤ (j : Int) := by omega
      have hjP : j < P.length := by rw [HN.out]; exact hlt2
      obtain ⟨b, off, rfl, hb, c0, c1, c2, c3, c4, c5, c6⟩ := (HA.out.keep (HF0.out.trans hF)).get j hjP
      obtain ⟨p, hp⟩ : ∃ p, P[j] = p := ⟨_, rfl⟩
      have hVk : Vok p.v := by rw [← hp]; exact HV.out _ (List.getElem_mem hjP)
      have HX : Hid (∀ x (hx : x < P.length), x = j → P[x] = p) := fun x hx e => by subst e; exact hp
      have HJ : Hid (j < P.length) := hjP
      rw [hp] at c0 c1 c2 c3 c4 c5 c6
      clear hp hjP
      have HF : Hid _ := hF
      have HK : ∀ W, _ := own_any p.v.k p.v.n p.v.s p.v.y p.v.e hVk.2
      obtain ⟨pr, pc, ⟨vk, vn, vs, vy, ve⟩⟩ := p
      simp only at c0 c1 c2 c3 c4 c5 c6 HK
      have HO9 : Hid (VAt wr (w.heap.size + 1) 0 0 ⟨#[]⟩ false 0) := (HB.out _ hF).2
      clear hF hVk
      by_cases t1 : pr = row
      · subst t1
        have a1 : (pr == pr) = true := by simp
        by_cases t2 : pc = col
        · subst t2
          have a2 : (pc == pc) = true := by simp
          have HR : Hid (Tv = ⟨vk, vn, vs, vy, ve⟩) := by
            show Tv = _
            rw [← HT.out, toldF_hit P pr pc j HJ.out HL.out (by rw [HX.out j HJ.out rfl]; exact ⟨rfl, rfl⟩), HX.out j HJ.out rfl]
          go_wp2_with (first
            | (go_at_call 20; refine (HK _).mono ?_; rintro e w2 ⟨rfl, hF2⟩; have hO2 := (HO9.out.fr ((Fr.refl noB wr).alloc (.cells #[.int .i64 pr, .int .i64 pc, .int .i64 vk, .float .f64 vn, .string vs, .bool vy, .int .i64 ve] 48 (0, 0))) id).fr hF2 id)
            | (refine wpList_store_val rfl (.tmp 6) (.tmp 28) rfl (w.heap.size + 1) vk vn vs vy ve rfl rfl hO2 ?_; intro W hW hFW))
          rw [HR.out]
          exact bodyPost_ret (vret Tryz.results33 _ _ _ rfl hW) rfl ⟨rfl, (HF0.out.trans ((HF.out.alloc _).trans hF2)).new hFW (by omega)⟩
        · have a2 : (pc == col) = false := by simpa using t2
          go_wp2_with fail
          refine ⟨⟨j + 1, by omega, by go_num, fun x hx hxj => ?_, HF.out.alloc _⟩, by simp [intOf]; omega⟩
          by_cases hxj2 : x = j
          · rw [HX.out x hx hxj2]
            exact fun h => t2 h.2
          · exact HL.out x hx (by omega)
      · have a1 : (pr == row) = false := by simpa using t1
        go_wp2_with fail
        refine ⟨⟨j + 1, by omega, by go_num, fun x hx hxj => ?_, HF.out.alloc _⟩, by simp [intOf]; omega⟩
        by_cases hxj2 : x = j
        · rw [HX.out x hx hxj2]
          exact fun h => t1 h.1
        · exact HL.out x hx (by omega)
    · obtain rfl : j = n := by omega
      have HR : Hid (Tv = ⟨0, 0, ⟨#[]⟩, false, 0⟩) := by
        show Tv = _
        rw [← HT.out, toldF_none P row col (fun x hx => HL.out x hx (by rw [← HN.out]; exact hx))]
      have hO2 := (HB.out _ hF).2
      have HF : Hid _ := hF
      clear hF
      go_wp2_with (refine wpList_store_val rfl (.tmp 6) (.tmp 30) rfl (w.heap.size + 1) 0 0 ⟨#[]⟩ false 0 rfl rfl hO2 ?_; intro W hW hFW)
      rw [HR.out]
      exact bodyPost_ret (vret Tryz.results33 _ _ _ rfl hW) rfl ⟨rfl, (HF0.out.trans HF.out).new hFW (by omega)⟩
set_option maxRecDepth 100000 in
set_option maxHeartbeats 4000000 in
theorem place_any (rf ms : Bool) (r c : Int) (ao : Option Addr) (cap : Nat) (P : List Pl) (row col : Int) (w : World) (hA : PsAt w ao P) (hl : P.length ≤ 140737488355328) (hV : ∀ p ∈ P, Vok p.v) :
    Calls Tryz.prog 35 #[.agg #[.bool rf, .bool ms, .int .i64 r, .int .i64 c, .slice ao P.length cap], .int .i64 row, .int .i64 col] w fun e w' => e = .returned (.agg #[.int .i64 (toldF P row col).k, .float .f64 (toldF P row col).n, .string (toldF P row col).s, .bool (toldF P row col).y, .int .i64 (toldF P row col).e]) ∧ Fr noB w w' := by
  have hG : GAt ((w.alloc (.cells #[.bool rf, .bool ms, .int .i64 r, .int .i64 c, .slice ao P.length cap] 24 (0, 0))).alloc (.cells #[.int .i64 0, .float .f64 0, .string ⟨#[]⟩, .bool false, .int .i64 0] 37 (0, 0))) w.heap.size rf ms r c ao P.length cap := ⟨old1 (new1 _ _ _ rfl)⟩
  have hO : VAt ((w.alloc (.cells #[.bool rf, .bool ms, .int .i64 r, .int .i64 c, .slice ao P.length cap] 24 (0, 0))).alloc (.cells #[.int .i64 0, .float .f64 0, .string ⟨#[]⟩, .bool false, .int .i64 0] 37 (0, 0))) (w.heap.size + 1) 0 0 ⟨#[]⟩ false 0 := ⟨new1 _ _ _ (by simp)⟩
  have HB : Hid (∀ W, Fr noB ((w.alloc (.cells #[.bool rf, .bool ms, .int .i64 r, .int .i64 c, .slice ao P.length cap] 24 (0, 0))).alloc (.cells #[.int .i64 0, .float .f64 0, .string ⟨#[]⟩, .bool false, .int .i64 0] 37 (0, 0))) W → GAt W w.heap.size rf ms r c ao P.length cap ∧ VAt W (w.heap.size + 1) 0 0 ⟨#[]⟩ false 0) := fun W h => ⟨hG.fr h id, hO.fr h id⟩
  have HF0 : Hid (Fr noB w ((w.alloc (.cells #[.bool rf, .bool ms, .int .i64 r, .int .i64 c, .slice ao P.length cap] 24 (0, 0))).alloc (.cells #[.int .i64 0, .float .f64 0, .string ⟨#[]⟩, .bool false, .int .i64 0] 37 (0, 0)))) := ((Fr.refl noB w).alloc _).alloc _
  have HA : Hid (PsAt w ao P) := hA
  have HV : Hid (∀ p ∈ P, Vok p.v) := hV
  clear hA hV hG hO
  obtain ⟨Tv, hTv⟩ : ∃ Tv, toldF P row col = Tv := ⟨_, rfl⟩
  have HT : Hid (toldF P row col = Tv) := hTv
  rw [hTv]
  clear hTv
  obtain ⟨n, hn⟩ : ∃ n, P.length = n := ⟨_, rfl⟩
  have HN : Hid (P.length = n) := hn
  rw [hn] at hl HB HF0 ⊢
  clear hn
  go_enter Tryz.func35, Tryz.ntmps35
  go_wp2_with fail
  generalize (w.alloc (.cells #[.bool rf, .bool ms, .int .i64 r, .int .i64 c, .slice ao n cap] 24 (0, 0))).alloc (.cells #[.int .i64 0, .float .f64 0, .string ⟨#[]⟩, .bool false, .int .i64 0] 37 (0, 0)) = W0 at HB HF0 ⊢
  go_loopw [7] (fun i wq => ∃ j : Nat, j ≤ n ∧ i = .int .i64 (j : Int) ∧ Hid (∀ x (hx : x < P.length), x < j → ¬ (P[x].r = row ∧ P[x].c = col)) ∧ Fr noB W0 wq) (fun i _ => n - (intOf i).toNat)
  case atStart => exact ⟨0, Nat.zero_le _, rfl, fun j _ h => absurd h (Nat.not_lt_zero _), Fr.refl _ _⟩
  case round =>
    obtain ⟨j, hj, rfl, HL, hF⟩ := hrel
    by_cases hlt2 : j < n
    · have i1 : (j : Int) < (n : Int) := by omega
      have i2 : (0 : Int) ≤ (j : Int) := by omega
      have hjP : j < P.length := by rw [HN.out]; exact hlt2
      have y4 := (HB.out _ hF).1.c4
      obtain ⟨b, off, rfl, hb, c0, c1, c2, c3, c4, c5, c6⟩ := (HA.out.keep (HF0.out.trans hF)).get j hjP
      obtain ⟨p, hp⟩ : ∃ p, P[j] = p := ⟨_, rfl⟩
      have hVk : Vok p.v := by rw [← hp]; exact HV.out _ (List.getElem_mem hjP)
      have HX : Hid (∀ x (hx : x < P.length), x = j → P[x] = p) := fun x hx e => by subst e; exact hp
      have HJ : Hid (j < P.length) := hjP
      rw [hp] at c0 c1 c2 c3 c4 c5 c6
      clear hp hjP
      have HF : Hid _ := hF
      skip
      obtain ⟨pr, pc, ⟨vk, vn, vs, vy, ve⟩⟩ := p
      simp only at c0 c1 c2 c3 c4 c5 c6 
      have HO9 : Hid (VAt wr (w.heap.size + 1) 0 0 ⟨#[]⟩ false 0) := (HB.out _ hF).2
      clear hF hVk
      by_cases t1 : pr = row
      · subst t1
        have a1 : (pr == pr) = true := by simp
        by_cases t2 : pc = col
        · subst t2
          have a2 : (pc == pc) = true := by simp
          have HR : Hid (Tv = ⟨vk, vn, vs, vy, ve⟩) := by
            show Tv = _
            rw [← HT.out, toldF_hit P pr pc j HJ.out HL.out (by rw [HX.out j HJ.out rfl]; exact ⟨rfl, rfl⟩), HX.out j HJ.out rfl]
          have hO2 := HO9.out
          go_wp2_with (refine wpList_store_val rfl (.tmp 6) (.tmp 38) rfl (w.heap.size + 1) vk vn vs vy ve rfl rfl hO2 ?_; intro W hW hFW)
          rw [HR.out]
          exact bodyPost_ret (vret Tryz.results35 _ _ _ rfl hW) rfl ⟨rfl, (HF0.out.trans HF.out).new hFW (by omega)⟩
        · have a2 : (pc == col) = false := by simpa using t2
          go_wp2_with fail
          refine ⟨⟨j + 1, by omega, by go_num, fun x hx hxj => ?_, HF.out⟩, by simp [intOf]; omega⟩
          by_cases hxj2 : x = j
          · rw [HX.out x hx hxj2]
            exact fun h => t2 h.2
          · exact HL.out x hx (by omega)
      · have a1 : (pr == row) = false := by simpa using t1
        go_wp2_with fail
        refine ⟨⟨j + 1, by omega, by go_num, fun x hx hxj => ?_, HF.out⟩, by simp [intOf]; omega⟩
        by_cases hxj2 : x = j
        · rw [HX.out x hx hxj2]
          exact fun h => t1 h.1
        · exact HL.out x hx (by omega)
    · obtain rfl : j = n := by omega
      have HR : Hid (Tv = ⟨0, 0, ⟨#[]⟩, false, 0⟩) := by
        show Tv = _
        rw [← HT.out, toldF_none P row col (fun x hx => HL.out x hx (by rw [← HN.out]; exact hx))]
      have hO2 := (HB.out _ hF).2
      have HF : Hid _ := hF
      have y4 := (HB.out _ hF).1.c4
      clear hF
      go_wp2_with (refine wpList_store_val rfl (.tmp 6) (.tmp 39) rfl (w.heap.size + 1) 0 0 ⟨#[]⟩ false 0 rfl rfl hO2 ?_; intro W hW hFW)
      rw [HR.out]
      exact bodyPost_ret (vret Tryz.results35 _ _ _ rfl hW) rfl ⟨rfl, (HF0.out.trans HF.out).new hFW (by omega)⟩
#print axioms told_any
#print axioms place_any
end Go.Proofs.YtpjbobbmldplbaaGreatDoor
