/- Which arguments may be: the document's CheckArg. -/
import Derived.Test.YtaobnfjkggpdlaaGreatDoorALai
import Derived.Test.YtaobnfjkggpdlaaGreatDoorARck
namespace Go.Proofs.YtaobnfjkggpdlaaGreatDoor
open Go.RowKit Ieee Go.Shelf Go.BigFrame
attribute [local go_sem] run_store_float

theorem argF_eq (f : Vv → Int) (m : Bool) (r c : Int) (P : List Pl) : argF f m r c P = if laidB m r c P = false then 1 else fstE (fun p => f p.v) P := by
  unfold argF laidB
  by_cases h1 : r < 1 ∨ 1048576 < r ∨ c < 1 ∨ 1024 < c
  · rw [if_pos h1, if_pos h1, if_pos rfl]
  · rw [if_neg h1, if_neg h1]
    by_cases h2 : m = true ∧ (1 < r ∨ 1 < c ∨ 0 < P.length)
    · rw [if_pos h2, if_pos h2, if_pos rfl]
    · rw [if_neg h2, if_neg h2]
def cvP (p : Pl) : Int := ckV p.v
/-- What is known ahead of the k-th place: the number from which on places may be told. -/
def Ahead (r c : Int) (P : List Pl) (k : Nat) (nx : Int) : Prop := laidF r c 0 P = laidF r c nx (P.drop k) ∧ ((k = 0 ∧ nx = 0) ∨ ∃ j, ∃ h : j < P.length, k = j + 1 ∧ nx = P[j].r * c + P[j].c + 1 ∧ plOk r c P[j] = true)
set_option maxRecDepth 100000 in
set_option maxHeartbeats 8000000 in
theorem rarg_false (rf : Bool) (r c : Int) (ao : Option Addr) (cap : Nat) (P : List Pl) (w : World) (hA : PsAt w ao P) (hl : P.length ≤ 140737488355328) (hV : ∀ p ∈ P, Vok p.v) (hU : U8 w) (h1 : ¬ r < 1) (h2 : ¬ 1048576 < r) (h3 : ¬ c < 1) (h4 : ¬ 1024 < c) :
    Calls Tryz.prog 14 #[.agg #[.bool rf, .bool false, .int .i64 r, .int .i64 c, .slice ao P.length cap]] w fun e w' => e = .returned (.int .i64 (if laidF r c 0 P = false then 1 else fstE cvP P)) ∧ Fr noB w w' := by
  obtain ⟨V, hVV⟩ : ∃ V : Int, (if laidF r c 0 P = false then 1 else fstE cvP P) = V := ⟨_, rfl⟩
  rw [hVV]
  have HVb : Hid (laidF r c 0 P = false → V = 1) := fun h => by rw [← hVV, if_pos h]
  have HVg : Hid (laidF r c 0 P = true → V = fstE cvP P) := fun h => by rw [← hVV, if_neg (by rw [h]; decide)]
  clear hVV
  have hA0 : GAt (w.alloc (.cells #[.bool rf, .bool false, .int .i64 r, .int .i64 c, .slice ao P.length cap] 27 (0, 0))) w.heap.size rf false r c ao P.length cap := ⟨new1 _ _ _ rfl⟩
  have HA : Hid (PsAt w ao P) := hA
  have HV : Hid (∀ p ∈ P, Vok p.v) := hV
  have HU : Hid (∀ W, Fr noB w W → U8 W) := fun W h => hU.fr h
  have HB : Hid (∀ W, Fr noB (w.alloc (.cells #[.bool rf, .bool false, .int .i64 r, .int .i64 c, .slice ao P.length cap] 27 (0, 0))) W → GAt W w.heap.size rf false r c ao P.length cap) := fun W h => hA0.fr h id
  have HF0 : Hid (Fr noB w (w.alloc (.cells #[.bool rf, .bool false, .int .i64 r, .int .i64 c, .slice ao P.length cap] 27 (0, 0)))) := (Fr.refl noB w).alloc _
  clear hA hA0 hV hU
  obtain ⟨n, hn⟩ : ∃ n, P.length = n := ⟨_, rfl⟩
  have HN : Hid (P.length = n) := hn
  rw [hn] at hl HB HF0 ⊢
  clear hn
  go_enter Tryz.func14, Tryz.ntmps14
  go_wp2_with fail
  generalize w.alloc (.cells #[.bool rf, .bool false, .int .i64 r, .int .i64 c, .slice ao n cap] 27 (0, 0)) = W0 at HB HF0 ⊢
  go_loopg [3] n (fun gh iv wr => ∃ (k : Nat) (nx : Int), k ≤ n ∧ gh = n - k ∧ iv = .int .i64 (k : Int) ∧ Hid (Ahead r c P k nx) ∧ Fr noB W0 wr)
  case atStart => exact ⟨0, 0, Nat.zero_le _, rfl, rfl, ⟨rfl, Or.inl ⟨rfl, rfl⟩⟩, Fr.refl _ _⟩
  case round =>
    obtain ⟨k, nx, hk, rfl, rfl, HL, hF⟩ := hrel
    have y4 := (HB.out _ hF).c4
    by_cases hlt : k < n
    · have i1 : (k : Int) < (n : Int) := by omega
      have i2 : (0 : Int) ≤ (k : Int) := by omega
      have hkP : k < P.length := by rw [HN.out]; exact hlt
      obtain ⟨b, off, rfl, hb, c0, c1, c2, c3, c4, c5, c6⟩ := (HA.out.keep (HF0.out.trans hF)).get k hkP
      obtain ⟨p, hp⟩ : ∃ p, P[k] = p := ⟨_, rfl⟩
      have HP : Hid (∃ h : k < P.length, P[k] = p) := ⟨hkP, hp⟩
      rw [hp] at c0 c1 c2 c3 c4 c5 c6
      clear hp hkP
      obtain ⟨pr, pc, ⟨vk, vn, vs, vy, ve⟩⟩ := p
      simp only at c0 c1 c2 c3 c4 c5 c6
      have HF : Hid (Fr noB W0 wr) := hF
      have HG : Hid (∀ W, Fr noB (wr.alloc (.cells #[.int .i64 pr, .int .i64 pc, .int .i64 vk, .float .f64 vn, .string vs, .bool vy, .int .i64 ve] 69 (0, 0))) W → GAt W w.heap.size rf false r c (some ⟨b, off, none⟩) n cap) := fun W h => HB.out W ((hF.alloc _).trans h)
      have HBad : Hid (plOk r c ⟨pr, pc, ⟨vk, vn, vs, vy, ve⟩⟩ = false → laidF r c 0 P = false) := fun h => by
        obtain ⟨h1, h2⟩ := HP.out
        rw [HL.out.1]
        exact laidF_bad h1 (by rw [h2]; exact h)
      have z1 : (wr.alloc (.cells #[.int .i64 pr, .int .i64 pc, .int .i64 vk, .float .f64 vn, .string vs, .bool vy, .int .i64 ve] 69 (0, 0))).cell? ⟨w.heap.size, 2, none⟩ = some (.int .i64 r) := (HB.out _ (hF.alloc _)).c2
      have z2 : (wr.alloc (.cells #[.int .i64 pr, .int .i64 pc, .int .i64 vk, .float .f64 vn, .string vs, .bool vy, .int .i64 ve] 69 (0, 0))).cell? ⟨w.heap.size, 3, none⟩ = some (.int .i64 c) := (HB.out _ (hF.alloc _)).c3
      clear hF
      by_cases q1 : pr < 0
      · have E1 : Hid (laidF r c 0 P = false) := HBad.out (by simp only [plOk, decide_eq_false_iff_not]; omega)
        go_wp2_with fail
        go_ret
        rw [HVb.out E1.out]
        exact ⟨rfl, HF0.out.trans (HF.out.alloc _)⟩
      by_cases q2 : r ≤ pr
      · have E1 : Hid (laidF r c 0 P = false) := HBad.out (by simp only [plOk, decide_eq_false_iff_not]; omega)
        go_wp2_with fail
        go_ret
        rw [HVb.out E1.out]
        exact ⟨rfl, HF0.out.trans (HF.out.alloc _)⟩
      by_cases q3 : pc < 0
      · have E1 : Hid (laidF r c 0 P = false) := HBad.out (by simp only [plOk, decide_eq_false_iff_not]; omega)
        go_wp2_with fail
        go_ret
        rw [HVb.out E1.out]
        exact ⟨rfl, HF0.out.trans (HF.out.alloc _)⟩
      by_cases q4 : c ≤ pc
      · have E1 : Hid (laidF r c 0 P = false) := HBad.out (by simp only [plOk, decide_eq_false_iff_not]; omega)
        go_wp2_with fail
        go_ret
        rw [HVb.out E1.out]
        exact ⟨rfl, HF0.out.trans (HF.out.alloc _)⟩
      have HOn : Hid (vk ≠ 0 → nx ≤ pr * c + pc → Ahead r c P (k + 1) (pr * c + pc + 1)) := fun hv h => by
        obtain ⟨h1, h2⟩ := HP.out
        have hok : plOk r c P[k] = true := by rw [h2]; simp only [plOk, decide_eq_true_eq]; omega
        refine ⟨?_, Or.inr ⟨k, h1, rfl, by rw [h2], hok⟩⟩
        rw [HL.out.1, laidF_on h1 hok (by rw [h2]; exact h), h2]
      have HLow : Hid (pr * c + pc < nx → laidF r c 0 P = false) := fun h => by
        obtain ⟨h1, h2⟩ := HP.out
        rw [HL.out.1]
        exact laidF_low h1 (by rw [h2]; exact h)
      have HW1 : Hid (Fr noB w (wr.alloc (.cells #[.int .i64 pr, .int .i64 pc, .int .i64 vk, .float .f64 vn, .string vs, .bool vy, .int .i64 ve] 69 (0, 0)))) := HF0.out.trans (HF.out.alloc _)
      go_wp2_with fail
      have p0 : (wr.alloc (.cells #[.int .i64 pr, .int .i64 pc, .int .i64 vk, .float .f64 vn, .string vs, .bool vy, .int .i64 ve] 69 (0, 0))).cell? ⟨wr.heap.size, 0, none⟩ = some (.int .i64 pr) := cellOf (o := 0) (new1 _ _ _ rfl) rfl
      have p1 : (wr.alloc (.cells #[.int .i64 pr, .int .i64 pc, .int .i64 vk, .float .f64 vn, .string vs, .bool vy, .int .i64 ve] 69 (0, 0))).cell? ⟨wr.heap.size, 1, none⟩ = some (.int .i64 pc) := cellOf (o := 1) (new1 _ _ _ rfl) rfl
      have p2 : (wr.alloc (.cells #[.int .i64 pr, .int .i64 pc, .int .i64 vk, .float .f64 vn, .string vs, .bool vy, .int .i64 ve] 69 (0, 0))).cell? ⟨wr.heap.size, 2, none⟩ = some (.int .i64 vk) := cellOf (o := 2) (new1 _ _ _ rfl) rfl
      have w4 : (wr.alloc (.cells #[.int .i64 pr, .int .i64 pc, .int .i64 vk, .float .f64 vn, .string vs, .bool vy, .int .i64 ve] 69 (0, 0))).cell? ⟨w.heap.size, 4, none⟩ = some (.slice (some ⟨b, off, none⟩) n cap) := (HG.out _ (Fr.refl _ _)).c4
      have HR : Hid (Fr noB W0 (wr.alloc (.cells #[.int .i64 pr, .int .i64 pc, .int .i64 vk, .float .f64 vn, .string vs, .bool vy, .int .i64 ve] 69 (0, 0)))) := HF.out.alloc _
      clear c0 c1 c2 c3 c4 c5 c6 z1 z2 y4
      rcases HL.out.2 with ⟨hk0, hnx⟩ | ⟨j, hj, hkj, hnx, hjo⟩
      · have d0 : decide ((0 : Int) < (k : Int)) = false := by simp; omega
        have d0n : decide (0 < k) = false := by simp; omega
        generalize wr.alloc (.cells #[.int .i64 pr, .int .i64 pc, .int .i64 vk, .float .f64 vn, .string vs, .bool vy, .int .i64 ve] 69 (0, 0)) = W1 at *
        have hz0 : nx ≤ pr * c + pc := by
          have := Int.mul_nonneg (show 0 ≤ pr by omega) (show 0 ≤ c by omega)
          omega
        have HZ : Hid (nx ≤ pr * c + pc) := hz0
        clear hz0 hk0 hnx
        refine wp_region_quiet_lit (by kernel_rfl) (by kernel_rfl) ?_
        try dsimp only [List.append]
        repeat (go_big_quiet_step (fail))
        refine wpQuiet_nil ?_
        intro _ hw'
        obtain ⟨nq, hw''⟩ := hw'
        subst hw''
        by_cases q5 : vk = 0
        · have E1 : Hid (laidF r c 0 P = false) := HBad.out (by simp only [plOk, decide_eq_false_iff_not]; omega)
          subst q5
          go_wp2_with fail
          go_ret
          rw [HVb.out E1.out]
          exact ⟨rfl, HW1.out.drewN _⟩
        · have q5b : (vk == 0) = false := by simp [q5]
          have HY : Hid (Ahead r c P (k + 1) (pr * c + pc + 1)) := HOn.out q5 HZ.out
          go_wp2_with fail
          go_roundg (n - (k + 1))
          case measure => omega
          case rel => exact ⟨k + 1, pr * c + pc + 1, by omega, rfl, by go_num, HY, HR.out.drewN _⟩
      · have hjn : j < n := by rw [← HN.out]; exact hj
        obtain ⟨b', off', hao, hb', e0, e1, e2⟩ := (HA.out.keep HW1.out).get j hj
        obtain ⟨q, hqq⟩ : ∃ q, P[j] = q := ⟨_, rfl⟩
        rw [hqq] at e0 e1 hnx hjo
        obtain ⟨qr, qc, qv⟩ := q
        simp only at e0 e1 hnx hjo
        injection hao with hao'
        injection hao' with hb1 hb2 _
        subst hb1 hb2
        simp only [plOk, decide_eq_true_eq] at hjo
        have hpl := @place_lt c qr qc pr pc hjo.2.2.1 hjo.2.2.2.1 (by omega) (by omega)
        have d0 : decide ((0 : Int) < (k : Int)) = true := by simp; omega
        have d0n : decide (0 < k) = true := by simp; omega
        have d1 : (k : Int) - 1 = (j : Int) := by omega
        have d2 : (j : Int) < (n : Int) := by omega
        have HX : Hid (nx = qr * c + qc + 1) := hnx
        have HPL : Hid _ := hpl
        clear hnx hpl hjo e2 hqq hj hkj hb'
        generalize wr.alloc (.cells #[.int .i64 pr, .int .i64 pc, .int .i64 vk, .float .f64 vn, .string vs, .bool vy, .int .i64 ve] 69 (0, 0)) = W1 at *
        by_cases t1 : pr < qr
        · have a1 : decide (pr < qr) = true := by simpa using t1
          have E1 : Hid (laidF r c 0 P = false) := HLow.out (by
            have h := HPL.out
            have h2 := HX.out
            by_cases hh : qr * c + qc + 1 ≤ pr * c + pc
            · exact absurd (Or.inl t1) (h.1 hh)
            · omega)
          refine wp_region_quiet_lit (by kernel_rfl) (by kernel_rfl) ?_
          try dsimp only [List.append]
          repeat (go_big_quiet_step (fail))
          refine wpQuiet_nil ?_
          intro _ hw'
          obtain ⟨nq, hw''⟩ := hw'
          subst hw''
          go_wp2_with fail
          go_ret
          rw [HVb.out E1.out]
          exact ⟨rfl, HW1.out.drewN _⟩
        have a1 : decide (pr < qr) = false := by simpa using t1
        by_cases t2 : pr = qr
        · subst t2
          have a2 : (pr == pr) = true := by simp
          by_cases t3 : pc ≤ qc
          · have a3 : decide (pc ≤ qc) = true := by simpa using t3
            have E1 : Hid (laidF r c 0 P = false) := HLow.out (by
              have h := HPL.out
              have h2 := HX.out
              by_cases hh : pr * c + qc + 1 ≤ pr * c + pc
              · exact absurd (Or.inr ⟨rfl, t3⟩) (h.1 hh)
              · omega)
            refine wp_region_quiet_lit (by kernel_rfl) (by kernel_rfl) ?_
            try dsimp only [List.append]
            repeat (go_big_quiet_step (fail))
            refine wpQuiet_nil ?_
            intro _ hw'
            obtain ⟨nq, hw''⟩ := hw'
            subst hw''
            go_wp2_with fail
            go_ret
            rw [HVb.out E1.out]
            exact ⟨rfl, HW1.out.drewN _⟩
          · have a3 : decide (pc ≤ qc) = false := by simpa using t3
            have HZ : Hid (nx ≤ pr * c + pc) := by
              show nx ≤ pr * c + pc
              rw [HX.out]
              exact HPL.out.2 (by omega)
            clear t3
            refine wp_region_quiet_lit (by kernel_rfl) (by kernel_rfl) ?_
            try dsimp only [List.append]
            repeat (go_big_quiet_step (fail))
            refine wpQuiet_nil ?_
            intro _ hw'
            obtain ⟨nq, hw''⟩ := hw'
            subst hw''
            by_cases q5 : vk = 0
            · have E1 : Hid (laidF r c 0 P = false) := HBad.out (by simp only [plOk, decide_eq_false_iff_not]; omega)
              subst q5
              go_wp2_with fail
              go_ret
              rw [HVb.out E1.out]
              exact ⟨rfl, HW1.out.drewN _⟩
            · have q5b : (vk == 0) = false := by simp [q5]
              have HY : Hid (Ahead r c P (k + 1) (pr * c + pc + 1)) := HOn.out q5 HZ.out
              go_wp2_with fail
              go_roundg (n - (k + 1))
              case measure => omega
              case rel => exact ⟨k + 1, pr * c + pc + 1, by omega, rfl, by go_num, HY, HR.out.drewN _⟩
        · have a2 : (pr == qr) = false := by simpa using t2
          have HZ : Hid (nx ≤ pr * c + pc) := by
            show nx ≤ pr * c + pc
            rw [HX.out]
            exact HPL.out.2 (by omega)
          refine wp_region_quiet_lit (by kernel_rfl) (by kernel_rfl) ?_
          try dsimp only [List.append]
          repeat (go_big_quiet_step (fail))
          refine wpQuiet_nil ?_
          intro _ hw'
          obtain ⟨nq, hw''⟩ := hw'
          subst hw''
          by_cases q5 : vk = 0
          · have E1 : Hid (laidF r c 0 P = false) := HBad.out (by simp only [plOk, decide_eq_false_iff_not]; omega)
            subst q5
            go_wp2_with fail
            go_ret
            rw [HVb.out E1.out]
            exact ⟨rfl, HW1.out.drewN _⟩
          · have q5b : (vk == 0) = false := by simp [q5]
            have HY : Hid (Ahead r c P (k + 1) (pr * c + pc + 1)) := HOn.out q5 HZ.out
            go_wp2_with fail
            go_roundg (n - (k + 1))
            case measure => omega
            case rel => exact ⟨k + 1, pr * c + pc + 1, by omega, rfl, by go_num, HY, HR.out.drewN _⟩
    · obtain rfl : k = n := by omega
      have hlast : laidF r c 0 P = true := by rw [HL.out.1, ← HN.out, List.drop_length]; rfl
      have HE : Hid (V = fstE cvP P) := HVg.out hlast
      clear hlast HL
      have HW0 : Hid (Fr noB w wr) := HF0.out.trans hF
      have HC : Hid (∀ W, Fr noB wr W → W.cell? ⟨w.heap.size, 4, none⟩ = some (.slice ao k cap)) := fun W h => (HB.out W (hF.trans h)).c4
      clear hF
      go_wp2_with fail
      clear y4
      go_loopw [5] (fun i wq => ∃ j : Nat, j ≤ k ∧ i = .int .i64 (j : Int) ∧ Hid (∀ x (hx : x < P.length), x < j → cvP P[x] = 0) ∧ Fr noB wr wq) (fun i _ => k - (intOf i).toNat)
      case atStart => exact ⟨0, Nat.zero_le _, rfl, fun j _ h => absurd h (Nat.not_lt_zero _), Fr.refl _ _⟩
      case round =>
        obtain ⟨j, hj, rfl, HL, hF⟩ := hrel
        have y4 := HC.out _ hF
        by_cases hlt2 : j < k
        · have i1 : (j : Int) < (k : Int) := by omega
          have i2 : (0 : Int) ≤ (j : Int) := by omega
          have hjP : j < P.length := by rw [HN.out]; exact hlt2
          obtain ⟨b, off, rfl, hb, c0, c1, c2, c3, c4, c5, c6⟩ := (HA.out.keep (HW0.out.trans hF)).get j hjP
          obtain ⟨p, hp⟩ : ∃ p, P[j] = p := ⟨_, rfl⟩
          have hVk : Vok p.v := by rw [← hp]; exact HV.out _ (List.getElem_mem hjP)
          have HX : Hid (∀ x (hx : x < P.length), x = j → cvP P[x] = ckV p.v) := fun x hx e => by subst e; rw [← hp]; rfl
          have HJ : Hid (j < P.length) := hjP
          rw [hp] at c0 c1 c2 c3 c4 c5 c6
          clear hp hjP
          have HK := rckV_any p.v hVk wr (HU.out _ (HW0.out.trans hF))
          have HF : Hid _ := hF
          obtain ⟨e0, he0⟩ : ∃ e0, ckV p.v = e0 := ⟨_, rfl⟩
          rw [he0] at HK HX
          clear he0 hVk
          obtain ⟨pr, pc, ⟨vk, vn, vs, vy, ve⟩⟩ := p
          simp only at c0 c1 c2 c3 c4 c5 c6 HK
          clear hF
          by_cases hz : e0 = 0
          · subst hz
            go_wp2_with (go_at_call 39; refine HK.mono ?_; rintro e w1 ⟨rfl, hF1⟩)
            refine ⟨⟨j + 1, by omega, by go_num, fun x hx hxj => ?_, HF.out.trans hF1⟩, by simp [intOf]; omega⟩
            by_cases hxj2 : x = j
            · exact HX.out x hx hxj2
            · exact HL.out x hx (by omega)
          · have hz2 : (e0 != 0) = true := by simpa using hz
            have HR : Hid (fstE cvP P = e0) := by
              show fstE cvP P = e0
              rw [fstE_hit cvP P j HJ.out HL.out (by rw [HX.out j HJ.out rfl]; exact hz)]
              exact HX.out j HJ.out rfl
            go_wp2_with (go_at_call 39; refine HK.mono ?_; rintro e w1 ⟨rfl, hF1⟩)
            go_ret
            rw [HE.out, HR.out]
            exact ⟨rfl, HW0.out.trans (HF.out.trans hF1)⟩
        · obtain rfl : j = k := by omega
          go_wp2_with fail
          go_ret
          rw [HE.out, fstE_none cvP P (fun x hx => HL.out x hx (by rw [← HN.out]; exact hx))]
          exact ⟨rfl, HW0.out.trans hF⟩
#print axioms rarg_false
set_option maxRecDepth 100000 in
set_option maxHeartbeats 8000000 in
theorem rarg_true (rf : Bool) (ao : Option Addr) (cap : Nat) (P : List Pl) (w : World) (hA : PsAt w ao P) (hl : P.length ≤ 140737488355328) (hV : ∀ p ∈ P, Vok p.v) (hU : U8 w) (m3 : ¬ 0 < P.length) :
    Calls Tryz.prog 14 #[.agg #[.bool rf, .bool true, .int .i64 1, .int .i64 1, .slice ao P.length cap]] w fun e w' => e = .returned (.int .i64 (if laidF 1 1 0 P = false then 1 else fstE cvP P)) ∧ Fr noB w w' := by
  obtain ⟨V, hVV⟩ : ∃ V : Int, (if laidF 1 1 0 P = false then 1 else fstE cvP P) = V := ⟨_, rfl⟩
  rw [hVV]
  have HVb : Hid (laidF 1 1 0 P = false → V = 1) := fun h => by rw [← hVV, if_pos h]
  have HVg : Hid (laidF 1 1 0 P = true → V = fstE cvP P) := fun h => by rw [← hVV, if_neg (by rw [h]; decide)]
  clear hVV
  have hA0 : GAt (w.alloc (.cells #[.bool rf, .bool true, .int .i64 1, .int .i64 1, .slice ao P.length cap] 27 (0, 0))) w.heap.size rf true 1 1 ao P.length cap := ⟨new1 _ _ _ rfl⟩
  have HA : Hid (PsAt w ao P) := hA
  have HV : Hid (∀ p ∈ P, Vok p.v) := hV
  have HU : Hid (∀ W, Fr noB w W → U8 W) := fun W h => hU.fr h
  have HB : Hid (∀ W, Fr noB (w.alloc (.cells #[.bool rf, .bool true, .int .i64 1, .int .i64 1, .slice ao P.length cap] 27 (0, 0))) W → GAt W w.heap.size rf true 1 1 ao P.length cap) := fun W h => hA0.fr h id
  have HF0 : Hid (Fr noB w (w.alloc (.cells #[.bool rf, .bool true, .int .i64 1, .int .i64 1, .slice ao P.length cap] 27 (0, 0)))) := (Fr.refl noB w).alloc _
  clear hA hA0 hV hU
  obtain ⟨n, hn⟩ : ∃ n, P.length = n := ⟨_, rfl⟩
  have HN : Hid (P.length = n) := hn
  rw [hn] at hl HB HF0 m3 ⊢
  clear hn
  have m4 : ¬ 0 < (n : Int) := by omega
  go_enter Tryz.func14, Tryz.ntmps14
  go_wp2_with fail
  generalize w.alloc (.cells #[.bool rf, .bool true, .int .i64 1, .int .i64 1, .slice ao n cap] 27 (0, 0)) = W0 at HB HF0 ⊢
  go_loopg [3] n (fun gh iv wr => ∃ (k : Nat) (nx : Int), k ≤ n ∧ gh = n - k ∧ iv = .int .i64 (k : Int) ∧ Hid (Ahead 1 1 P k nx) ∧ Fr noB W0 wr)
  case atStart => exact ⟨0, 0, Nat.zero_le _, rfl, rfl, ⟨rfl, Or.inl ⟨rfl, rfl⟩⟩, Fr.refl _ _⟩
  case round =>
    obtain ⟨k, nx, hk, rfl, rfl, HL, hF⟩ := hrel
    have y4 := (HB.out _ hF).c4
    by_cases hlt : k < n
    · exfalso; omega
    · obtain rfl : k = n := by omega
      have hlast : laidF 1 1 0 P = true := by rw [HL.out.1, ← HN.out, List.drop_length]; rfl
      have HE : Hid (V = fstE cvP P) := HVg.out hlast
      clear hlast HL
      have HW0 : Hid (Fr noB w wr) := HF0.out.trans hF
      have HC : Hid (∀ W, Fr noB wr W → W.cell? ⟨w.heap.size, 4, none⟩ = some (.slice ao k cap)) := fun W h => (HB.out W (hF.trans h)).c4
      clear hF
      go_wp2_with fail
      clear y4
      go_loopw [5] (fun i wq => ∃ j : Nat, j ≤ k ∧ i = .int .i64 (j : Int) ∧ Hid (∀ x (hx : x < P.length), x < j → cvP P[x] = 0) ∧ Fr noB wr wq) (fun i _ => k - (intOf i).toNat)
      case atStart => exact ⟨0, Nat.zero_le _, rfl, fun j _ h => absurd h (Nat.not_lt_zero _), Fr.refl _ _⟩
      case round =>
        obtain ⟨j, hj, rfl, HL, hF⟩ := hrel
        have y4 := HC.out _ hF
        by_cases hlt2 : j < k
        · exfalso; omega
        · obtain rfl : j = k := by omega
          go_wp2_with fail
          go_ret
          rw [HE.out, fstE_none cvP P (fun x hx => HL.out x hx (by rw [← HN.out]; exact hx))]
          exact ⟨rfl, HW0.out.trans hF⟩
set_option maxRecDepth 100000 in
set_option maxHeartbeats 4000000 in
theorem rarg_any (rf ms : Bool) (r c : Int) (ao : Option Addr) (cap : Nat) (P : List Pl) (w : World) (hA : PsAt w ao P) (hl : P.length ≤ 140737488355328) (hV : ∀ p ∈ P, Vok p.v) (hU : U8 w) :
    Calls Tryz.prog 14 #[.agg #[.bool rf, .bool ms, .int .i64 r, .int .i64 c, .slice ao P.length cap]] w fun e w' => e = .returned (.int .i64 (argF ckV ms r c P)) ∧ Fr noB w w' := by
  have hF0 : Fr noB w (w.alloc (.cells #[.bool rf, .bool ms, .int .i64 r, .int .i64 c, .slice ao P.length cap] 27 (0, 0))) := (Fr.refl noB w).alloc _
  rw [argF_eq]
  by_cases h1 : r < 1
  · have e1 : laidB ms r c P = false := by simp [laidB, h1]
    rw [if_pos e1]
    clear hA hV hU
    go_enter Tryz.func14, Tryz.ntmps14
    go_wp2_with fail
    go_ret
    exact ⟨rfl, hF0⟩
  by_cases h2 : 1048576 < r
  · have e1 : laidB ms r c P = false := by simp [laidB, h2]
    rw [if_pos e1]
    clear hA hV hU
    go_enter Tryz.func14, Tryz.ntmps14
    go_wp2_with fail
    go_ret
    exact ⟨rfl, hF0⟩
  by_cases h3 : c < 1
  · have e1 : laidB ms r c P = false := by simp [laidB, h3]
    rw [if_pos e1]
    clear hA hV hU
    go_enter Tryz.func14, Tryz.ntmps14
    go_wp2_with fail
    go_ret
    exact ⟨rfl, hF0⟩
  by_cases h4 : 1024 < c
  · have e1 : laidB ms r c P = false := by simp [laidB, h4]
    rw [if_pos e1]
    clear hA hV hU
    go_enter Tryz.func14, Tryz.ntmps14
    go_wp2_with fail
    go_ret
    exact ⟨rfl, hF0⟩
  have hrc : ¬ (r < 1 ∨ 1048576 < r ∨ c < 1 ∨ 1024 < c) := by omega
  cases ms with
  | false =>
    have e1 : laidB false r c P = laidF r c 0 P := by simp only [laidB]; rw [if_neg hrc, if_neg (by simp)]
    rw [e1]
    exact rarg_false rf r c ao cap P w hA hl hV hU h1 h2 h3 h4
  | true =>
    by_cases m1 : r = 1
    case neg =>
      have e1 : laidB true r c P = false := by simp only [laidB]; rw [if_neg hrc, if_pos ⟨trivial, by omega⟩]
      have m5 : (r != 1) = true := by simpa using m1
      rw [if_pos e1]
      clear hA hV hU
      go_enter Tryz.func14, Tryz.ntmps14
      go_wp2_with fail
      go_ret
      exact ⟨rfl, hF0⟩
    subst m1
    by_cases m2 : c = 1
    case neg =>
      have e1 : laidB true 1 c P = false := by simp only [laidB]; rw [if_neg hrc, if_pos ⟨trivial, by omega⟩]
      have m5 : (c != 1) = true := by simpa using m2
      rw [if_pos e1]
      clear hA hV hU
      go_enter Tryz.func14, Tryz.ntmps14
      go_wp2_with fail
      go_ret
      exact ⟨rfl, hF0⟩
    subst m2
    by_cases m3 : 0 < P.length
    · have e1 : laidB true 1 1 P = false := by simp only [laidB]; rw [if_neg hrc, if_pos ⟨trivial, by omega⟩]
      have m5 : 0 < (P.length : Int) := by omega
      rw [if_pos e1]
      clear hA hV hU
      go_enter Tryz.func14, Tryz.ntmps14
      go_wp2_with fail
      go_ret
      exact ⟨rfl, hF0⟩
    have e1 : laidB true 1 1 P = laidF 1 1 0 P := by simp only [laidB]; rw [if_neg hrc, if_neg (by omega)]
    rw [e1]
    exact rarg_true rf ao cap P w hA hl hV hU m3
#print axioms rarg_any
end Go.Proofs.YtaobnfjkggpdlaaGreatDoor
