/- Which arguments may be: the program's CheckArg. -/
import Derived.Test.YtaobnfjkggpdlaaGreatDoorARga
namespace Go.Proofs.YtaobnfjkggpdlaaGreatDoor
open Go.RowKit Ieee Go.Shelf
attribute [local go_sem] run_store_float

set_option maxRecDepth 100000 in
set_option maxHeartbeats 4000000 in
theorem parg_any (rf ms : Bool) (r c : Int) (ao : Option Addr) (cap : Nat) (P : List Pl) (w : World) (hA : PsAt w ao P) (hl : P.length ≤ 140737488355328) (hV : ∀ p ∈ P, Vok p.v) (hU : U8 w) :
    Calls Tryz.prog 13 #[.agg #[.bool rf, .bool ms, .int .i64 r, .int .i64 c, .slice ao P.length cap]] w fun e w' => e = .returned (.int .i64 (argF ckV ms r c P)) ∧ Fr noB w w' := by
  have hF0 : Fr noB w (w.alloc (.cells #[.bool rf, .bool ms, .int .i64 r, .int .i64 c, .slice ao P.length cap] 27 (0, 0))) := (Fr.refl noB w).alloc _
  have HG : Hid (∀ W, Fr noB (w.alloc (.cells #[.bool rf, .bool ms, .int .i64 r, .int .i64 c, .slice ao P.length cap] 27 (0, 0))) W → GAt W w.heap.size rf ms r c ao P.length cap) := fun W h => GAt.fr (show GAt (w.alloc (.cells #[.bool rf, .bool ms, .int .i64 r, .int .i64 c, .slice ao P.length cap] 27 (0, 0))) w.heap.size rf ms r c ao P.length cap from ⟨new1 _ _ _ rfl⟩) h id
  have HLd := laid_any rf ms r c ao cap P (w.alloc (.cells #[.bool rf, .bool ms, .int .i64 r, .int .i64 c, .slice ao P.length cap] 27 (0, 0))) (hA.keep hF0) hl
  have HF0 : Hid (Fr noB w (w.alloc (.cells #[.bool rf, .bool ms, .int .i64 r, .int .i64 c, .slice ao P.length cap] 27 (0, 0)))) := hF0
  rw [argF_eq]
  cases hb : laidB ms r c P with
  | false =>
    rw [if_pos rfl]
    rw [hb] at HLd
    clear hA hV hU hb
    go_enter Tryz.func13, Tryz.ntmps13
    go_wp2_with (go_at_call 41; refine HLd.mono ?_; rintro e w1 ⟨rfl, hF1⟩)
    go_ret
    exact ⟨rfl, HF0.out.trans hF1⟩
  | true =>
    rw [if_neg (by decide)]
    rw [hb] at HLd
    have HA : Hid (PsAt w ao P) := hA
    have HV : Hid (∀ p ∈ P, Vok p.v) := hV
    have HU : Hid (∀ W, Fr noB w W → U8 W) := fun W h => hU.fr h
    clear hA hV hU hb hF0
    obtain ⟨n, hn⟩ : ∃ n, P.length = n := ⟨_, rfl⟩
    have HN : Hid (P.length = n) := hn
    rw [hn] at hl HG HF0 HLd ⊢
    clear hn
    go_enter Tryz.func13, Tryz.ntmps13
    go_wp2_with (go_at_call 41; refine HLd.mono ?_; rintro e w1 ⟨rfl, hF1⟩; have y4 := (HG.out _ hF1).c4)
    have HW0 : Hid (Fr noB w w1) := HF0.out.trans hF1
    clear hF1 y4
    go_loopw [12] (fun i wq => ∃ j : Nat, j ≤ n ∧ i = .int .i64 (j : Int) ∧ Hid (∀ x (hx : x < P.length), x < j → cvP P[x] = 0) ∧ Fr noB w1 wq) (fun i _ => n - (intOf i).toNat)
    case atStart => exact ⟨0, Nat.zero_le _, rfl, fun j _ h => absurd h (Nat.not_lt_zero _), Fr.refl _ _⟩
    case round =>
      obtain ⟨j, hj, rfl, HL, hF⟩ := hrel
      by_cases hlt2 : j < n
      · have hjP : j < P.length := by rw [HN.out]; exact hlt2
        obtain ⟨b, off, rfl, hb, c0, c1, c2, c3, c4, c5, c6⟩ := (HA.out.keep (HW0.out.trans hF)).get j hjP
        obtain ⟨p, hp⟩ : ∃ p, P[j] = p := ⟨_, rfl⟩
        have hVk : Vok p.v := by rw [← hp]; exact HV.out _ (List.getElem_mem hjP)
        have HX : Hid (∀ x (hx : x < P.length), x = j → cvP P[x] = ckV p.v) := fun x hx e => by subst e; rw [← hp]; rfl
        have HJ : Hid (j < P.length) := hjP
        rw [hp] at c0 c1 c2 c3 c4 c5 c6
        clear hp hjP
        have HK := ckV_any p.v hVk (wr.alloc (.cells #[.int .i64 p.r, .int .i64 p.c, .int .i64 p.v.k, .float .f64 p.v.n, .string p.v.s, .bool p.v.y, .int .i64 p.v.e] 69 (0, 0))) (HU.out _ ((HW0.out.trans hF).alloc _))
        have HF : Hid _ := hF
        obtain ⟨e0, he0⟩ : ∃ e0, ckV p.v = e0 := ⟨_, rfl⟩
        rw [he0] at HK HX
        clear he0 hVk
        obtain ⟨pr, pc, ⟨vk, vn, vs, vy, ve⟩⟩ := p
        simp only at c0 c1 c2 c3 c4 c5 c6 HK
        clear hF
        by_cases hz : e0 = 0
        · subst hz
          go_wp2_with (go_at_call 40; refine HK.mono ?_; rintro e w2 ⟨rfl, hF2⟩)
          refine ⟨⟨j + 1, by omega, by go_num, fun x hx hxj => ?_, (HF.out.alloc _).trans hF2⟩, by simp [intOf]; omega⟩
          by_cases hxj2 : x = j
          · exact HX.out x hx hxj2
          · exact HL.out x hx (by omega)
        · have hz2 : (e0 != 0) = true := by simpa using hz
          have HR : Hid (fstE cvP P = e0) := by
            show fstE cvP P = e0
            rw [fstE_hit cvP P j HJ.out HL.out (by rw [HX.out j HJ.out rfl]; exact hz)]
            exact HX.out j HJ.out rfl
          go_wp2_with (go_at_call 40; refine HK.mono ?_; rintro e w2 ⟨rfl, hF2⟩)
          go_ret
          rw [show fstE (fun p => ckV p.v) P = fstE cvP P from rfl, HR.out]
          exact ⟨rfl, HW0.out.trans ((HF.out.alloc _).trans hF2)⟩
      · obtain rfl : j = n := by omega
        go_wp2_with fail
        go_ret
        rw [show fstE (fun p => ckV p.v) P = fstE cvP P from rfl, fstE_none cvP P (fun x hx => HL.out x hx (by rw [← HN.out]; exact hx))]
        exact ⟨rfl, HW0.out.trans hF⟩
#print axioms parg_any
end Go.Proofs.YtaobnfjkggpdlaaGreatDoor
