/- Arguments that are the same are told so by the document. -/
import Derived.Test.YtpjbobbmldplbaaGreatDoorK17
import Derived.Test.YtpjbobbmldplbaaGreatDoorASam
import Derived.Test.YtpjbobbmldplbaaGreatDoorK14
import Derived.Deep.RegionHeld3
import Derived.Deep.DeepCutAuto
import Derived.Deep.LoopGhost
namespace Go.Proofs.YtpjbobbmldplbaaGreatDoor
open Go.RowKit Ieee Go.Shelf
attribute [local go_sem] run_store_float

structure PBk (w : World) (B : Nat) (pr pc vk : Int) (vn : Nat) (vs : ByteArray) (vy : Bool) (ve : Int) : Prop where
  o : w.heap[B]? = some (.cells #[.int .i64 pr, .int .i64 pc, .int .i64 vk, .float .f64 vn, .string vs, .bool vy, .int .i64 ve] 48 (0, 0))
theorem PBk.fr {w w' : World} {B : Nat} {pr pc vk : Int} {vn : Nat} {vs : ByteArray} {vy : Bool} {ve : Int} (h : PBk w B pr pc vk vn vs vy ve) (hF : Fr noB w w') : PBk w' B pr pc vk vn vs vy ve := ⟨hF.obj h.o id⟩
set_option maxRecDepth 100000 in
set_option maxHeartbeats 4000000 in
theorem samearg_self (rf ms : Bool) (r c : Int) (ao bo : Option Addr) (ca cb : Nat) (P : List Pl) (w : World) (hA : PsAt w ao P) (hB : PsAt w bo P) (hl : P.length ≤ 140737488355328) :
    Calls Tryz.prog 9 #[.agg #[.bool rf, .bool ms, .int .i64 r, .int .i64 c, .slice ao P.length ca], .agg #[.bool rf, .bool ms, .int .i64 r, .int .i64 c, .slice bo P.length cb]] w fun e w' => e = .returned (.bool true) ∧ Fr noB w w' := by
  obtain ⟨n, hn⟩ : ∃ n, P.length = n := ⟨_, rfl⟩
  have HN : Hid (P.length = n) := hn
  rw [hn] at hl ⊢
  clear hn
  obtain ⟨W0, hW0⟩ : ∃ W0, (w.alloc (.cells #[.bool rf, .bool ms, .int .i64 r, .int .i64 c, .slice ao n ca] 24 (0, 0))).alloc (.cells #[.bool rf, .bool ms, .int .i64 r, .int .i64 c, .slice bo n cb] 24 (0, 0)) = W0 := ⟨_, rfl⟩
  have hG1 : GAt W0 w.heap.size rf ms r c ao n ca := by rw [← hW0]; exact ⟨old1 (new1 _ _ _ rfl)⟩
  have hG2 : GAt W0 (w.heap.size + 1) rf ms r c bo n cb := by rw [← hW0]; exact ⟨new1 _ _ _ (by simp)⟩
  have hF : Fr noB w W0 := by rw [← hW0]; exact ((Fr.refl noB w).alloc _).alloc _
  have HH : Hid (∀ W, Fr noB W0 W → GAt W w.heap.size rf ms r c ao n ca ∧ GAt W (w.heap.size + 1) rf ms r c bo n cb) := fun W h => ⟨hG1.fr h id, hG2.fr h id⟩
  have HF0 : Hid (Fr noB w W0) := hF
  have HA : Hid (PsAt w ao P) := hA
  have HB : Hid (PsAt w bo P) := hB
  have hsr : (r == r) = true := by simp
  have hsc : (c == c) = true := by simp
  have hsn : ((n : Int) == (n : Int)) = true := by simp
  have hrf : (rf == rf) = true := by simp
  have hms : (ms == ms) = true := by simp
  have HW0 : Hid _ := hW0
  have g0 := hG1.c0; have g1 := hG1.c1; have g2 := hG1.c2; have g3 := hG1.c3; have g4 := hG1.c4
  have k0 := hG2.c0; have k1 := hG2.c1; have k2 := hG2.c2; have k3 := hG2.c3; have k4 := hG2.c4
  clear hG1 hG2 hF hA hB hW0
  go_enter Tryz.func9, Tryz.ntmps9
  go_wp2_with fail
  go_loopg [5] n (fun gh iv wr => ∃ j : Nat, j ≤ n ∧ gh = n - j ∧ iv = .int .i64 (j : Int) ∧ Fr noB W0 wr)
  case atStart => exact ⟨0, Nat.zero_le _, rfl, rfl, by rw [HW0.out]; exact Fr.refl _ _⟩
  clear g0 g1 g2 g3 g4 k0 k1 k2 k3 k4 hsr hsc hsn hrf hms
  case round =>
    obtain ⟨j, hj, rfl, rfl, hF⟩ := hrel
    by_cases hlt : j < n
    · have hjP : j < P.length := by rw [HN.out]; exact hlt
      have i1 : (j : Int) < (n : Int) := by omega
      have i2 : (0 : Int) ≤ (j : Int) := by omega
      obtain ⟨b1, o1, rfl, hb1, c0, c1, c2, c3, c4, c5, c6⟩ := (HA.out.keep (HF0.out.trans hF)).get j hjP
      obtain ⟨b2, o2, rfl, hb2, d0, d1, d2, d3, d4, d5, d6⟩ := (HB.out.keep (HF0.out.trans hF)).get j hjP
      obtain ⟨p, hp⟩ : ∃ p, P[j] = p := ⟨_, rfl⟩
      rw [hp] at c0 c1 c2 c3 c4 c5 c6 d0 d1 d2 d3 d4 d5 d6
      clear hp hjP
      obtain ⟨pr, pc, ⟨vk, vn, vs, vy, ve⟩⟩ := p
      simp only at c0 c1 c2 c3 c4 c5 c6 d0 d1 d2 d3 d4 d5 d6
      have HF : Hid (Fr noB W0 wr) := hF
      have H1 := rsame_self vk vn vs vy ve
      have hpr : (pr == pr) = true := by simp
      have hpc : (pc == pc) = true := by simp
      have g4 := (HH.out _ hF).1.c4
      have HPx : Hid (∀ W, Fr noB wr W → W.cell? ⟨w.heap.size, 4, none⟩ = some (.slice (some ⟨b1, o1, none⟩) n ca) ∧ W.cell? ⟨w.heap.size + 1, 4, none⟩ = some (.slice (some ⟨b2, o2, none⟩) n cb) ∧ W.cell? ⟨b1, o1 + j * 7, none⟩ = some (.int .i64 pr) ∧ W.cell? ⟨b1, o1 + j * 7 + 1, none⟩ = some (.int .i64 pc) ∧ W.cell? ⟨b1, o1 + j * 7 + 2, none⟩ = some (.int .i64 vk) ∧ W.cell? ⟨b1, o1 + j * 7 + 3, none⟩ = some (.float .f64 vn) ∧ W.cell? ⟨b1, o1 + j * 7 + 4, none⟩ = some (.string vs) ∧ W.cell? ⟨b1, o1 + j * 7 + 5, none⟩ = some (.bool vy) ∧ W.cell? ⟨b1, o1 + j * 7 + 6, none⟩ = some (.int .i64 ve) ∧ W.cell? ⟨b2, o2 + j * 7, none⟩ = some (.int .i64 pr) ∧ W.cell? ⟨b2, o2 + j * 7 + 1, none⟩ = some (.int .i64 pc) ∧ W.cell? ⟨b2, o2 + j * 7 + 2, none⟩ = some (.int .i64 vk) ∧ W.cell? ⟨b2, o2 + j * 7 + 3, none⟩ = some (.float .f64 vn) ∧ W.cell? ⟨b2, o2 + j * 7 + 4, none⟩ = some (.string vs) ∧ W.cell? ⟨b2, o2 + j * 7 + 5, none⟩ = some (.bool vy) ∧ W.cell? ⟨b2, o2 + j * 7 + 6, none⟩ = some (.int .i64 ve)) := fun W h => by
        have hG := HH.out _ (HF.out.trans h)
        exact ⟨hG.1.c4, hG.2.c4, (h.cell (World.block_lt_of_cell? wr _ c0) id).trans c0, (h.cell (World.block_lt_of_cell? wr _ c1) id).trans c1, (h.cell (World.block_lt_of_cell? wr _ c2) id).trans c2, (h.cell (World.block_lt_of_cell? wr _ c3) id).trans c3, (h.cell (World.block_lt_of_cell? wr _ c4) id).trans c4, (h.cell (World.block_lt_of_cell? wr _ c5) id).trans c5, (h.cell (World.block_lt_of_cell? wr _ c6) id).trans c6, (h.cell (World.block_lt_of_cell? wr _ d0) id).trans d0, (h.cell (World.block_lt_of_cell? wr _ d1) id).trans d1, (h.cell (World.block_lt_of_cell? wr _ d2) id).trans d2, (h.cell (World.block_lt_of_cell? wr _ d3) id).trans d3, (h.cell (World.block_lt_of_cell? wr _ d4) id).trans d4, (h.cell (World.block_lt_of_cell? wr _ d5) id).trans d5, (h.cell (World.block_lt_of_cell? wr _ d6) id).trans d6⟩
      clear hF c0 c1 c2 c3 c4 c5 c6 d0 d1 d2 d3 d4 d5 d6
      go_wp2_with fail
      clear g4
      go_cut [6, 7] from 48 to 59 (fun p q wc => ∃ b6 b7, p = .pointer (some ⟨b6, 0, none⟩) ∧ q = .pointer (some ⟨b7, 0, none⟩) ∧ Hid (PBk wc b6 pr pc vk vn vs vy ve ∧ PBk wc b7 pr pc vk vn vs vy ve ∧ Fr noB wr wc))
      case first =>
        go_region_held3 (fun W => W.cell? ⟨w.heap.size, 4, none⟩ = some (.slice (some ⟨b1, o1, none⟩) n ca) ∧ W.cell? ⟨w.heap.size + 1, 4, none⟩ = some (.slice (some ⟨b2, o2, none⟩) n cb) ∧ W.cell? ⟨b1, o1 + j * 7, none⟩ = some (.int .i64 pr) ∧ W.cell? ⟨b1, o1 + j * 7 + 1, none⟩ = some (.int .i64 pc) ∧ W.cell? ⟨b1, o1 + j * 7 + 2, none⟩ = some (.int .i64 vk) ∧ W.cell? ⟨b1, o1 + j * 7 + 3, none⟩ = some (.float .f64 vn) ∧ W.cell? ⟨b1, o1 + j * 7 + 4, none⟩ = some (.string vs) ∧ W.cell? ⟨b1, o1 + j * 7 + 5, none⟩ = some (.bool vy) ∧ W.cell? ⟨b1, o1 + j * 7 + 6, none⟩ = some (.int .i64 ve) ∧ W.cell? ⟨b2, o2 + j * 7, none⟩ = some (.int .i64 pr) ∧ W.cell? ⟨b2, o2 + j * 7 + 1, none⟩ = some (.int .i64 pc) ∧ W.cell? ⟨b2, o2 + j * 7 + 2, none⟩ = some (.int .i64 vk) ∧ W.cell? ⟨b2, o2 + j * 7 + 3, none⟩ = some (.float .f64 vn) ∧ W.cell? ⟨b2, o2 + j * 7 + 4, none⟩ = some (.string vs) ∧ W.cell? ⟨b2, o2 + j * 7 + 5, none⟩ = some (.bool vy) ∧ W.cell? ⟨b2, o2 + j * 7 + 6, none⟩ = some (.int .i64 ve))
          (first | with_reducible exact HPx.out _ (Fr.refl _ _) | with_reducible exact HPx.out _ ((Fr.refl _ _).drew) | with_reducible exact HPx.out _ (((Fr.refl _ _).alloc _).drew) | with_reducible exact HPx.out _ (((Fr.refl _ _).drew).alloc _) | with_reducible exact HPx.out _ ((((Fr.refl _ _).alloc _).alloc _).drew) | with_reducible exact HPx.out _ ((((Fr.refl _ _).drew).alloc _).alloc _) | fail)
          (fail)
        · go_wp2_with fail
          go_meet
          exact ⟨wr.heap.size, wr.heap.size + 1, rfl, rfl, ⟨old1 (new1 _ _ _ rfl)⟩, ⟨new1 _ _ _ (by simp)⟩, (((Fr.refl _ _).alloc _).alloc _).drew⟩
        · go_wp2_with fail
          go_meet
          exact ⟨wr.heap.size + 1, wr.heap.size, rfl, rfl, ⟨new1 _ _ _ (by simp)⟩, ⟨old1 (new1 _ _ _ rfl)⟩, (((Fr.refl _ _).alloc _).alloc _).drew⟩
      obtain ⟨b6, b7, rfl, rfl, HX⟩ := hcut
      have x0 : wc.cell? ⟨b6, 0, none⟩ = _ := cellOf (o := 0) HX.out.1.o rfl
      have x1 : wc.cell? ⟨b6, 1, none⟩ = _ := cellOf (o := 1) HX.out.1.o rfl
      have x2 : wc.cell? ⟨b6, 2, none⟩ = _ := cellOf (o := 2) HX.out.1.o rfl
      have x3 : wc.cell? ⟨b6, 3, none⟩ = _ := cellOf (o := 3) HX.out.1.o rfl
      have x4 : wc.cell? ⟨b6, 4, none⟩ = _ := cellOf (o := 4) HX.out.1.o rfl
      have x5 : wc.cell? ⟨b6, 5, none⟩ = _ := cellOf (o := 5) HX.out.1.o rfl
      have x6 : wc.cell? ⟨b6, 6, none⟩ = _ := cellOf (o := 6) HX.out.1.o rfl
      have y0 : wc.cell? ⟨b7, 0, none⟩ = _ := cellOf (o := 0) HX.out.2.1.o rfl
      have y1 : wc.cell? ⟨b7, 1, none⟩ = _ := cellOf (o := 1) HX.out.2.1.o rfl
      have y2 : wc.cell? ⟨b7, 2, none⟩ = _ := cellOf (o := 2) HX.out.2.1.o rfl
      have y3 : wc.cell? ⟨b7, 3, none⟩ = _ := cellOf (o := 3) HX.out.2.1.o rfl
      have y4 : wc.cell? ⟨b7, 4, none⟩ = _ := cellOf (o := 4) HX.out.2.1.o rfl
      have y5 : wc.cell? ⟨b7, 5, none⟩ = _ := cellOf (o := 5) HX.out.2.1.o rfl
      have y6 : wc.cell? ⟨b7, 6, none⟩ = _ := cellOf (o := 6) HX.out.2.1.o rfl
      go_wp2_with (go_at_call 12; refine (H1 _).mono ?_; rintro e w9 ⟨rfl, hF9⟩)
      have HF9 : Hid (Fr noB W0 w9) := (HF.out.trans HX.out.2.2).trans hF9
      clear hF9 x0 x1 x2 x3 x4 x5 x6 y0 y1 y2 y3 y4 y5 y6
      go_wp2_with fail
      go_roundg (n - (j + 1))
      case measure => omega
      case rel => exact ⟨j + 1, by omega, rfl, by go_num, HF9.out⟩
    · obtain rfl : j = n := by omega
      have g4 := (HH.out _ hF).1.c4
      go_wp2_with fail
      go_ret
      exact ⟨rfl, HF0.out.trans hF⟩
#print axioms samearg_self
end Go.Proofs.YtpjbobbmldplbaaGreatDoor
