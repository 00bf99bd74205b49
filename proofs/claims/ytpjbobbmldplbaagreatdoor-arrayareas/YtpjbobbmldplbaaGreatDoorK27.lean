/- The code's Dense: an argument as an array. -/
import Derived.Test.YtpjbobbmldplbaaGreatDoorK17
import Derived.Deep.RegionHeld3
namespace Go.Proofs.YtpjbobbmldplbaaGreatDoor
open Go.RowKit Ieee Go.Shelf
attribute [local go_sem] run_store_float

set_option maxRecDepth 100000 in
set_option maxHeartbeats 4000000 in
theorem pdense_no (rf ms : Bool) (r c : Int) (ao : Option Addr) (cap : Nat) (P : List Pl) (w : World) (hA : PsAt w ao P) (hl : P.length ≤ 140737488355328) (hV : ∀ p ∈ P, Vok p.v) (hU : U8 w) (hno : argF ckV ms r c P ≠ 0 ∨ 4096 < r * c) :
    Calls Tryz.prog 5 #[.agg #[.bool rf, .bool ms, .int .i64 r, .int .i64 c, .slice ao P.length cap]] w fun e w' => e = .returned (.tuple #[.agg #[.int .i64 0, .int .i64 0, .slice none 0 0], .bool false]) ∧ Fr noB w w' := by
  obtain ⟨W0, hW0⟩ : ∃ W0, (w.alloc (.cells #[.bool rf, .bool ms, .int .i64 r, .int .i64 c, .slice ao P.length cap] 24 (0, 0))).alloc (.cells #[.int .i64 0, .int .i64 0, .slice none 0 0] 27 (0, 0)) = W0 := ⟨_, rfl⟩
  have hG : GAt W0 w.heap.size rf ms r c ao P.length cap := by rw [← hW0]; exact ⟨old1 (new1 _ _ _ rfl)⟩
  have hO : AAt W0 (w.heap.size + 1) 0 0 none 0 0 := by rw [← hW0]; exact ⟨new1 _ _ _ (by simp)⟩
  have hF : Fr noB w W0 := by rw [← hW0]; exact ((Fr.refl noB w).alloc _).alloc _
  have HC := parg_any rf ms r c ao cap P W0 (hA.keep hF) hl hV (hU.fr hF)
  have HH : Hid (∀ W, Fr noB W0 W → GAt W w.heap.size rf ms r c ao P.length cap ∧ AAt W (w.heap.size + 1) 0 0 none 0 0) := fun W h => ⟨hG.fr h id, hO.fr h id⟩
  have HF : Hid (Fr noB w W0) := hF
  obtain ⟨E, hE⟩ : ∃ E, argF ckV ms r c P = E := ⟨_, rfl⟩
  have HE : Hid (argF ckV ms r c P = E) := hE
  rw [hE] at HC hno
  have HW0 : Hid _ := hW0
  clear hG hO hF hA hl hV hU hE hW0
  by_cases h0 : E = 0
  · subst h0
    have hno2 : 4096 < r * c := by omega
    obtain ⟨b1, b2, b3, b4⟩ := arg_ok HE.out
    obtain ⟨_, e2, e3⟩ := one_mul b1 b2 b3 b4
    obtain ⟨q, hq⟩ : ∃ q, r * c = q := ⟨_, rfl⟩
    rw [hq] at hno2 e2 e3
    clear hno
    go_enter Tryz.func5, Tryz.ntmps5
    go_wp2_with (first
      | (go_at_call 19; rw [HW0.out]; refine HC.mono ?_; rintro e w1 ⟨rfl, hF1⟩; have g2 := (HH.out _ hF1).1.c2; have g3 := (HH.out _ hF1).1.c3; have hO1 := (HH.out _ hF1).2)
      | (refine wpList_store_arr rfl (.tmp 2) (.tmp 18) rfl (w.heap.size + 1) 0 0 none 0 0 rfl rfl hO1 ?_; intro W hW hFW))
    exact bodyPost_ret (aret2d Tryz.results5 _ _ _ rfl rfl hW) rfl ⟨rfl, (HF.out.trans hF1).new hFW (by omega)⟩
  · have q0 : (E == 0) = false := by simpa using h0
    clear hno
    go_enter Tryz.func5, Tryz.ntmps5
    go_wp2_with (first
      | (go_at_call 19; rw [HW0.out]; refine HC.mono ?_; rintro e w1 ⟨rfl, hF1⟩; have hO1 := (HH.out _ hF1).2)
      | (refine wpList_store_arr rfl (.tmp 2) (.tmp 18) rfl (w.heap.size + 1) 0 0 none 0 0 rfl rfl hO1 ?_; intro W hW hFW))
    exact bodyPost_ret (aret2d Tryz.results5 _ _ _ rfl rfl hW) rfl ⟨rfl, (HF.out.trans hF1).new hFW (by omega)⟩
set_option maxRecDepth 100000 in
set_option maxHeartbeats 4000000 in
theorem pdense_ok (rf ms : Bool) (R C : Nat) (ao : Option Addr) (cap : Nat) (P : List Pl) (w : World) (hA : PsAt w ao P) (hl : P.length ≤ 140737488355328) (hV : ∀ p ∈ P, Vok p.v) (hU : U8 w) (hz : argF ckV ms (R : Int) (C : Int) P = 0) (h4 : R * C ≤ 4096) :
    Calls Tryz.prog 5 #[.agg #[.bool rf, .bool ms, .int .i64 (R : Int), .int .i64 (C : Int), .slice ao P.length cap]] w fun e w' => ∃ b, e = .returned (.tuple #[.agg #[.int .i64 (R : Int), .int .i64 (C : Int), .slice (some ⟨b, 0, none⟩) (R * C) (R * C)], .bool true]) ∧ VsAt w' (some ⟨b, 0, none⟩) (dnsF (C : Int) P (List.replicate (R * C) nilV)) ∧ Fr noB w w' := by
  obtain ⟨W0, hW0⟩ : ∃ W0, (w.alloc (.cells #[.bool rf, .bool ms, .int .i64 (R : Int), .int .i64 (C : Int), .slice ao P.length cap] 24 (0, 0))).alloc (.cells #[.int .i64 0, .int .i64 0, .slice none 0 0] 27 (0, 0)) = W0 := ⟨_, rfl⟩
  have hG : GAt W0 w.heap.size rf ms R C ao P.length cap := by rw [← hW0]; exact ⟨old1 (new1 _ _ _ rfl)⟩
  have hO : AAt W0 (w.heap.size + 1) 0 0 none 0 0 := by rw [← hW0]; exact ⟨new1 _ _ _ (by simp)⟩
  have hF : Fr noB w W0 := by rw [← hW0]; exact ((Fr.refl noB w).alloc _).alloc _
  have hs : W0.heap.size = w.heap.size + 1 + 1 := by rw [← hW0]; simp
  have HC := parg_any rf ms R C ao cap P W0 (hA.keep hF) hl hV (hU.fr hF)
  rw [hz] at HC
  have HH : Hid (∀ W, Fr noB W0 W → GAt W w.heap.size rf ms R C ao P.length cap ∧ AAt W (w.heap.size + 1) 0 0 none 0 0) := fun W h => ⟨hG.fr h id, hO.fr h id⟩
  have HF0 : Hid (Fr noB w W0 ∧ W0.heap.size = w.heap.size + 1 + 1) := ⟨hF, hs⟩
  have HZ : Hid (∀ (i : Nat) (hi : i < P.length), ∃ a b : Nat, P[i].r = (a : Int) ∧ P[i].c = (b : Int) ∧ a < R ∧ b < C ∧ a * C + b < R * C) := arg_num hz
  have HA : Hid (PsAt w ao P) := hA
  have HV : Hid (∀ p ∈ P, Vok p.v) := hV
  obtain ⟨b1, b2, b3, b4⟩ := arg_ok hz
  have HW0 : Hid _ := hW0
  clear hG hO hF hA hV hU hW0 hz hs
  obtain ⟨q, hq⟩ : ∃ q, R * C = q := ⟨_, rfl⟩
  have hqi : (R : Int) * (C : Int) = (q : Int) := by rw [← hq]; exact (Int.natCast_mul R C).symm
  have HQ : Hid (R * C = q) := hq
  rw [hq] at h4 HZ ⊢
  clear hq
  obtain ⟨n, hn⟩ : ∃ n, P.length = n := ⟨_, rfl⟩
  have HN : Hid (P.length = n) := hn
  rw [hn] at HC HH hl HW0 ⊢
  clear hn
  obtain ⟨Zo, hmk, hmr⟩ := make_row q h4
  have HM : Hid (∀ W : World, RowV (W.alloc Zo) W.heap.size (List.replicate q nilV)) := hmr
  clear hmr
  go_enter Tryz.func5, Tryz.ntmps5
  go_wp2_with (go_at_call 19; rw [HW0.out]; refine HC.mono ?_; rintro e w1 ⟨rfl, hF1⟩; have g2 := (HH.out _ hF1).1.c2; have g3 := (HH.out _ hF1).1.c3; have g4 := (HH.out _ hF1).1.c4; have hlt : w.heap.size < w1.heap.size := lt_of_block (HH.out _ hF1).1.o)
  go_cut [4] from 18 to 29 (fun v wc => ∃ b o, v = .pointer (some ⟨o, 0, none⟩) ∧ Hid (DnI w1 b o R C q (List.replicate q nilV) wc ∧ o ≠ b ∧ w1.heap.size ≤ b ∧ w1.heap.size ≤ o))
  case first =>
    go_region
    · go_wp2_with fail
      go_meet
      have hk := HM.out w1
      exact ⟨w1.heap.size, w1.heap.size + 1, rfl, ⟨⟨new1 _ _ _ (by simp)⟩, (hk.fr ((Fr.refl noB _).alloc _) id).fr (Fr.refl noB _).drew id, (((Fr.refl noB w1).alloc _).alloc _).drew⟩, by omega, by omega, by omega⟩
    · go_wp2_with fail
      go_meet
      have hk := HM.out (w1.alloc (.cells #[.int .i64 (R : Int), .int .i64 (C : Int), .slice (some ⟨w1.heap.size + 1, 0, none⟩) q q] 27 (0, 0)))
      have e : (w1.alloc (.cells #[.int .i64 (R : Int), .int .i64 (C : Int), .slice (some ⟨w1.heap.size + 1, 0, none⟩) q q] 27 (0, 0))).heap.size = w1.heap.size + 1 := by simp
      rw [e] at hk
      exact ⟨w1.heap.size + 1, w1.heap.size, rfl, ⟨⟨old1 (new1 _ _ _ rfl)⟩, hk.fr (Fr.refl noB _).drew id, (((Fr.refl noB w1).alloc _).alloc _).drew⟩, by omega, by omega, by omega⟩
  obtain ⟨b, o, rfl, HX⟩ := hcut
  have HX2 : Hid (DnI w1 b o R C q (List.replicate q nilV) wc ∧ o ≠ b ∧ w1.heap.size ≤ b ∧ w1.heap.size ≤ o ∧ Fr noB W0 w1) := ⟨HX.out.1, HX.out.2.1, HX.out.2.2.1, HX.out.2.2.2, hF1⟩
  clear HX hF1 g2 g3 g4 hlt hmk HM HC b1 b2 b3 b4 hqi
  have y4 := (HH.out wc (HX2.out.2.2.2.2.trans HX2.out.1.fr)).1.c4
  go_wp2_with fail
  clear y4
  go_loopg [33] n (fun gh iv wr => ∃ j : Nat, j ≤ n ∧ gh = n - j ∧ iv = .int .i64 (j : Int) ∧ Hid (DnI w1 b o R C q (dnsF (C : Int) (P.take j) (List.replicate q nilV)) wr))
  case atStart => exact ⟨0, Nat.zero_le _, rfl, rfl, HX2.out.1⟩
  case round =>
    obtain ⟨j, hj, rfl, rfl, HI⟩ := hrel
    by_cases hlt : j < n
    · have hjP : j < P.length := by rw [HN.out]; exact hlt
      have HF : Hid (Fr noB W0 wr) := HX2.out.2.2.2.2.trans HI.out.fr
      obtain ⟨pb, off, rfl, hb, c0, c1, c2, c3, c4, c5, c6⟩ := (HA.out.keep (HF0.out.1.trans HF.out)).get j hjP
      obtain ⟨a, bb, ha, hbb, haR, hbC, hidx⟩ := HZ.out j hjP
      obtain ⟨p, hp⟩ : ∃ p, P[j] = p := ⟨_, rfl⟩
      have hVk : Vok p.v := by rw [← hp]; exact HV.out _ (List.getElem_mem hjP)
      have HSn : Hid (dnsF (C : Int) (P.take (j + 1)) (List.replicate q nilV) = (dnsF (C : Int) (P.take j) (List.replicate q nilV)).set (a * C + bb) p.v) := by
        have h := dnsF_snoc (C : Int) P (List.replicate q nilV) j hjP
        rw [ha, hbb, hp] at h
        have e : ((a : Int) * (C : Int) + (bb : Int)).toNat = a * C + bb := by
          rw [← Int.natCast_mul, ← Int.natCast_add, Int.toNat_natCast]
        rwa [e] at h
      rw [hp] at ha hbb c0 c1 c2 c3 c4 c5 c6
      clear hp hjP
      obtain ⟨pr, pc, ⟨vk, vn, vs, vy, ve⟩⟩ := p
      simp only at c0 c1 c2 c3 c4 c5 c6 ha hbb
      subst ha hbb
      obtain ⟨m0, hm0⟩ : ∃ m0, a * C = m0 := ⟨_, rfl⟩
      have hmi : (a : Int) * (C : Int) = (m0 : Int) := by rw [← hm0]; exact (Int.natCast_mul a C).symm
      rw [hm0] at hidx HSn
      obtain ⟨m, hm⟩ : ∃ m, m0 + bb = m := ⟨_, rfl⟩
      have hms : (m0 : Int) + (bb : Int) = (m : Int) := by omega
      rw [hm] at hidx HSn
      have hm4 : m0 ≤ 4096 := by omega
      have hLn : (dnsF (C : Int) (P.take j) (List.replicate q nilV)).length = q := by rw [dnsF_len, List.length_replicate]
      have HLn : Hid (m < (dnsF (C : Int) (P.take j) (List.replicate q nilV)).length) := by rw [hLn]; exact hidx
      generalize dnsF (C : Int) (P.take j) (List.replicate q nilV) = L at HI HSn HLn
      clear hm0 hm hLn hbC haR
      have hmq : (m : Int) < (q : Int) := by omega
      have hm00 : (0 : Int) ≤ (m : Int) := by omega
      have hw0 : IntKind.i64.wrap (m0 : Int) = (m0 : Int) := by rw [IntKind.wrap_i64]; omega
      have hw1 : IntKind.i64.wrap (m : Int) = (m : Int) := by rw [IntKind.wrap_i64]; omega
      have HC2 : ∀ W, _ := own_any vk vn vs vy ve hVk.2
      have g3 := (HH.out _ HF.out).1.c3
      have glt := lt_of_block (HH.out _ HF.out).1.o
      have x2 := HI.out.a.d2
      have xlt := lt_of_block HI.out.a.o
      clear hVk
      have HPx : Hid (∀ W, Fr noB (wr.alloc (.cells #[.int .i64 (a : Int), .int .i64 (bb : Int), .int .i64 vk, .float .f64 vn, .string vs, .bool vy, .int .i64 ve] 48 (0, 0))) W → W.cell? ⟨o, 2, none⟩ = some (.slice (some ⟨b, 0, none⟩) q q) ∧ W.cell? ⟨w.heap.size, 3, none⟩ = some (.int .i64 (C : Int)) ∧ W.cell? ⟨wr.heap.size, 0, none⟩ = some (.int .i64 (a : Int)) ∧ W.cell? ⟨wr.heap.size, 1, none⟩ = some (.int .i64 (bb : Int)) ∧ W.cell? ⟨wr.heap.size, 2, none⟩ = some (.int .i64 vk) ∧ W.cell? ⟨wr.heap.size, 3, none⟩ = some (.float .f64 vn) ∧ W.cell? ⟨wr.heap.size, 4, none⟩ = some (.string vs) ∧ W.cell? ⟨wr.heap.size, 5, none⟩ = some (.bool vy) ∧ W.cell? ⟨wr.heap.size, 6, none⟩ = some (.int .i64 ve)) := fun W h => ⟨(HI.out.keep (((Fr.refl noB wr).alloc _).trans h)).a.d2, (HH.out _ (HF.out.trans (((Fr.refl noB wr).alloc _).trans h))).1.c3, cellOf (o := 0) (h.obj (new1 wr (.cells #[.int .i64 (a : Int), .int .i64 (bb : Int), .int .i64 vk, .float .f64 vn, .string vs, .bool vy, .int .i64 ve] 48 (0, 0)) _ rfl) id) rfl, cellOf (o := 1) (h.obj (new1 wr (.cells #[.int .i64 (a : Int), .int .i64 (bb : Int), .int .i64 vk, .float .f64 vn, .string vs, .bool vy, .int .i64 ve] 48 (0, 0)) _ rfl) id) rfl, cellOf (o := 2) (h.obj (new1 wr (.cells #[.int .i64 (a : Int), .int .i64 (bb : Int), .int .i64 vk, .float .f64 vn, .string vs, .bool vy, .int .i64 ve] 48 (0, 0)) _ rfl) id) rfl, cellOf (o := 3) (h.obj (new1 wr (.cells #[.int .i64 (a : Int), .int .i64 (bb : Int), .int .i64 vk, .float .f64 vn, .string vs, .bool vy, .int .i64 ve] 48 (0, 0)) _ rfl) id) rfl, cellOf (o := 4) (h.obj (new1 wr (.cells #[.int .i64 (a : Int), .int .i64 (bb : Int), .int .i64 vk, .float .f64 vn, .string vs, .bool vy, .int .i64 ve] 48 (0, 0)) _ rfl) id) rfl, cellOf (o := 5) (h.obj (new1 wr (.cells #[.int .i64 (a : Int), .int .i64 (bb : Int), .int .i64 vk, .float .f64 vn, .string vs, .bool vy, .int .i64 ve] 48 (0, 0)) _ rfl) id) rfl, cellOf (o := 6) (h.obj (new1 wr (.cells #[.int .i64 (a : Int), .int .i64 (bb : Int), .int .i64 vk, .float .f64 vn, .string vs, .bool vy, .int .i64 ve] 48 (0, 0)) _ rfl) id) rfl⟩
      have HPz : Hid (∀ W, Fr noB (wr.alloc (.cells #[.int .i64 (a : Int), .int .i64 (bb : Int), .int .i64 vk, .float .f64 vn, .string vs, .bool vy, .int .i64 ve] 48 (0, 0))) W → (((((W.setCell ⟨b, m * 5, none⟩ (.int .i64 vk)).setCell ⟨b, m * 5 + 1, none⟩ (.float .f64 vn)).setCell ⟨b, m * 5 + 2, none⟩ (.string vs)).setCell ⟨b, m * 5 + 3, none⟩ (.bool vy)).setCell ⟨b, m * 5 + 4, none⟩ (.int .i64 ve)).cell? ⟨o, 2, none⟩ = some (.slice (some ⟨b, 0, none⟩) q q) ∧ (((((W.setCell ⟨b, m * 5, none⟩ (.int .i64 vk)).setCell ⟨b, m * 5 + 1, none⟩ (.float .f64 vn)).setCell ⟨b, m * 5 + 2, none⟩ (.string vs)).setCell ⟨b, m * 5 + 3, none⟩ (.bool vy)).setCell ⟨b, m * 5 + 4, none⟩ (.int .i64 ve)).cell? ⟨w.heap.size, 3, none⟩ = some (.int .i64 (C : Int)) ∧ (((((W.setCell ⟨b, m * 5, none⟩ (.int .i64 vk)).setCell ⟨b, m * 5 + 1, none⟩ (.float .f64 vn)).setCell ⟨b, m * 5 + 2, none⟩ (.string vs)).setCell ⟨b, m * 5 + 3, none⟩ (.bool vy)).setCell ⟨b, m * 5 + 4, none⟩ (.int .i64 ve)).cell? ⟨wr.heap.size, 0, none⟩ = some (.int .i64 (a : Int)) ∧ (((((W.setCell ⟨b, m * 5, none⟩ (.int .i64 vk)).setCell ⟨b, m * 5 + 1, none⟩ (.float .f64 vn)).setCell ⟨b, m * 5 + 2, none⟩ (.string vs)).setCell ⟨b, m * 5 + 3, none⟩ (.bool vy)).setCell ⟨b, m * 5 + 4, none⟩ (.int .i64 ve)).cell? ⟨wr.heap.size, 1, none⟩ = some (.int .i64 (bb : Int)) ∧ (((((W.setCell ⟨b, m * 5, none⟩ (.int .i64 vk)).setCell ⟨b, m * 5 + 1, none⟩ (.float .f64 vn)).setCell ⟨b, m * 5 + 2, none⟩ (.string vs)).setCell ⟨b, m * 5 + 3, none⟩ (.bool vy)).setCell ⟨b, m * 5 + 4, none⟩ (.int .i64 ve)).cell? ⟨wr.heap.size, 2, none⟩ = some (.int .i64 vk) ∧ (((((W.setCell ⟨b, m * 5, none⟩ (.int .i64 vk)).setCell ⟨b, m * 5 + 1, none⟩ (.float .f64 vn)).setCell ⟨b, m * 5 + 2, none⟩ (.string vs)).setCell ⟨b, m * 5 + 3, none⟩ (.bool vy)).setCell ⟨b, m * 5 + 4, none⟩ (.int .i64 ve)).cell? ⟨wr.heap.size, 3, none⟩ = some (.float .f64 vn) ∧ (((((W.setCell ⟨b, m * 5, none⟩ (.int .i64 vk)).setCell ⟨b, m * 5 + 1, none⟩ (.float .f64 vn)).setCell ⟨b, m * 5 + 2, none⟩ (.string vs)).setCell ⟨b, m * 5 + 3, none⟩ (.bool vy)).setCell ⟨b, m * 5 + 4, none⟩ (.int .i64 ve)).cell? ⟨wr.heap.size, 4, none⟩ = some (.string vs) ∧ (((((W.setCell ⟨b, m * 5, none⟩ (.int .i64 vk)).setCell ⟨b, m * 5 + 1, none⟩ (.float .f64 vn)).setCell ⟨b, m * 5 + 2, none⟩ (.string vs)).setCell ⟨b, m * 5 + 3, none⟩ (.bool vy)).setCell ⟨b, m * 5 + 4, none⟩ (.int .i64 ve)).cell? ⟨wr.heap.size, 5, none⟩ = some (.bool vy) ∧ (((((W.setCell ⟨b, m * 5, none⟩ (.int .i64 vk)).setCell ⟨b, m * 5 + 1, none⟩ (.float .f64 vn)).setCell ⟨b, m * 5 + 2, none⟩ (.string vs)).setCell ⟨b, m * 5 + 3, none⟩ (.bool vy)).setCell ⟨b, m * 5 + 4, none⟩ (.int .i64 ve)).cell? ⟨wr.heap.size, 6, none⟩ = some (.int .i64 ve)) := fun W h => by
        have k := fr5o (Fr.refl (oneB b) W) b (m * 5) (Or.inl rfl) (.int .i64 vk) (.float .f64 vn) (.string vs) (.bool vy) (.int .i64 ve)
        have l1 : o ≠ b := HX2.out.2.1
        have l2 : w.heap.size ≠ b := by have h1 := HX2.out.2.2.1; have h2 := HX2.out.2.2.2.2.size; have h3 := HF0.out.2; omega
        have l3 : wr.heap.size ≠ b := by have h1 := HI.out.r.lt; omega
        have hq := HPx.out W h
        have c : ∀ (a : Addr) (v : Value), a.block ≠ b → W.cell? a = some v → (((((W.setCell ⟨b, m * 5, none⟩ (.int .i64 vk)).setCell ⟨b, m * 5 + 1, none⟩ (.float .f64 vn)).setCell ⟨b, m * 5 + 2, none⟩ (.string vs)).setCell ⟨b, m * 5 + 3, none⟩ (.bool vy)).setCell ⟨b, m * 5 + 4, none⟩ (.int .i64 ve)).cell? a = some v := fun a v ha hv => (k.cell (World.block_lt_of_cell? W a hv) ha).trans hv
        exact ⟨c _ _ l1 hq.1, c _ _ l2 hq.2.1, c _ _ l3 hq.2.2.1, c _ _ l3 hq.2.2.2.1, c _ _ l3 hq.2.2.2.2.1, c _ _ l3 hq.2.2.2.2.2.1, c _ _ l3 hq.2.2.2.2.2.2.1, c _ _ l3 hq.2.2.2.2.2.2.2.1, c _ _ l3 hq.2.2.2.2.2.2.2.2⟩
      clear g3 glt x2 xlt
      go_wp2_with fail
      go_region_held3 (fun W => W.cell? ⟨o, 2, none⟩ = some (.slice (some ⟨b, 0, none⟩) q q) ∧ W.cell? ⟨w.heap.size, 3, none⟩ = some (.int .i64 (C : Int)) ∧ W.cell? ⟨wr.heap.size, 0, none⟩ = some (.int .i64 (a : Int)) ∧ W.cell? ⟨wr.heap.size, 1, none⟩ = some (.int .i64 (bb : Int)) ∧ W.cell? ⟨wr.heap.size, 2, none⟩ = some (.int .i64 vk) ∧ W.cell? ⟨wr.heap.size, 3, none⟩ = some (.float .f64 vn) ∧ W.cell? ⟨wr.heap.size, 4, none⟩ = some (.string vs) ∧ W.cell? ⟨wr.heap.size, 5, none⟩ = some (.bool vy) ∧ W.cell? ⟨wr.heap.size, 6, none⟩ = some (.int .i64 ve))
        (first | with_reducible exact HPx.out _ (Fr.refl _ _) | with_reducible exact HPx.out _ ((Fr.refl _ _).drew) | with_reducible exact HPx.out _ (Fr.trans ((Fr.refl _ _).drew) hF2) | with_reducible exact HPz.out _ (Fr.trans ((Fr.refl _ _).drew) hF2) | fail)
        ((go_at_call 20; with_reducible refine (HC2 _).mono ?_; rintro e w2 ⟨rfl, hF2⟩; have hG2 : Fr noB wr w2 := ((Fr.refl noB wr).alloc _).trans (Fr.trans (by repeat first | exact Fr.refl _ _ | refine Fr.drew ?_ | refine Fr.drewN ?_ _) hF2); obtain ⟨y0, y1, y2, y3, y4⟩ := (HI.out.keep hG2).r.at m HLn.out; obtain ⟨z0, z1, z2, z3, z4⟩ := (HI.out.keep hG2).r.free m HLn.out))
      have HNx : Hid (DnI w1 b o R C q (L.set m ⟨vk, vn, vs, vy, ve⟩) (((((w2.setCell ⟨b, m * 5, none⟩ (.int .i64 vk)).setCell ⟨b, m * 5 + 1, none⟩ (.float .f64 vn)).setCell ⟨b, m * 5 + 2, none⟩ (.string vs)).setCell ⟨b, m * 5 + 3, none⟩ (.bool vy)).setCell ⟨b, m * 5 + 4, none⟩ (.int .i64 ve))) := (HI.out.keep hG2).set HX2.out.2.1 HX2.out.2.2.1 m HLn.out ⟨vk, vn, vs, vy, ve⟩
      clear y0 y1 y2 y3 y4 z0 z1 z2 z3 z4 hG2 hF2
      generalize ((((w2.setCell ⟨b, m * 5, none⟩ (.int .i64 vk)).setCell ⟨b, m * 5 + 1, none⟩ (.float .f64 vn)).setCell ⟨b, m * 5 + 2, none⟩ (.string vs)).setCell ⟨b, m * 5 + 3, none⟩ (.bool vy)).setCell ⟨b, m * 5 + 4, none⟩ (.int .i64 ve) = W3 at *
      rw [← HSn.out] at HNx
      go_wp2_with fail
      go_roundg (n - (j + 1))
      case measure => omega
      case rel => exact ⟨j + 1, by omega, rfl, by go_num, HNx⟩
    · obtain rfl : j = n := by omega
      have e0 : P.take j = P := by rw [← HN.out, List.take_length]
      rw [e0] at HI
      have x0 := HI.out.a.d0
      have x1 := HI.out.a.d1
      have x2 := HI.out.a.d2
      have hO1 := (HH.out _ (HX2.out.2.2.2.2.trans HI.out.fr)).2
      go_wp2_with (refine wpList_store_arr rfl (.tmp 2) (.tmp 52) rfl (w.heap.size + 1) (R : Int) (C : Int) (some ⟨b, 0, none⟩) q q rfl rfl hO1 ?_; intro W hW hFW)
      refine bodyPost_ret (aret2d Tryz.results5 _ _ _ rfl rfl hW) rfl ⟨b, rfl, ?_, ((HF0.out.1.trans HX2.out.2.2.2.2).trans HI.out.fr).new hFW (by omega)⟩
      refine HI.out.r.vs.keep1 hFW (fun b' o' hb' => ?_)
      injection hb' with hb'
      injection hb' with hb'
      have h1 := HX2.out.2.2.1
      have h2 := HX2.out.2.2.2.2.size
      have h3 := HF0.out.2
      omega
#print axioms pdense_no
#print axioms pdense_ok
end Go.Proofs.YtpjbobbmldplbaaGreatDoor
/- The document's Dense: an argument as an array. -/
namespace Go.Proofs.YtpjbobbmldplbaaGreatDoor
open Go.RowKit Ieee Go.Shelf
attribute [local go_sem] run_store_float

set_option maxRecDepth 100000 in
set_option maxHeartbeats 4000000 in
theorem rdense_no (rf ms : Bool) (r c : Int) (ao : Option Addr) (cap : Nat) (P : List Pl) (w : World) (hA : PsAt w ao P) (hl : P.length ≤ 140737488355328) (hV : ∀ p ∈ P, Vok p.v) (hU : U8 w) (hno : argF ckV ms r c P ≠ 0 ∨ 4096 < r * c) :
    Calls Tryz.prog 6 #[.agg #[.bool rf, .bool ms, .int .i64 r, .int .i64 c, .slice ao P.length cap]] w fun e w' => e = .returned (.tuple #[.agg #[.int .i64 0, .int .i64 0, .slice none 0 0], .bool false]) ∧ Fr noB w w' := by
  obtain ⟨W0, hW0⟩ : ∃ W0, (w.alloc (.cells #[.bool rf, .bool ms, .int .i64 r, .int .i64 c, .slice ao P.length cap] 24 (0, 0))).alloc (.cells #[.int .i64 0, .int .i64 0, .slice none 0 0] 27 (0, 0)) = W0 := ⟨_, rfl⟩
  have hG : GAt W0 w.heap.size rf ms r c ao P.length cap := by rw [← hW0]; exact ⟨old1 (new1 _ _ _ rfl)⟩
  have hO : AAt W0 (w.heap.size + 1) 0 0 none 0 0 := by rw [← hW0]; exact ⟨new1 _ _ _ (by simp)⟩
  have hF : Fr noB w W0 := by rw [← hW0]; exact ((Fr.refl noB w).alloc _).alloc _
  have HC := rarg_any rf ms r c ao cap P W0 (hA.keep hF) hl hV (hU.fr hF)
  have HH : Hid (∀ W, Fr noB W0 W → GAt W w.heap.size rf ms r c ao P.length cap ∧ AAt W (w.heap.size + 1) 0 0 none 0 0) := fun W h => ⟨hG.fr h id, hO.fr h id⟩
  have HF : Hid (Fr noB w W0) := hF
  obtain ⟨E, hE⟩ : ∃ E, argF ckV ms r c P = E := ⟨_, rfl⟩
  have HE : Hid (argF ckV ms r c P = E) := hE
  rw [hE] at HC hno
  have HW0 : Hid _ := hW0
  clear hG hO hF hA hl hV hU hE hW0
  by_cases h0 : E = 0
  · subst h0
    have hno2 : 4096 < r * c := by omega
    obtain ⟨b1, b2, b3, b4⟩ := arg_ok HE.out
    obtain ⟨_, e2, e3⟩ := one_mul b1 b2 b3 b4
    obtain ⟨q, hq⟩ : ∃ q, r * c = q := ⟨_, rfl⟩
    rw [hq] at hno2 e2 e3
    clear hno
    go_enter Tryz.func6, Tryz.ntmps6
    go_wp2_with (first
      | (go_at_call 21; rw [HW0.out]; refine HC.mono ?_; rintro e w1 ⟨rfl, hF1⟩; have g2 := (HH.out _ hF1).1.c2; have g3 := (HH.out _ hF1).1.c3; have hO1 := (HH.out _ hF1).2)
      | (refine wpList_store_arr rfl (.tmp 2) (.tmp 17) rfl (w.heap.size + 1) 0 0 none 0 0 rfl rfl hO1 ?_; intro W hW hFW))
    exact bodyPost_ret (aret2d Tryz.results6 _ _ _ rfl rfl hW) rfl ⟨rfl, (HF.out.trans hF1).new hFW (by omega)⟩
  · have q0 : (E == 0) = false := by simpa using h0
    clear hno
    go_enter Tryz.func6, Tryz.ntmps6
    go_wp2_with (first
      | (go_at_call 21; rw [HW0.out]; refine HC.mono ?_; rintro e w1 ⟨rfl, hF1⟩; have hO1 := (HH.out _ hF1).2)
      | (refine wpList_store_arr rfl (.tmp 2) (.tmp 17) rfl (w.heap.size + 1) 0 0 none 0 0 rfl rfl hO1 ?_; intro W hW hFW))
    exact bodyPost_ret (aret2d Tryz.results6 _ _ _ rfl rfl hW) rfl ⟨rfl, (HF.out.trans hF1).new hFW (by omega)⟩
set_option maxRecDepth 100000 in
set_option maxHeartbeats 4000000 in
theorem rdense_ok (rf ms : Bool) (R C : Nat) (ao : Option Addr) (cap : Nat) (P : List Pl) (w : World) (hA : PsAt w ao P) (hl : P.length ≤ 140737488355328) (hV : ∀ p ∈ P, Vok p.v) (hU : U8 w) (hz : argF ckV ms (R : Int) (C : Int) P = 0) (h4 : R * C ≤ 4096) :
    Calls Tryz.prog 6 #[.agg #[.bool rf, .bool ms, .int .i64 (R : Int), .int .i64 (C : Int), .slice ao P.length cap]] w fun e w' => ∃ b, e = .returned (.tuple #[.agg #[.int .i64 (R : Int), .int .i64 (C : Int), .slice (some ⟨b, 0, none⟩) (R * C) (R * C)], .bool true]) ∧ VsAt w' (some ⟨b, 0, none⟩) (dnsF (C : Int) P (List.replicate (R * C) nilV)) ∧ Fr noB w w' := by
  obtain ⟨W0, hW0⟩ : ∃ W0, (w.alloc (.cells #[.bool rf, .bool ms, .int .i64 (R : Int), .int .i64 (C : Int), .slice ao P.length cap] 24 (0, 0))).alloc (.cells #[.int .i64 0, .int .i64 0, .slice none 0 0] 27 (0, 0)) = W0 := ⟨_, rfl⟩
  have hG : GAt W0 w.heap.size rf ms R C ao P.length cap := by rw [← hW0]; exact ⟨old1 (new1 _ _ _ rfl)⟩
  have hO : AAt W0 (w.heap.size + 1) 0 0 none 0 0 := by rw [← hW0]; exact ⟨new1 _ _ _ (by simp)⟩
  have hF : Fr noB w W0 := by rw [← hW0]; exact ((Fr.refl noB w).alloc _).alloc _
  have hs : W0.heap.size = w.heap.size + 1 + 1 := by rw [← hW0]; simp
  have HC := rarg_any rf ms R C ao cap P W0 (hA.keep hF) hl hV (hU.fr hF)
  rw [hz] at HC
  have HH : Hid (∀ W, Fr noB W0 W → GAt W w.heap.size rf ms R C ao P.length cap ∧ AAt W (w.heap.size + 1) 0 0 none 0 0) := fun W h => ⟨hG.fr h id, hO.fr h id⟩
  have HF0 : Hid (Fr noB w W0 ∧ W0.heap.size = w.heap.size + 1 + 1) := ⟨hF, hs⟩
  have HZ : Hid (∀ (i : Nat) (hi : i < P.length), ∃ a b : Nat, P[i].r = (a : Int) ∧ P[i].c = (b : Int) ∧ a < R ∧ b < C ∧ a * C + b < R * C) := arg_num hz
  have HA : Hid (PsAt w ao P) := hA
  have HV : Hid (∀ p ∈ P, Vok p.v) := hV
  obtain ⟨b1, b2, b3, b4⟩ := arg_ok hz
  have HW0 : Hid _ := hW0
  clear hG hO hF hA hV hU hW0 hz hs
  obtain ⟨q, hq⟩ : ∃ q, R * C = q := ⟨_, rfl⟩
  have hqi : (R : Int) * (C : Int) = (q : Int) := by rw [← hq]; exact (Int.natCast_mul R C).symm
  have HQ : Hid (R * C = q) := hq
  rw [hq] at h4 HZ ⊢
  clear hq
  obtain ⟨n, hn⟩ : ∃ n, P.length = n := ⟨_, rfl⟩
  have HN : Hid (P.length = n) := hn
  rw [hn] at HC HH hl HW0 ⊢
  clear hn
  obtain ⟨Zo, hmk, hmr⟩ := make_row q h4
  have HM : Hid (∀ W : World, RowV (W.alloc Zo) W.heap.size (List.replicate q nilV)) := hmr
  clear hmr
  go_enter Tryz.func6, Tryz.ntmps6
  go_wp2_with (go_at_call 21; rw [HW0.out]; refine HC.mono ?_; rintro e w1 ⟨rfl, hF1⟩; have g2 := (HH.out _ hF1).1.c2; have g3 := (HH.out _ hF1).1.c3; have g4 := (HH.out _ hF1).1.c4; have hlt : w.heap.size < w1.heap.size := lt_of_block (HH.out _ hF1).1.o)
  go_cut [4] from 17 to 28 (fun v wc => ∃ b o, v = .pointer (some ⟨o, 0, none⟩) ∧ Hid (DnI w1 b o R C q (List.replicate q nilV) wc ∧ o ≠ b ∧ w1.heap.size ≤ b ∧ w1.heap.size ≤ o))
  case first =>
    go_region
    · go_wp2_with fail
      go_meet
      have hk := HM.out w1
      exact ⟨w1.heap.size, w1.heap.size + 1, rfl, ⟨⟨new1 _ _ _ (by simp)⟩, (hk.fr ((Fr.refl noB _).alloc _) id).fr (Fr.refl noB _).drew id, (((Fr.refl noB w1).alloc _).alloc _).drew⟩, by omega, by omega, by omega⟩
    · go_wp2_with fail
      go_meet
      have hk := HM.out (w1.alloc (.cells #[.int .i64 (R : Int), .int .i64 (C : Int), .slice (some ⟨w1.heap.size + 1, 0, none⟩) q q] 27 (0, 0)))
      have e : (w1.alloc (.cells #[.int .i64 (R : Int), .int .i64 (C : Int), .slice (some ⟨w1.heap.size + 1, 0, none⟩) q q] 27 (0, 0))).heap.size = w1.heap.size + 1 := by simp
      rw [e] at hk
      exact ⟨w1.heap.size + 1, w1.heap.size, rfl, ⟨⟨old1 (new1 _ _ _ rfl)⟩, hk.fr (Fr.refl noB _).drew id, (((Fr.refl noB w1).alloc _).alloc _).drew⟩, by omega, by omega, by omega⟩
  obtain ⟨b, o, rfl, HX⟩ := hcut
  have HX2 : Hid (DnI w1 b o R C q (List.replicate q nilV) wc ∧ o ≠ b ∧ w1.heap.size ≤ b ∧ w1.heap.size ≤ o ∧ Fr noB W0 w1) := ⟨HX.out.1, HX.out.2.1, HX.out.2.2.1, HX.out.2.2.2, hF1⟩
  clear HX hF1 g2 g3 g4 hlt hmk HM HC b1 b2 b3 b4 hqi
  have y4 := (HH.out wc (HX2.out.2.2.2.2.trans HX2.out.1.fr)).1.c4
  go_wp2_with fail
  clear y4
  go_loopg [5] n (fun gh iv wr => ∃ j : Nat, j ≤ n ∧ gh = n - j ∧ iv = .int .i64 (j : Int) ∧ Hid (DnI w1 b o R C q (dnsF (C : Int) (P.take j) (List.replicate q nilV)) wr))
  case atStart => exact ⟨0, Nat.zero_le _, rfl, rfl, HX2.out.1⟩
  case round =>
    obtain ⟨j, hj, rfl, rfl, HI⟩ := hrel
    by_cases hlt : j < n
    · have hjP : j < P.length := by rw [HN.out]; exact hlt
      have HF : Hid (Fr noB W0 wr) := HX2.out.2.2.2.2.trans HI.out.fr
      obtain ⟨pb, off, he, hb, c0, c1, c2, c3, c4, c5, c6⟩ := (HA.out.keep (HF0.out.1.trans HF.out)).get j hjP
      have HPb : Hid (pb < w.heap.size) := by
        obtain ⟨pb', off', he', hb', _⟩ := HA.out.get j hjP
        rw [he] at he'
        injection he' with he'
        injection he' with he'
        rw [he']
        exact hb'
      subst he
      clear hb
      obtain ⟨a, bb, ha, hbb, haR, hbC, hidx⟩ := HZ.out j hjP
      obtain ⟨p, hp⟩ : ∃ p, P[j] = p := ⟨_, rfl⟩
      have hVk : Vok p.v := by rw [← hp]; exact HV.out _ (List.getElem_mem hjP)
      have HSn : Hid (dnsF (C : Int) (P.take (j + 1)) (List.replicate q nilV) = (dnsF (C : Int) (P.take j) (List.replicate q nilV)).set (a * C + bb) p.v) := by
        have h := dnsF_snoc (C : Int) P (List.replicate q nilV) j hjP
        rw [ha, hbb, hp] at h
        have e : ((a : Int) * (C : Int) + (bb : Int)).toNat = a * C + bb := by
          rw [← Int.natCast_mul, ← Int.natCast_add, Int.toNat_natCast]
        rwa [e] at h
      rw [hp] at ha hbb c0 c1 c2 c3 c4 c5 c6
      clear hp hjP
      obtain ⟨pr, pc, ⟨vk, vn, vs, vy, ve⟩⟩ := p
      simp only at c0 c1 c2 c3 c4 c5 c6 ha hbb
      subst ha hbb
      obtain ⟨m0, hm0⟩ : ∃ m0, a * C = m0 := ⟨_, rfl⟩
      have hmi : (a : Int) * (C : Int) = (m0 : Int) := by rw [← hm0]; exact (Int.natCast_mul a C).symm
      rw [hm0] at hidx HSn
      obtain ⟨m, hm⟩ : ∃ m, m0 + bb = m := ⟨_, rfl⟩
      have hms : (m0 : Int) + (bb : Int) = (m : Int) := by omega
      rw [hm] at hidx HSn
      have hm4 : m0 ≤ 4096 := by omega
      have hLn : (dnsF (C : Int) (P.take j) (List.replicate q nilV)).length = q := by rw [dnsF_len, List.length_replicate]
      have HLn : Hid (m < (dnsF (C : Int) (P.take j) (List.replicate q nilV)).length) := by rw [hLn]; exact hidx
      generalize dnsF (C : Int) (P.take j) (List.replicate q nilV) = L at HI HSn HLn
      clear hm0 hm hLn hbC haR
      have hmq : (m : Int) < (q : Int) := by omega
      have hm00 : (0 : Int) ≤ (m : Int) := by omega
      have hw0 : IntKind.i64.wrap (m0 : Int) = (m0 : Int) := by rw [IntKind.wrap_i64]; omega
      have hw1 : IntKind.i64.wrap (m : Int) = (m : Int) := by rw [IntKind.wrap_i64]; omega
      have i1 : (j : Int) < (n : Int) := by omega
      have i2 : (0 : Int) ≤ (j : Int) := by omega
      have hbw : pb < w.heap.size := HPb.out
      have HPx : Hid (∀ W, Fr noB wr W → W.cell? ⟨o, 2, none⟩ = some (.slice (some ⟨b, 0, none⟩) q q) ∧ W.cell? ⟨w.heap.size, 3, none⟩ = some (.int .i64 (C : Int)) ∧ W.cell? ⟨w.heap.size, 4, none⟩ = some (.slice (some ⟨pb, off, none⟩) n cap) ∧ W.cell? ⟨pb, off + j * 7, none⟩ = some (.int .i64 (a : Int)) ∧ W.cell? ⟨pb, off + j * 7 + 1, none⟩ = some (.int .i64 (bb : Int)) ∧ W.cell? ⟨pb, off + j * 7 + 2, none⟩ = some (.int .i64 vk) ∧ W.cell? ⟨pb, off + j * 7 + 3, none⟩ = some (.float .f64 vn) ∧ W.cell? ⟨pb, off + j * 7 + 4, none⟩ = some (.string vs) ∧ W.cell? ⟨pb, off + j * 7 + 5, none⟩ = some (.bool vy) ∧ W.cell? ⟨pb, off + j * 7 + 6, none⟩ = some (.int .i64 ve)) := fun W h => ⟨(HI.out.keep h).a.d2, (HH.out _ (HF.out.trans h)).1.c3, (HH.out _ (HF.out.trans h)).1.c4, (h.cell (World.block_lt_of_cell? wr _ c0) id).trans c0, (h.cell (World.block_lt_of_cell? wr _ c1) id).trans c1, (h.cell (World.block_lt_of_cell? wr _ c2) id).trans c2, (h.cell (World.block_lt_of_cell? wr _ c3) id).trans c3, (h.cell (World.block_lt_of_cell? wr _ c4) id).trans c4, (h.cell (World.block_lt_of_cell? wr _ c5) id).trans c5, (h.cell (World.block_lt_of_cell? wr _ c6) id).trans c6⟩
      have HPz : Hid (∀ W, Fr noB wr W → (((((W.setCell ⟨b, m * 5, none⟩ (.int .i64 vk)).setCell ⟨b, m * 5 + 1, none⟩ (.float .f64 vn)).setCell ⟨b, m * 5 + 2, none⟩ (.string vs)).setCell ⟨b, m * 5 + 3, none⟩ (.bool vy)).setCell ⟨b, m * 5 + 4, none⟩ (.int .i64 ve)).drew.cell? ⟨o, 2, none⟩ = some (.slice (some ⟨b, 0, none⟩) q q) ∧ (((((W.setCell ⟨b, m * 5, none⟩ (.int .i64 vk)).setCell ⟨b, m * 5 + 1, none⟩ (.float .f64 vn)).setCell ⟨b, m * 5 + 2, none⟩ (.string vs)).setCell ⟨b, m * 5 + 3, none⟩ (.bool vy)).setCell ⟨b, m * 5 + 4, none⟩ (.int .i64 ve)).drew.cell? ⟨w.heap.size, 3, none⟩ = some (.int .i64 (C : Int)) ∧ (((((W.setCell ⟨b, m * 5, none⟩ (.int .i64 vk)).setCell ⟨b, m * 5 + 1, none⟩ (.float .f64 vn)).setCell ⟨b, m * 5 + 2, none⟩ (.string vs)).setCell ⟨b, m * 5 + 3, none⟩ (.bool vy)).setCell ⟨b, m * 5 + 4, none⟩ (.int .i64 ve)).drew.cell? ⟨w.heap.size, 4, none⟩ = some (.slice (some ⟨pb, off, none⟩) n cap) ∧ (((((W.setCell ⟨b, m * 5, none⟩ (.int .i64 vk)).setCell ⟨b, m * 5 + 1, none⟩ (.float .f64 vn)).setCell ⟨b, m * 5 + 2, none⟩ (.string vs)).setCell ⟨b, m * 5 + 3, none⟩ (.bool vy)).setCell ⟨b, m * 5 + 4, none⟩ (.int .i64 ve)).drew.cell? ⟨pb, off + j * 7, none⟩ = some (.int .i64 (a : Int)) ∧ (((((W.setCell ⟨b, m * 5, none⟩ (.int .i64 vk)).setCell ⟨b, m * 5 + 1, none⟩ (.float .f64 vn)).setCell ⟨b, m * 5 + 2, none⟩ (.string vs)).setCell ⟨b, m * 5 + 3, none⟩ (.bool vy)).setCell ⟨b, m * 5 + 4, none⟩ (.int .i64 ve)).drew.cell? ⟨pb, off + j * 7 + 1, none⟩ = some (.int .i64 (bb : Int)) ∧ (((((W.setCell ⟨b, m * 5, none⟩ (.int .i64 vk)).setCell ⟨b, m * 5 + 1, none⟩ (.float .f64 vn)).setCell ⟨b, m * 5 + 2, none⟩ (.string vs)).setCell ⟨b, m * 5 + 3, none⟩ (.bool vy)).setCell ⟨b, m * 5 + 4, none⟩ (.int .i64 ve)).drew.cell? ⟨pb, off + j * 7 + 2, none⟩ = some (.int .i64 vk) ∧ (((((W.setCell ⟨b, m * 5, none⟩ (.int .i64 vk)).setCell ⟨b, m * 5 + 1, none⟩ (.float .f64 vn)).setCell ⟨b, m * 5 + 2, none⟩ (.string vs)).setCell ⟨b, m * 5 + 3, none⟩ (.bool vy)).setCell ⟨b, m * 5 + 4, none⟩ (.int .i64 ve)).drew.cell? ⟨pb, off + j * 7 + 3, none⟩ = some (.float .f64 vn) ∧ (((((W.setCell ⟨b, m * 5, none⟩ (.int .i64 vk)).setCell ⟨b, m * 5 + 1, none⟩ (.float .f64 vn)).setCell ⟨b, m * 5 + 2, none⟩ (.string vs)).setCell ⟨b, m * 5 + 3, none⟩ (.bool vy)).setCell ⟨b, m * 5 + 4, none⟩ (.int .i64 ve)).drew.cell? ⟨pb, off + j * 7 + 4, none⟩ = some (.string vs) ∧ (((((W.setCell ⟨b, m * 5, none⟩ (.int .i64 vk)).setCell ⟨b, m * 5 + 1, none⟩ (.float .f64 vn)).setCell ⟨b, m * 5 + 2, none⟩ (.string vs)).setCell ⟨b, m * 5 + 3, none⟩ (.bool vy)).setCell ⟨b, m * 5 + 4, none⟩ (.int .i64 ve)).drew.cell? ⟨pb, off + j * 7 + 5, none⟩ = some (.bool vy) ∧ (((((W.setCell ⟨b, m * 5, none⟩ (.int .i64 vk)).setCell ⟨b, m * 5 + 1, none⟩ (.float .f64 vn)).setCell ⟨b, m * 5 + 2, none⟩ (.string vs)).setCell ⟨b, m * 5 + 3, none⟩ (.bool vy)).setCell ⟨b, m * 5 + 4, none⟩ (.int .i64 ve)).drew.cell? ⟨pb, off + j * 7 + 6, none⟩ = some (.int .i64 ve)) := fun W h => by
        have k := (fr5o (Fr.refl (oneB b) W) b (m * 5) (Or.inl rfl) (.int .i64 vk) (.float .f64 vn) (.string vs) (.bool vy) (.int .i64 ve)).drew
        have l1 : o ≠ b := HX2.out.2.1
        have l2 : w.heap.size ≠ b := by have h1 := HX2.out.2.2.1; have h2 := HX2.out.2.2.2.2.size; have h3 := HF0.out.2; omega
        have l3 : pb ≠ b := by have h1 := HX2.out.2.2.1; have h2 := HX2.out.2.2.2.2.size; have h3 := HF0.out.2; omega
        have hq := HPx.out W h
        have c : ∀ (a : Addr) (v : Value), a.block ≠ b → W.cell? a = some v → (((((W.setCell ⟨b, m * 5, none⟩ (.int .i64 vk)).setCell ⟨b, m * 5 + 1, none⟩ (.float .f64 vn)).setCell ⟨b, m * 5 + 2, none⟩ (.string vs)).setCell ⟨b, m * 5 + 3, none⟩ (.bool vy)).setCell ⟨b, m * 5 + 4, none⟩ (.int .i64 ve)).drew.cell? a = some v := fun a v ha hv => (k.cell (World.block_lt_of_cell? W a hv) ha).trans hv
        exact ⟨c _ _ l1 hq.1, c _ _ l2 hq.2.1, c _ _ l2 hq.2.2.1, c _ _ l3 hq.2.2.2.1, c _ _ l3 hq.2.2.2.2.1, c _ _ l3 hq.2.2.2.2.2.1, c _ _ l3 hq.2.2.2.2.2.2.1, c _ _ l3 hq.2.2.2.2.2.2.2.1, c _ _ l3 hq.2.2.2.2.2.2.2.2.1, c _ _ l3 hq.2.2.2.2.2.2.2.2.2⟩
      have y44 := (HH.out _ HF.out).1.c4
      clear hVk c0 c1 c2 c3 c4 c5 c6
      go_wp2_with fail
      clear y44
      obtain ⟨y0, y1, y2, y3, y4⟩ := HI.out.r.at m HLn.out
      obtain ⟨z0, z1, z2, z3, z4⟩ := HI.out.r.free m HLn.out
      have hG2 : Fr noB wr wr := Fr.refl _ _
      go_region_held3 (fun W => W.cell? ⟨o, 2, none⟩ = some (.slice (some ⟨b, 0, none⟩) q q) ∧ W.cell? ⟨w.heap.size, 3, none⟩ = some (.int .i64 (C : Int)) ∧ W.cell? ⟨w.heap.size, 4, none⟩ = some (.slice (some ⟨pb, off, none⟩) n cap) ∧ W.cell? ⟨pb, off + j * 7, none⟩ = some (.int .i64 (a : Int)) ∧ W.cell? ⟨pb, off + j * 7 + 1, none⟩ = some (.int .i64 (bb : Int)) ∧ W.cell? ⟨pb, off + j * 7 + 2, none⟩ = some (.int .i64 vk) ∧ W.cell? ⟨pb, off + j * 7 + 3, none⟩ = some (.float .f64 vn) ∧ W.cell? ⟨pb, off + j * 7 + 4, none⟩ = some (.string vs) ∧ W.cell? ⟨pb, off + j * 7 + 5, none⟩ = some (.bool vy) ∧ W.cell? ⟨pb, off + j * 7 + 6, none⟩ = some (.int .i64 ve))
        (first | with_reducible exact HPx.out _ (Fr.refl _ _) | with_reducible exact HPx.out _ ((Fr.refl _ _).drew) | with_reducible exact HPz.out _ (Fr.refl _ _) | with_reducible exact HPz.out _ ((Fr.refl _ _).drew) | fail)
        (fail)
      have HNx : Hid (DnI w1 b o R C q (L.set m ⟨vk, vn, vs, vy, ve⟩) ((((((wr.setCell ⟨b, m * 5, none⟩ (.int .i64 vk)).setCell ⟨b, m * 5 + 1, none⟩ (.float .f64 vn)).setCell ⟨b, m * 5 + 2, none⟩ (.string vs)).setCell ⟨b, m * 5 + 3, none⟩ (.bool vy)).setCell ⟨b, m * 5 + 4, none⟩ (.int .i64 ve)).drew)) := (HI.out.set HX2.out.2.1 HX2.out.2.2.1 m HLn.out ⟨vk, vn, vs, vy, ve⟩).keep ((Fr.refl noB _).drew)
      clear y0 y1 y2 y3 y4 z0 z1 z2 z3 z4 hG2
      generalize (((((wr.setCell ⟨b, m * 5, none⟩ (.int .i64 vk)).setCell ⟨b, m * 5 + 1, none⟩ (.float .f64 vn)).setCell ⟨b, m * 5 + 2, none⟩ (.string vs)).setCell ⟨b, m * 5 + 3, none⟩ (.bool vy)).setCell ⟨b, m * 5 + 4, none⟩ (.int .i64 ve)).drew = W3 at *
      rw [← HSn.out] at HNx
      go_wp2_with fail
      go_roundg (n - (j + 1))
      case measure => omega
      case rel => exact ⟨j + 1, by omega, rfl, by go_num, HNx⟩
    · obtain rfl : j = n := by omega
      have e0 : P.take j = P := by rw [← HN.out, List.take_length]
      rw [e0] at HI
      have y4 := (HH.out _ (HX2.out.2.2.2.2.trans HI.out.fr)).1.c4
      have x0 := HI.out.a.d0
      have x1 := HI.out.a.d1
      have x2 := HI.out.a.d2
      have hO1 := (HH.out _ (HX2.out.2.2.2.2.trans HI.out.fr)).2
      go_wp2_with (refine wpList_store_arr rfl (.tmp 2) (.tmp 61) rfl (w.heap.size + 1) (R : Int) (C : Int) (some ⟨b, 0, none⟩) q q rfl rfl hO1 ?_; intro W hW hFW)
      refine bodyPost_ret (aret2d Tryz.results6 _ _ _ rfl rfl hW) rfl ⟨b, rfl, ?_, ((HF0.out.1.trans HX2.out.2.2.2.2).trans HI.out.fr).new hFW (by omega)⟩
      refine HI.out.r.vs.keep1 hFW (fun b' o' hb' => ?_)
      injection hb' with hb'
      injection hb' with hb'
      have h1 := HX2.out.2.2.1
      have h2 := HX2.out.2.2.2.2.size
      have h3 := HF0.out.2
      omega
#print axioms rdense_no
#print axioms rdense_ok
end Go.Proofs.YtpjbobbmldplbaaGreatDoor
