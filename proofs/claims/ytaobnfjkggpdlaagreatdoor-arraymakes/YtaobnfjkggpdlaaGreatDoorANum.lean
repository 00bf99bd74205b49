/- Operators on two numbers: sums, differences, products, quotients; Binary. -/
import Derived.Test.YtaobnfjkggpdlaaGreatDoorANuO
import Derived.Test.YtaobnfjkggpdlaaGreatDoorVCkP
namespace Go.Proofs.YtaobnfjkggpdlaaGreatDoor
open Go.RowKit Ieee Go.Shelf
attribute [local go_sem] run_store_float

set_option maxRecDepth 100000 in
set_option maxHeartbeats 1000000 in
theorem sum_any (x y r : Nat) (h : floatBits .add .f64 x y = some r) (hr : r < 18446744073709551616) (w : World) : Calls Tryz.prog 83 #[.float .f64 x, .float .f64 y] w fun e w' => e = .returned (.agg #[.int .i64 (rkK r), .float .f64 (rkN r), .string ⟨#[]⟩, .bool false, .int .i64 (rkE r)]) ∧ Fr noB w w' := by
  have HR := preckon_any r hr
  have ho : ∀ W, (binOp .add 41 (.float .f64 x) (.float .f64 y)).run Tryz.prog W = .ok (.float .f64 r) W := fun W => run_float_arith W .add 41 .f64 x y r h
  have HA : Hid (VAt (w.alloc (.cells #[.int .i64 0, .float .f64 0, .string ⟨#[]⟩, .bool false, .int .i64 0] 43 (0, 0))) w.heap.size 0 0 ⟨#[]⟩ false 0 ∧ Fr noB w (w.alloc (.cells #[.int .i64 0, .float .f64 0, .string ⟨#[]⟩, .bool false, .int .i64 0] 43 (0, 0)))) := VAt.new
  generalize rkK r = K at *
  generalize rkN r = M at *
  generalize rkE r = E at *
  clear h hr
  go_enter Tryz.func83, Tryz.ntmps83
  go_wp2_with (first
    | (go_at_call 71; refine (HR _).mono ?_; rintro e w1 ⟨rfl, hF1⟩; have hO1 := HA.out.1.fr hF1 id; have hG1 := HA.out.2.trans hF1)
    | (refine wpList_store_val rfl (.tmp 4) (.tmp 8) rfl w.heap.size K M ⟨#[]⟩ false E rfl rfl hO1 ?_; intro W hW hFW; have hG := hG1.new hFW (Nat.le_refl _)))
  exact bodyPost_ret (vret Tryz.results83 _ _ _ rfl hW) rfl ⟨rfl, hG⟩
set_option maxRecDepth 100000 in
set_option maxHeartbeats 1000000 in
theorem diff_any (x y r : Nat) (h : floatBits .sub .f64 x y = some r) (hr : r < 18446744073709551616) (w : World) : Calls Tryz.prog 84 #[.float .f64 x, .float .f64 y] w fun e w' => e = .returned (.agg #[.int .i64 (rkK r), .float .f64 (rkN r), .string ⟨#[]⟩, .bool false, .int .i64 (rkE r)]) ∧ Fr noB w w' := by
  have HR := preckon_any r hr
  have ho : ∀ W, (binOp .sub 41 (.float .f64 x) (.float .f64 y)).run Tryz.prog W = .ok (.float .f64 r) W := fun W => run_float_arith W .sub 41 .f64 x y r h
  have HA : Hid (VAt (w.alloc (.cells #[.int .i64 0, .float .f64 0, .string ⟨#[]⟩, .bool false, .int .i64 0] 43 (0, 0))) w.heap.size 0 0 ⟨#[]⟩ false 0 ∧ Fr noB w (w.alloc (.cells #[.int .i64 0, .float .f64 0, .string ⟨#[]⟩, .bool false, .int .i64 0] 43 (0, 0)))) := VAt.new
  generalize rkK r = K at *
  generalize rkN r = M at *
  generalize rkE r = E at *
  clear h hr
  go_enter Tryz.func84, Tryz.ntmps84
  go_wp2_with (first
    | (go_at_call 71; refine (HR _).mono ?_; rintro e w1 ⟨rfl, hF1⟩; have hO1 := HA.out.1.fr hF1 id; have hG1 := HA.out.2.trans hF1)
    | (refine wpList_store_val rfl (.tmp 4) (.tmp 8) rfl w.heap.size K M ⟨#[]⟩ false E rfl rfl hO1 ?_; intro W hW hFW; have hG := hG1.new hFW (Nat.le_refl _)))
  exact bodyPost_ret (vret Tryz.results84 _ _ _ rfl hW) rfl ⟨rfl, hG⟩
set_option maxRecDepth 100000 in
set_option maxHeartbeats 1000000 in
theorem prod_any (x y r : Nat) (h : floatBits .mul .f64 x y = some r) (hr : r < 18446744073709551616) (w : World) : Calls Tryz.prog 81 #[.float .f64 x, .float .f64 y] w fun e w' => e = .returned (.agg #[.int .i64 (rkK r), .float .f64 (rkN r), .string ⟨#[]⟩, .bool false, .int .i64 (rkE r)]) ∧ Fr noB w w' := by
  have HR := preckon_any r hr
  have ho : ∀ W, (binOp .mul 41 (.float .f64 x) (.float .f64 y)).run Tryz.prog W = .ok (.float .f64 r) W := fun W => run_float_arith W .mul 41 .f64 x y r h
  have HA : Hid (VAt (w.alloc (.cells #[.int .i64 0, .float .f64 0, .string ⟨#[]⟩, .bool false, .int .i64 0] 43 (0, 0))) w.heap.size 0 0 ⟨#[]⟩ false 0 ∧ Fr noB w (w.alloc (.cells #[.int .i64 0, .float .f64 0, .string ⟨#[]⟩, .bool false, .int .i64 0] 43 (0, 0)))) := VAt.new
  generalize rkK r = K at *
  generalize rkN r = M at *
  generalize rkE r = E at *
  clear h hr
  go_enter Tryz.func81, Tryz.ntmps81
  go_wp2_with (first
    | (go_at_call 71; refine (HR _).mono ?_; rintro e w1 ⟨rfl, hF1⟩; have hO1 := HA.out.1.fr hF1 id; have hG1 := HA.out.2.trans hF1)
    | (refine wpList_store_val rfl (.tmp 4) (.tmp 8) rfl w.heap.size K M ⟨#[]⟩ false E rfl rfl hO1 ?_; intro W hW hFW; have hG := hG1.new hFW (Nat.le_refl _)))
  exact bodyPost_ret (vret Tryz.results81 _ _ _ rfl hW) rfl ⟨rfl, hG⟩
set_option maxRecDepth 100000 in
set_option maxHeartbeats 1000000 in
theorem quot_any (x y r : Nat) (h : floatBits .quo .f64 x y = some r) (hr : r < 18446744073709551616) (hz : (FloatKind.f64.format.order y 0 == some .eq) = false) (w : World) : Calls Tryz.prog 82 #[.float .f64 x, .float .f64 y] w fun e w' => e = .returned (.agg #[.int .i64 (rkK r), .float .f64 (rkN r), .string ⟨#[]⟩, .bool false, .int .i64 (rkE r)]) ∧ Fr noB w w' := by
  have HR := preckon_any r hr
  have ho : ∀ W, (binOp .quo 41 (.float .f64 x) (.float .f64 y)).run Tryz.prog W = .ok (.float .f64 r) W := fun W => run_float_arith W .quo 41 .f64 x y r h
  have HA : Hid (VAt (w.alloc (.cells #[.int .i64 0, .float .f64 0, .string ⟨#[]⟩, .bool false, .int .i64 0] 43 (0, 0))) w.heap.size 0 0 ⟨#[]⟩ false 0 ∧ Fr noB w (w.alloc (.cells #[.int .i64 0, .float .f64 0, .string ⟨#[]⟩, .bool false, .int .i64 0] 43 (0, 0)))) := VAt.new
  generalize rkK r = K at *
  generalize rkN r = M at *
  generalize rkE r = E at *
  clear h hr
  go_enter Tryz.func82, Tryz.ntmps82
  go_wp2_with (first
    | (go_at_call 71; refine (HR _).mono ?_; rintro e w1 ⟨rfl, hF1⟩; have hO1 := HA.out.1.fr hF1 id; have hG1 := HA.out.2.trans hF1)
    | (refine wpList_store_val rfl (.tmp 4) (.tmp 11) rfl w.heap.size K M ⟨#[]⟩ false E rfl rfl hO1 ?_; intro W hW hFW; have hG := hG1.new hFW (Nat.le_refl _)))
  exact bodyPost_ret (vret Tryz.results82 _ _ _ rfl hW) rfl ⟨rfl, hG⟩
theorem fm_num {x : Nat} (hf : finB x = true) (hz : x ≠ 9223372036854775808) : ckF 1 x ⟨#[]⟩ false 0 = 0 := by
  simp [ckF, fm, hf, hz]
  decide
set_option maxRecDepth 100000 in
set_option maxHeartbeats 2000000 in
theorem binary_of (k g x y : Nat) (h : (k = 12 ∧ g = 79) ∨ (k = 13 ∧ g = 81) ∨ (k = 14 ∧ g = 82) ∨ (k = 15 ∧ g = 83) ∨ (k = 16 ∧ g = 84)) (hx : x < 18446744073709551616) (hy : y < 18446744073709551616) (hfx : finB x = true) (hfy : finB y = true) (hzx : x ≠ 9223372036854775808) (hzy : y ≠ 9223372036854775808)
    (K : Int) (M : Nat) (E : Int) (hg : ∀ W, Calls Tryz.prog g #[.float .f64 x, .float .f64 y] W fun e w' => e = .returned (.agg #[.int .i64 K, .float .f64 M, .string ⟨#[]⟩, .bool false, .int .i64 E]) ∧ Fr noB W w') (w : World) (hU : U8 w) :
    Calls Tryz.prog 33 #[.int .i64 (k : Int), (.agg #[.int .i64 1, .float .f64 x, .string ⟨#[]⟩, .bool false, .int .i64 0]), (.agg #[.int .i64 1, .float .f64 y, .string ⟨#[]⟩, .bool false, .int .i64 0])] w fun e w' => e = .returned (.agg #[.int .i64 K, .float .f64 M, .string ⟨#[]⟩, .bool false, .int .i64 E]) ∧ Fr noB w w' := by
  have hc : ∀ (l : Array Value) (W : World), (callFunc g l).run Tryz.prog W = .ok (.enter g l) W := by
    intro l W
    rcases h with ⟨_, rfl⟩ | ⟨_, rfl⟩ | ⟨_, rfl⟩ | ⟨_, rfl⟩ | ⟨_, rfl⟩ <;> kernel_rfl
  have HK : Hid (∀ W, Fr noB w W → Calls Tryz.prog 40 #[(.agg #[.int .i64 1, .float .f64 x, .string ⟨#[]⟩, .bool false, .int .i64 0])] W fun e w' => e = .returned (.int .i64 0) ∧ Fr noB W w') := by
    intro W hF
    have hh := pcheck_any 1 x hx ⟨#[]⟩ false 0 W (by decide) (hU.fr hF)
    rw [fm_num hfx hzx] at hh
    exact hh
  have HL : Hid (∀ W, Fr noB w W → Calls Tryz.prog 40 #[(.agg #[.int .i64 1, .float .f64 y, .string ⟨#[]⟩, .bool false, .int .i64 0])] W fun e w' => e = .returned (.int .i64 0) ∧ Fr noB W w') := by
    intro W hF
    have hh := pcheck_any 1 y hy ⟨#[]⟩ false 0 W (by decide) (hU.fr hF)
    rw [fm_num hfy hzy] at hh
    exact hh
  have HB := binary_num k g h
  have HN := numeric_of g x y hx hy hfx hfy hzx hzy K M E hg hc
  have hN : NQ w (((w.alloc (.cells #[.int .i64 1, .float .f64 x, .string ⟨#[]⟩, .bool false, .int .i64 0] 43 (0, 0))).alloc (.cells #[.int .i64 1, .float .f64 y, .string ⟨#[]⟩, .bool false, .int .i64 0] 43 (0, 0))).alloc (.cells #[.int .i64 0, .float .f64 0, .string ⟨#[]⟩, .bool false, .int .i64 0] 43 (0, 0))) x y := ⟨⟨old1 (old1 (new1 _ _ _ rfl))⟩, ⟨old1 (new1 _ _ _ (by simp))⟩, ⟨new1 _ _ _ (by simp)⟩, (((Fr.refl noB w).alloc _).alloc _).alloc _, by simp⟩
  have HQ : ∀ W', Fr noB (((w.alloc (.cells #[.int .i64 1, .float .f64 x, .string ⟨#[]⟩, .bool false, .int .i64 0] 43 (0, 0))).alloc (.cells #[.int .i64 1, .float .f64 y, .string ⟨#[]⟩, .bool false, .int .i64 0] 43 (0, 0))).alloc (.cells #[.int .i64 0, .float .f64 0, .string ⟨#[]⟩, .bool false, .int .i64 0] 43 (0, 0))) W' → NQ w W' x y := fun _ hF => hN.fr hF
  have HF0 : Hid (Fr noB w (((w.alloc (.cells #[.int .i64 1, .float .f64 x, .string ⟨#[]⟩, .bool false, .int .i64 0] 43 (0, 0))).alloc (.cells #[.int .i64 1, .float .f64 y, .string ⟨#[]⟩, .bool false, .int .i64 0] 43 (0, 0))).alloc (.cells #[.int .i64 0, .float .f64 0, .string ⟨#[]⟩, .bool false, .int .i64 0] 43 (0, 0)))) := hN.2.2.2.1
  clear hx hy hfx hfy hzx hzy hg hc hU h hN
  go_enter Tryz.func33, Tryz.ntmps33
  go_wp2_with (first
    | (go_at_call 40; with_reducible refine (HK.out _ HF0.out).mono ?_; rintro e w1 ⟨rfl, hF1⟩; have n1 := HQ _ hF1; have y0 := n1.py.c0; have y1 := n1.py.c1; have y2 := n1.py.c2; have y3 := n1.py.c3; have y4 := n1.py.c4)
    | (go_at_call 40; with_reducible refine (HL.out _ n1.pf).mono ?_; rintro e w2 ⟨rfl, hF2⟩; have n2 := n1.fr hF2))
  refine wp_region_held_drew (S := fun W => VAt W w.heap.size 1 x ⟨#[]⟩ false 0 ∧ VAt W (w.heap.size + 1) 1 y ⟨#[]⟩ false 0) (by kernel_rfl) ⟨n2.px.fr (Fr.refl noB w2).drew id, n2.py.fr (Fr.refl noB w2).drew id⟩ (fun hHeld => ?_)
  refine wpAnyH_take (i := 0) (v := .int .i64 (k : Int)) rfl (by kernel_rfl) (by kernel_rfl) (by kernel_rfl) (fun _ _ _ h => h) (Or.inl ⟨by kernel_rfl, fun w hSw => by kernel_rfl⟩) hHeld ?_
  refine wpAnyH_take (i := 2) (v := (.agg #[.int .i64 1, .float .f64 x, .string ⟨#[]⟩, .bool false, .int .i64 0])) rfl (by kernel_rfl) (by kernel_rfl) (by kernel_rfl) (fun _ _ _ h => h) (y_loadH 43 (.tmp 4) (.pointer (some ⟨w.heap.size, 0, none⟩)) _ (by kernel_rfl) rfl (by kernel_rfl) (fun w h => load_v h.1)) hHeld ?_
  refine wpAnyH_take (i := 3) (v := (.agg #[.int .i64 1, .float .f64 y, .string ⟨#[]⟩, .bool false, .int .i64 0])) rfl (by kernel_rfl) (by kernel_rfl) (by kernel_rfl) (fun _ _ _ h => h) (y_loadH 43 (.tmp 5) (.pointer (some ⟨w.heap.size + 1, 0, none⟩)) _ (by kernel_rfl) rfl (by kernel_rfl) (fun w h => load_v h.2)) hHeld ?_
  refine wpAnyH_ready (rs := [1]) (by kernel_rfl) (by simp) ?_
  refine AllReadyH.cons rfl (fun KK hK => ?_) AllReadyH.nil
  (with_reducible refine ite_inH ?_ ?_)
  · kernel_rfl
  (with_reducible refine wp_goH 57 #[.int .i64 (k : Int)] ?_ ?_)
  · kernel_rfl
  (with_reducible refine (HB _).mono ?_)
  rintro e w3 ⟨rfl, hF3⟩
  have n3 := (n2.fr (Fr.refl noB w2).drew).fr hF3
  refine hK.out _ _ ⟨n3.px, n3.py⟩ (fun hHeld => ?_)
  clear hK KK
  refine wpAnyH_ready (rs := [4]) (by kernel_rfl) (by simp) ?_
  refine AllReadyH.cons rfl (fun KK hK => ?_) AllReadyH.nil
  (with_reducible refine ite_inH ?_ ?_)
  · kernel_rfl
  (with_reducible refine wp_goH 80 #[.func (.func g) #[] #[], (.agg #[.int .i64 1, .float .f64 x, .string ⟨#[]⟩, .bool false, .int .i64 0]), (.agg #[.int .i64 1, .float .f64 y, .string ⟨#[]⟩, .bool false, .int .i64 0])] ?_ ?_)
  · kernel_rfl
  (with_reducible refine (HN _).mono ?_)
  rintro e w4 ⟨rfl, hF4⟩
  have n4 := n3.fr hF4
  refine hK.out _ _ ⟨n4.px, n4.py⟩ (fun hHeld => ?_)
  clear hK KK
  refine wpAnyH_ready (rs := [5]) (by kernel_rfl) (by simp) ?_
  refine AllReadyH.cons rfl (fun KK hK => ?_) AllReadyH.nil
  (with_reducible refine ite_inH ?_ ?_)
  · kernel_rfl
  (with_reducible refine wp_storeV (.tmp 6) (.tmp 20) ?_ (w.heap.size + 1 + 1) K M ⟨#[]⟩ false E ?_ ?_ n4.po ?_)
  · kernel_rfl
  · kernel_rfl
  · kernel_rfl
  intro w5 hV5 hG5
  have hG := n4.pf.new hG5 (by omega)
  refine hK.out _ _ ⟨n4.px.keep hG5 (by omega), n4.py.keep hG5 (by omega)⟩ (fun _ => ?_)
  clear hK KK
  refine wpAnyH_done (by kernel_rfl) ?_ _
  refine fr_toH { tmps := #[.int .i64 (k : Int), (.agg #[.int .i64 1, .float .f64 x, .string ⟨#[]⟩, .bool false, .int .i64 0]), (.agg #[.int .i64 1, .float .f64 y, .string ⟨#[]⟩, .bool false, .int .i64 0]), undef, .pointer (some ⟨w.heap.size, 0, none⟩), .pointer (some ⟨w.heap.size + 1, 0, none⟩), .pointer (some ⟨w.heap.size + 1 + 1, 0, none⟩), (.agg #[.int .i64 1, .float .f64 x, .string ⟨#[]⟩, .bool false, .int .i64 0]), .int .i64 0, .bool false, .bool false, (.agg #[.int .i64 1, .float .f64 y, .string ⟨#[]⟩, .bool false, .int .i64 0]), .int .i64 0, .bool false, .bool false, undef, .int .i64 (k : Int), numF g, (.agg #[.int .i64 1, .float .f64 x, .string ⟨#[]⟩, .bool false, .int .i64 0]), (.agg #[.int .i64 1, .float .f64 y, .string ⟨#[]⟩, .bool false, .int .i64 0]), (.agg #[.int .i64 K, .float .f64 M, .string ⟨#[]⟩, .bool false, .int .i64 E])], defers := [] } (by kernel_rfl) ?_
  go_wp2_with fail
  exact bodyPost_ret (vret Tryz.results33 _ _ _ rfl hV5) rfl ⟨rfl, hG⟩
#print axioms binary_of
end Go.Proofs.YtaobnfjkggpdlaaGreatDoor
