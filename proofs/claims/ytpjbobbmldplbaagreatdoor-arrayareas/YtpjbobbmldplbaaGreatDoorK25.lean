/- Powers of two: power and Binary. -/
import Derived.Test.YtpjbobbmldplbaaGreatDoorK21
import Derived.Test.YtpjbobbmldplbaaGreatDoorASqu
import Derived.Laws.Externs
import Derived.Test.YtpjbobbmldplbaaGreatDoorAOne
import Derived.Test.YtpjbobbmldplbaaGreatDoorASam
namespace Go.Proofs.YtpjbobbmldplbaaGreatDoor
open Go.RowKit Ieee Go.Shelf
attribute [local go_sem] run_store_float

theorem ext_trunc (args : Array Value) (w : World) : (callFunc 81 args).run Tryz.prog w = ((Extern.MathFloor.toIntegral "math.archTrunc" .zero args).run Tryz.prog w).andThen fun v w' => .ok (.value v) w' :=
  run_callFunc_extern Tryz.func81 (by kernel_rfl) (by kernel_rfl) (by kernel_rfl) (by kernel_rfl) args w
/-- What is needed of the float of a whole number. -/
structure YB (y : Nat) (n : Int) : Prop where
  lt : y < 18446744073709551616
  nz : y ≠ 9223372036854775808
  fin : finB y = true
  tr : double.write ((double.read y).integral .zero) = y
  eq : double.order y y = some .eq
  le : (double.order (y % 9223372036854775808) 4652218415073722368 == some .gt) = false
  ln : ¬ double.order (y % 9223372036854775808) 4652218415073722368 = none
  ab : floatToIntVal .f64 (y % 9223372036854775808) .u64 = some (n.natAbs : Int)
  neg : (double.order y 0 == some .lt) = decide (n < 0)
theorem yb_of {i : Nat} (h : i < 2046) : YB (yb i) ((i : Int) - 1022) := by
  have hh := yb_ok h
  simp only [ybOk, Bool.and_eq_true, decide_eq_true_eq, beq_iff_eq, bne_iff_ne] at hh
  obtain ⟨⟨⟨⟨⟨⟨⟨⟨a1, a2⟩, a3⟩, a4⟩, a5⟩, a6⟩, a7⟩, a8⟩, a9⟩ := hh
  refine ⟨a1, a2, (fin_iff _).2 a3, a4, a5, by simpa using a6, a9, a7, ?_⟩
  rw [a8]
  exact decide_eq_decide.2 (by omega)
theorem run_trunc {y : Nat} {n : Int} (h : YB y n) (w : World) : (callFunc 81 #[.float .f64 y]).run Tryz.prog w = .ok (.value (.float .f64 y)) w := by
  obtain ⟨s, m, e, hr⟩ := fin_of h.fin
  have hd : FloatKind.f64.decode y = .number s m e := hr
  have he : Extern.MathFloor.toIntegral "math.archTrunc" .zero #[.float .f64 y] = (match FloatKind.f64.decode y with
    | .nan s t =>
      if FloatKind.f64.format.quiet t = t then pure (.float .f64 y) else do
      let kept ← choose (.extern "math.Floor,Ceil,Trunc,RoundToEven.signallingNaN kept" 2)
      pure (.float .f64 (if kept == 1 then y else FloatKind.f64.encode (.nan s (FloatKind.f64.format.quiet t))))
    | d => pure (.float .f64 (FloatKind.f64.encode (d.integral .zero)))) := rfl
  have ht := h.tr
  rw [hr] at ht
  rw [ext_trunc, he, hd]
  show Result.ok (Next.value (Value.float .f64 (double.write ((Datum.number s m e).integral .zero)))) w = _
  rw [ht]
set_option maxRecDepth 100000 in
theorem trunc_yb {y : Nat} {n : Int} (h : YB y n) (w : World) : Calls Tryz.prog 73 #[.float .f64 y] w fun e w' => e = .returned (.float .f64 y) ∧ w' = w := by
  have hr := run_trunc h
  go_enter Tryz.func73, Tryz.ntmps73
  go_wp2_with fail
  go_ret
  exact ⟨rfl, rfl⟩
theorem rk_p2 {k : Nat} (h1 : 1 ≤ k) (h2 : k ≤ 2046) (w : World) : Calls Tryz.prog 56 #[.float .f64 (p2 k)] w fun e w' => e = .returned (.agg #[.int .i64 1, .float .f64 (p2 k), .string ⟨#[]⟩, .bool false, .int .i64 0]) ∧ Fr noB w w' := by
  have hl : p2 k < 18446744073709551616 := by unfold p2; omega
  have hm : p2 k % 9223372036854775808 = p2 k := by unfold p2; omega
  have hf : finB (p2 k) = true := (fin_iff _).2 (by rw [hm]; unfold p2; omega)
  have h := preckon_any (p2 k) hl w
  have e1 : rkK (p2 k) = 1 := by simp [rkK, hf]
  have e2 : rkN (p2 k) = p2 k := by
    simp only [rkN, hf, hm]
    rw [if_neg (by simp), if_neg (by unfold p2; omega)]
  have e3 : rkE (p2 k) = 0 := by simp [rkE, hf]
  rw [e1, e2, e3] at h
  exact h
set_option maxRecDepth 100000 in
set_option maxHeartbeats 1000000 in
theorem whole_yb {y : Nat} {n : Int} (h : YB y n) (h1 : -1022 ≤ n) (h2 : n ≤ 1023) (w : World) : Calls Tryz.prog 75 #[.float .f64 4611686018427387904, .float .f64 y] w fun e w' => e = .returned (.agg #[.int .i64 1, .float .f64 (p2 (n + 1023).toNat), .string ⟨#[]⟩, .bool false, .int .i64 0]) ∧ Fr noB w w' := by
  have HA : ∀ W, _ := abs_any y h.lt
  have HS : ∀ W, _ := squared_any n.natAbs (by omega)
  have hc := h.ab
  have hneg : (FloatKind.f64.format.order y 0 == some .lt) = decide (n < 0) := h.neg
  have HO : Hid (VAt (w.alloc (.cells #[.int .i64 0, .float .f64 0, .string ⟨#[]⟩, .bool false, .int .i64 0] 37 (0, 0))) w.heap.size 0 0 ⟨#[]⟩ false 0 ∧ Fr noB w (w.alloc (.cells #[.int .i64 0, .float .f64 0, .string ⟨#[]⟩, .bool false, .int .i64 0] 37 (0, 0)))) := VAt.new
  have hcv : ∀ W : World, (convert 35 84 (.float .f64 (y % 9223372036854775808))).run Tryz.prog W = .ok (.int .u64 (n.natAbs : Int)) W := fun W => run_convert_float_int W 35 84 .f64 .u64 _ _ (by rw [Tryz.underlying35]; rfl) Tryz.underlying84 hc
  by_cases hn : n < 0
  · rw [decide_eq_true hn] at hneg
    have hq : ∀ W, (binOp .quo 35 (.float .f64 4607182418800017408) (.float .f64 (p2 (n.natAbs + 1023)))).run Tryz.prog W = .ok (.float .f64 (p2 (n + 1023).toNat)) W := fun W => run_float_arith W .quo 35 .f64 _ _ _ (by
      have hh := p2_inv (a := n.natAbs) (by omega)
      rw [show 1023 - n.natAbs = (n + 1023).toNat by omega] at hh
      exact hh)
    have HR : ∀ W, _ := rk_p2 (k := (n + 1023).toNat) (by omega) (by omega)
    generalize (n + 1023).toNat = K at *
    generalize n.natAbs = A at *
    clear h hn h1 h2
    go_enter Tryz.func75, Tryz.ntmps75
    go_wp2_with (first
      | (go_at_call 74; refine (HA _).mono ?_; rintro e w1 ⟨rfl, hw⟩; rw [hw]; clear hw)
      | (go_at_call 84; refine (HS _).mono ?_; rintro e w2 ⟨rfl, hw⟩; rw [hw]; clear hw)
      | (go_at_call 56; refine (HR _).mono ?_; rintro e w3 ⟨rfl, hF3⟩; have hO3 := HO.out.1.fr hF3 id; have hG3 := HO.out.2.trans hF3)
      | (refine wpList_store_val rfl (.tmp 4) (.tmp 16) rfl w.heap.size 1 (p2 K) ⟨#[]⟩ false 0 rfl rfl hO3 ?_; intro W hW hFW; have hG := hG3.new hFW (Nat.le_refl _)))
    exact bodyPost_ret (vret Tryz.results75 _ _ _ rfl hW) rfl ⟨rfl, hG⟩
  · rw [decide_eq_false hn] at hneg
    have hpe : p2 (n.natAbs + 1023) = p2 (n + 1023).toNat := by rw [show n.natAbs + 1023 = (n + 1023).toNat by omega]
    rw [hpe] at HS
    clear hpe
    have HR : ∀ W, _ := rk_p2 (k := (n + 1023).toNat) (by omega) (by omega)
    generalize (n + 1023).toNat = K at *
    generalize n.natAbs = A at *
    clear h hn h1 h2
    go_enter Tryz.func75, Tryz.ntmps75
    go_wp2_with (first
      | (go_at_call 74; refine (HA _).mono ?_; rintro e w1 ⟨rfl, hw⟩; rw [hw]; clear hw)
      | (go_at_call 84; refine (HS _).mono ?_; rintro e w2 ⟨rfl, hw⟩; rw [hw]; clear hw)
      | (go_at_call 56; refine (HR _).mono ?_; rintro e w3 ⟨rfl, hF3⟩; have hO3 := HO.out.1.fr hF3 id; have hG3 := HO.out.2.trans hF3)
      | (refine wpList_store_val rfl (.tmp 4) (.tmp 16) rfl w.heap.size 1 (p2 K) ⟨#[]⟩ false 0 rfl rfl hO3 ?_; intro W hW hFW; have hG := hG3.new hFW (Nat.le_refl _)))
    exact bodyPost_ret (vret Tryz.results75 _ _ _ rfl hW) rfl ⟨rfl, hG⟩
set_option maxRecDepth 100000 in
set_option maxHeartbeats 1000000 in
theorem power_yb {y : Nat} {n : Int} (h : YB y n) (h1 : -1022 ≤ n) (h2 : n ≤ 1023) (w : World) : Calls Tryz.prog 61 #[.float .f64 4611686018427387904, .float .f64 y] w fun e w' => e = .returned (.agg #[.int .i64 1, .float .f64 (p2 (n + 1023).toNat), .string ⟨#[]⟩, .bool false, .int .i64 0]) ∧ Fr noB w w' := by
  have HA : ∀ W, _ := abs_any y h.lt
  have HT : ∀ W, _ := trunc_yb h
  have HW : ∀ W, _ := whole_yb h h1 h2
  have q0 : (FloatKind.f64.format.order 4611686018427387904 0 == some .eq) = false := by decide
  have q1 : (FloatKind.f64.format.order y y == some .eq) = true := by rw [show FloatKind.f64.format.order y y = some .eq from h.eq]; rfl
  have HO : Hid (VAt (w.alloc (.cells #[.int .i64 0, .float .f64 0, .string ⟨#[]⟩, .bool false, .int .i64 0] 37 (0, 0))) w.heap.size 0 0 ⟨#[]⟩ false 0 ∧ Fr noB w (w.alloc (.cells #[.int .i64 0, .float .f64 0, .string ⟨#[]⟩, .bool false, .int .i64 0] 37 (0, 0)))) := VAt.new
  have q2 : (FloatKind.f64.format.order (y % 9223372036854775808) 4652218415073722368 == some .lt || FloatKind.f64.format.order (y % 9223372036854775808) 4652218415073722368 == some .eq) = true := by
    have a := h.le
    have b := h.ln
    change (double.order (y % 9223372036854775808) 4652218415073722368 == some .lt || double.order (y % 9223372036854775808) 4652218415073722368 == some .eq) = true
    generalize double.order (y % 9223372036854775808) 4652218415073722368 = o at *
    cases o with
    | none => exact absurd rfl b
    | some v => cases v <;> first | rfl | (exact absurd a (by decide))
  generalize (n + 1023).toNat = K at *
  clear h h1 h2
  go_enter Tryz.func61, Tryz.ntmps61
  go_wp2_with (first
    | (go_at_call 74; refine (HA _).mono ?_; rintro e w1 ⟨rfl, hw⟩; rw [hw]; clear hw)
    | (go_at_call 73; refine (HT _).mono ?_; rintro e w2 ⟨rfl, hw⟩; rw [hw]; clear hw)
    | (go_at_call 75; refine (HW _).mono ?_; rintro e w3 ⟨rfl, hF3⟩; have hO3 := HO.out.1.fr hF3 id; have hG3 := HO.out.2.trans hF3)
    | (refine wpList_store_val rfl (.tmp 4) (.tmp 33) rfl w.heap.size 1 (p2 K) ⟨#[]⟩ false 0 rfl rfl hO3 ?_; intro W hW hFW; have hG := hG3.new hFW (Nat.le_refl _)))
  exact bodyPost_ret (vret Tryz.results61 _ _ _ rfl hW) rfl ⟨rfl, hG⟩
/-- Two to a whole number. -/
theorem pow_bin {y : Nat} {n : Int} (h : YB y n) (h1 : -1022 ≤ n) (h2 : n ≤ 1023) (w : World) (hU : U8 w) : Calls Tryz.prog 23 #[.int .i64 12, (.agg #[.int .i64 1, .float .f64 4611686018427387904, .string ⟨#[]⟩, .bool false, .int .i64 0]), (.agg #[.int .i64 1, .float .f64 y, .string ⟨#[]⟩, .bool false, .int .i64 0])] w fun e w' => e = .returned (.agg #[.int .i64 1, .float .f64 (p2 (n + 1023).toNat), .string ⟨#[]⟩, .bool false, .int .i64 0]) ∧ Fr noB w w' :=
  binary_of 12 61 4611686018427387904 y (Or.inl ⟨rfl, rfl⟩) (by decide) h.lt (by decide +kernel) h.fin (by decide) h.nz 1 _ 0 (power_yb h h1 h2) w hU
#print axioms pow_bin
#print axioms whole_yb
end Go.Proofs.YtpjbobbmldplbaaGreatDoor
/- begun: the simplest operators come. -/
namespace Go.Proofs.YtpjbobbmldplbaaGreatDoor
open Go.RowKit Ieee Go.Shelf
attribute [local go_sem] run_store_float

set_option maxRecDepth 100000 in
theorem yb_ten : yb 1032 = 4621819117588971520 := by decide +kernel
theorem two_ten (w : World) (hU : U8 w) : Calls Tryz.prog 23 #[.int .i64 12, (.agg #[.int .i64 1, .float .f64 4611686018427387904, .string ⟨#[]⟩, .bool false, .int .i64 0]), (.agg #[.int .i64 1, .float .f64 4621819117588971520, .string ⟨#[]⟩, .bool false, .int .i64 0])] w fun e w' => e = .returned (.agg #[.int .i64 1, .float .f64 4652218415073722368, .string ⟨#[]⟩, .bool false, .int .i64 0]) ∧ Fr noB w w' := by
  have h := yb_of (i := 1032) (by decide)
  rw [yb_ten] at h
  exact pow_bin h (by decide) (by decide) w hU
def twoV : Vv := ⟨1, 4611686018427387904, ⟨#[]⟩, false, 0⟩
set_option maxRecDepth 100000 in
set_option maxHeartbeats 4000000 in
theorem begun_true (w : World) (hU : U8 w) : Calls Tryz.prog 7 #[] w fun e w' => e = .returned (.bool true) ∧ Fr noB w w' := by
  have HU : Hid (∀ W, Fr noB w W → Calls Tryz.prog 23 #[.int .i64 12, (.agg #[.int .i64 1, .float .f64 4611686018427387904, .string ⟨#[]⟩, .bool false, .int .i64 0]), (.agg #[.int .i64 1, .float .f64 4621819117588971520, .string ⟨#[]⟩, .bool false, .int .i64 0])] W fun e w' => e = .returned (.agg #[.int .i64 1, .float .f64 4652218415073722368, .string ⟨#[]⟩, .bool false, .int .i64 0]) ∧ Fr noB W w') := fun W hW => two_ten W (hU.fr hW)
  have H2 : ∀ W, _ := rnum_any 4611686018427387904
  have H10 : ∀ W, _ := rnum_any 4621819117588971520
  have H1k : ∀ W, _ := rnum_any 4652218415073722368
  have HS : ∀ W, _ := rsame_self 1 4652218415073722368 ⟨#[]⟩ false 0
  have HP : Hid (∀ W, Calls Tryz.prog 24 #[(.agg #[.int .i64 1, .float .f64 4611686018427387904, .string ⟨#[]⟩, .bool false, .int .i64 0])] W fun e' w' => ∃ b, e' = .returned (.agg #[.int .i64 1, .int .i64 1, .slice (some ⟨b, 0, none⟩) 1 1]) ∧ VsAt w' (some ⟨b, 0, none⟩) [twoV] ∧ Fr noB W w') := fun W => pone_any twoV (by decide) W
  have HR : Hid (∀ W, Calls Tryz.prog 25 #[(.agg #[.int .i64 1, .float .f64 4611686018427387904, .string ⟨#[]⟩, .bool false, .int .i64 0])] W fun e' w' => ∃ b, e' = .returned (.agg #[.int .i64 1, .int .i64 1, .slice (some ⟨b, 0, none⟩) 1 1]) ∧ VsAt w' (some ⟨b, 0, none⟩) [twoV] ∧ Fr noB W w') := fun W => rone_any twoV W
  have HA : Hid (∀ b1 b2 W, VsAt W (some ⟨b1, 0, none⟩) [twoV] → VsAt W (some ⟨b2, 0, none⟩) [twoV] → Calls Tryz.prog 8 #[.agg #[.int .i64 1, .int .i64 1, .slice (some ⟨b1, 0, none⟩) 1 1], .agg #[.int .i64 1, .int .i64 1, .slice (some ⟨b2, 0, none⟩) 1 1]] W fun e w' => e = .returned (.bool true) ∧ Fr noB W w') := fun b1 b2 W h1 h2 => samearr_self 1 1 _ _ 1 1 [twoV] W h1 h2 (by decide)
  clear hU
  go_enter Tryz.func7, Tryz.ntmps7
  go_wp2_with (go_at_call 22; refine (H2 _).mono ?_; rintro e w1 ⟨rfl, hF1⟩)
  have hT : VAt (w1.alloc (.cells #[.int .i64 1, .float .f64 4611686018427387904, .string ⟨#[]⟩, .bool false, .int .i64 0] 37 (0, 0))) w1.heap.size 1 4611686018427387904 ⟨#[]⟩ false 0 := ⟨new1 _ _ _ rfl⟩
  have hF2 : Fr noB w (w1.alloc (.cells #[.int .i64 1, .float .f64 4611686018427387904, .string ⟨#[]⟩, .bool false, .int .i64 0] 37 (0, 0))) := hF1.alloc _
  clear H2 hF1
  generalize w1.alloc (.cells #[.int .i64 1, .float .f64 4611686018427387904, .string ⟨#[]⟩, .bool false, .int .i64 0] 37 (0, 0)) = W0 at *
  generalize w1.heap.size = b0 at *
  have HK : Hid (∀ W, Fr noB W0 W → VAt W b0 1 4611686018427387904 ⟨#[]⟩ false 0) := fun W h => hT.fr h id
  have HF2 : Hid (Fr noB w W0) := hF2
  clear hT hF2
  have HC : Hid (∀ W, Fr noB W0 W → W.cell? ⟨b0, 0, none⟩ = some (.int .i64 1) ∧ W.cell? ⟨b0, 1, none⟩ = some (.float .f64 4611686018427387904) ∧ W.cell? ⟨b0, 2, none⟩ = some (.string ⟨#[]⟩) ∧ W.cell? ⟨b0, 3, none⟩ = some (.bool false) ∧ W.cell? ⟨b0, 4, none⟩ = some (.int .i64 0)) := fun W h => ⟨(HK.out W h).c0, (HK.out W h).c1, (HK.out W h).c2, (HK.out W h).c3, (HK.out W h).c4⟩
  clear HK
  go_region_held3 (fun W => W.cell? ⟨b0, 0, none⟩ = some (.int .i64 1) ∧ W.cell? ⟨b0, 1, none⟩ = some (.float .f64 4611686018427387904) ∧ W.cell? ⟨b0, 2, none⟩ = some (.string ⟨#[]⟩) ∧ W.cell? ⟨b0, 3, none⟩ = some (.bool false) ∧ W.cell? ⟨b0, 4, none⟩ = some (.int .i64 0))
    (exact HC.out _ (by repeat first | assumption | exact Fr.refl _ _ | exact Fr.drew (by assumption) | exact (Fr.refl _ _).drew | refine Fr.trans ?_ (by assumption)))
    (first
      | (go_at_call 22; with_reducible refine (H10 _).mono ?_; rintro e w2 ⟨rfl, hF2⟩)
      | (go_at_call 23; with_reducible refine (HU.out _ (HF2.out.trans (by repeat first | assumption | exact Fr.refl _ _ | exact Fr.drew (by assumption) | exact (Fr.refl _ _).drew | refine Fr.trans ?_ (by assumption)))).mono ?_; rintro e w3 ⟨rfl, hF3⟩)
      | (go_at_call 22; with_reducible refine (H1k _).mono ?_; rintro e w4 ⟨rfl, hF4⟩)
      | (go_at_call 12; with_reducible refine (HS _).mono ?_; rintro e w5 ⟨rfl, hF5⟩)
      | (go_at_call 24; with_reducible refine (HP.out _).mono ?_; rintro e w6 ⟨b1, rfl, hV6, hF6⟩)
      | (go_at_call 25; with_reducible refine (HR.out _).mono ?_; rintro e w7 ⟨b2, rfl, hV7, hF7⟩)
      | (go_at_call 8; with_reducible refine (HA.out b1 b2 _ (hV6.keep (by repeat first | assumption | exact Fr.refl _ _ | exact Fr.drew (by assumption) | exact (Fr.refl _ _).drew | refine Fr.trans ?_ (by assumption))) hV7).mono ?_; rintro e w8 ⟨rfl, hF8⟩))
  go_wp2_with fail
  go_ret
  exact ⟨rfl, HF2.out.trans (by repeat first | assumption | exact Fr.refl _ _ | exact Fr.drew (by assumption) | exact (Fr.refl _ _).drew | refine Fr.trans ?_ (by assumption))⟩
#print axioms begun_true
end Go.Proofs.YtpjbobbmldplbaaGreatDoor
