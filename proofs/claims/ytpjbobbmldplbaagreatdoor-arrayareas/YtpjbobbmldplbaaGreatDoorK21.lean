/- Words for a drawn region walked by hand. -/
import Derived.Test.YtpjbobbmldplbaaGreatDoorAVal
import Derived.Deep.RegionHeld
import Derived.Deep.DeepCutAuto
import Derived.Test.YtpjbobbmldplbaaGreatDoorABin
import Derived.Test.YtpjbobbmldplbaaGreatDoorK13
namespace Go.Proofs.YtpjbobbmldplbaaGreatDoor
open Go.RowKit

theorem fr_toH {Q : Exit → Act → World → Prop} {a : Act} {w : World} (b : Act) (h : a = b) (hq : Q .normal b w) : Q .normal a w := by
  rw [h]
  exact hq
theorem ite_inH {c : Prop} {i : Decidable c} {A B : Prop} (h : c) (a : A) : @ite Prop c i A B := by rw [if_pos h]; exact a
section
variable {P : Program} {ops : Array Oper} {S : World → Prop} {op : Oper} {a : Act}
theorem y_loadH (ty : TypeId) (x : Operand) (p v : Value) (hw : Region.wanted op (yielded ops a.tmps) = true) (ho : op.op = .load ty x) (hx : a.eval x = p) (hS : ∀ w, S w → (Instr.loadAt ty p).run Tryz.prog w = .ok v w) : YieldsIf Tryz.prog ops S op v a :=
  .inl ⟨hw, fun w hw' => by
    unfold execOp
    simp only [ho, hx, Sem.run_bind, Sem.run_pure, hS w hw', Result.andThen_ok]⟩
theorem wp_goH {w : World} {next : Act → World → Prop} {Q : Exit → Act → World → Prop} (f : FuncId) (args : Array Value) (h : (execOp a.eval op).run P w = .ok (.enter f args) w)
    (hc : Calls P f args w fun e w'' => match e, w'' with
      | .returned v, w'' => next (a.put op.dst v) w''
      | .panicked chain, w'' => Q (.panic chain) a w''
      | .outgrown, _ => LetsOut Q) : Oper.wp P op a w next Q := by
  unfold Oper.wp
  rw [h]
  exact hc
theorem wp_valH {w w' : World} {next : Act → World → Prop} {Q : Exit → Act → World → Prop} (v : Value) (h : (execOp a.eval op).run P w = .ok (.value v) w') (hn : next (a.put op.dst v) w') : Oper.wp P op a w next Q := by
  unfold Oper.wp
  rw [h]
  exact hn
theorem wp_storeV {o : Oper} {a : Act} {w : World} {K : Act → World → Prop} {Q : Exit → Act → World → Prop} (x y : Operand) (ho : o.op = .store 37 x y)
    (g : Nat) (k : Int) (n : Nat) (s : ByteArray) (y' : Bool) (e : Int) (hx : a.eval x = .pointer (some ⟨g, 0, none⟩)) (hy : a.eval y = (.agg #[.int .i64 k, .float .f64 n, .string s, .bool y', .int .i64 e]))
    {k0 : Int} {n0 : Nat} {s0 : ByteArray} {y0 : Bool} {e0 : Int} (hO : VAt w g k0 n0 s0 y0 e0)
    (h : ∀ W, VAt W g k n s y' e → Fr (oneB g) w W → K (a.put o.dst undef) W) : Oper.wp Tryz.prog o a w K Q :=
  wp_store_row 37 x y ho g #[.int .i64 k, .float .f64 n, .string s, .bool y', .int .i64 e] hx hy 37 _ hO.o info_val rfl (val_one _ _ _ _ _)
    (h _ ⟨setRow_heap _ _ _ _ _ _ hO.o⟩ ⟨rfl, rfl, rfl, by simp [World.setRow], fun k hk hs => setRow_other _ _ _ _ hs⟩)
end
theorem load_v {w : World} {B : Nat} {k : Int} {n : Nat} {s : ByteArray} {y : Bool} {e : Int} (h : VAt w B k n s y e) : (Instr.loadAt 37 (.pointer (some ⟨B, 0, none⟩))).run Tryz.prog w = .ok (.agg #[.int .i64 k, .float .f64 n, .string s, .bool y, .int .i64 e]) w := by
  have hu := Tryz.underlying37
  have h0 := h.c0; have h1 := h.c1; have h2 := h.c2; have h3 := h.c3; have h4 := h.c4
  simp [go_sem, h0, h1, h2, h3, h4]
#print axioms load_v
end Go.Proofs.YtpjbobbmldplbaaGreatDoor
/- Operators on two numbers: numeric.of. -/
namespace Go.Proofs.YtpjbobbmldplbaaGreatDoor
open Go.RowKit Ieee Go.Shelf
attribute [local go_sem] run_store_float

/-- The two operands in their boxes, and a box for what is answered. -/
def NQ (w W : World) (x y : Nat) : Prop := VAt W w.heap.size 1 x ⟨#[]⟩ false 0 ∧ VAt W (w.heap.size + 1) 1 y ⟨#[]⟩ false 0 ∧ VAt W (w.heap.size + 1 + 1) 0 0 ⟨#[]⟩ false 0 ∧ Fr noB w W ∧ w.heap.size + 3 ≤ W.heap.size
theorem NQ.fr {w W W' : World} {x y : Nat} (h : NQ w W x y) (hF : Fr noB W W') : NQ w W' x y := ⟨h.1.fr hF id, h.2.1.fr hF id, h.2.2.1.fr hF id, h.2.2.2.1.trans hF, Nat.le_trans h.2.2.2.2 hF.size⟩
theorem NQ.st {w W W' : World} {x y g : Nat} (h : NQ w W x y) (hF : Fr (oneB g) W W') (hg : w.heap.size + 3 ≤ g) : NQ w W' x y := ⟨h.1.keep hF (by omega), h.2.1.keep hF (by omega), h.2.2.1.keep hF (by omega), h.2.2.2.1.new hF (by omega), Nat.le_trans h.2.2.2.2 hF.size⟩
theorem NQ.px {w W : World} {x y : Nat} (h : NQ w W x y) : VAt W w.heap.size 1 x ⟨#[]⟩ false 0 := h.1
theorem NQ.py {w W : World} {x y : Nat} (h : NQ w W x y) : VAt W (w.heap.size + 1) 1 y ⟨#[]⟩ false 0 := h.2.1
theorem NQ.po {w W : World} {x y : Nat} (h : NQ w W x y) : VAt W (w.heap.size + 1 + 1) 0 0 ⟨#[]⟩ false 0 := h.2.2.1
theorem NQ.pf {w W : World} {x y : Nat} (h : NQ w W x y) : Fr noB w W := h.2.2.2.1
theorem NQ.pz {w W : World} {x y : Nat} (h : NQ w W x y) : w.heap.size + 3 ≤ W.heap.size := h.2.2.2.2
set_option maxRecDepth 100000 in
set_option maxHeartbeats 2000000 in
theorem numeric_of (g x y : Nat) (hx : x < 18446744073709551616) (hy : y < 18446744073709551616) (hfx : finB x = true) (hfy : finB y = true) (hzx : x ≠ 9223372036854775808) (hzy : y ≠ 9223372036854775808)
    (K : Int) (M : Nat) (E : Int) (hg : ∀ W, Calls Tryz.prog g #[.float .f64 x, .float .f64 y] W fun e w' => e = .returned (.agg #[.int .i64 K, .float .f64 M, .string ⟨#[]⟩, .bool false, .int .i64 E]) ∧ Fr noB W w') (hc : ∀ (l : Array Value) (W : World), (callFunc g l).run Tryz.prog W = .ok (.enter g l) W) (w : World) :
    Calls Tryz.prog 62 #[.func (.func g) #[] #[], (.agg #[.int .i64 1, .float .f64 x, .string ⟨#[]⟩, .bool false, .int .i64 0]), (.agg #[.int .i64 1, .float .f64 y, .string ⟨#[]⟩, .bool false, .int .i64 0])] w fun e w' => e = .returned (.agg #[.int .i64 K, .float .f64 M, .string ⟨#[]⟩, .bool false, .int .i64 E]) ∧ Fr noB w w' := by
  have HX := asnum_any x hx hfx hzx
  have HY := asnum_any y hy hfy hzy
  have HE := firstErr_none 1 x ⟨#[]⟩ false 0 1 y ⟨#[]⟩ false 0 (by decide) (by decide)
  have hN : NQ w (((w.alloc (.cells #[.int .i64 1, .float .f64 x, .string ⟨#[]⟩, .bool false, .int .i64 0] 37 (0, 0))).alloc (.cells #[.int .i64 1, .float .f64 y, .string ⟨#[]⟩, .bool false, .int .i64 0] 37 (0, 0))).alloc (.cells #[.int .i64 0, .float .f64 0, .string ⟨#[]⟩, .bool false, .int .i64 0] 37 (0, 0))) x y := ⟨⟨old1 (old1 (new1 _ _ _ rfl))⟩, ⟨old1 (new1 _ _ _ (by simp))⟩, ⟨new1 _ _ _ (by simp)⟩, (((Fr.refl noB w).alloc _).alloc _).alloc _, by simp⟩
  have HN : Hid _ := hN
  clear hx hy hfx hfy hzx hzy hN
  go_enter Tryz.func62, Tryz.ntmps62
  go_wp2_with fail
  have n0 : NQ w (((w.alloc (.cells #[.int .i64 1, .float .f64 x, .string ⟨#[]⟩, .bool false, .int .i64 0] 37 (0, 0))).alloc (.cells #[.int .i64 1, .float .f64 y, .string ⟨#[]⟩, .bool false, .int .i64 0] 37 (0, 0))).alloc (.cells #[.int .i64 0, .float .f64 0, .string ⟨#[]⟩, .bool false, .int .i64 0] 37 (0, 0))) x y := HN.out
  clear HN
  generalize ((w.alloc (.cells #[.int .i64 1, .float .f64 x, .string ⟨#[]⟩, .bool false, .int .i64 0] 37 (0, 0))).alloc (.cells #[.int .i64 1, .float .f64 y, .string ⟨#[]⟩, .bool false, .int .i64 0] 37 (0, 0))).alloc (.cells #[.int .i64 0, .float .f64 0, .string ⟨#[]⟩, .bool false, .int .i64 0] 37 (0, 0)) = W at n0 ⊢
  go_cut [7, 8] (fun u v wc => ∃ b7 b8, u = .pointer (some ⟨b7, 0, none⟩) ∧ v = .pointer (some ⟨b8, 0, none⟩) ∧ VAt wc b7 1 x ⟨#[]⟩ false 0 ∧ VAt wc b8 1 y ⟨#[]⟩ false 0 ∧ w.heap.size + 3 ≤ b7 ∧ w.heap.size + 3 ≤ b8 ∧ NQ w wc x y)
  case first =>
    refine wp_region_held_drew (S := fun W' => VAt W' w.heap.size 1 x ⟨#[]⟩ false 0 ∧ VAt W' (w.heap.size + 1) 1 y ⟨#[]⟩ false 0) (by kernel_rfl) ⟨n0.1.fr (Fr.refl noB W).drew id, n0.2.1.fr (Fr.refl noB W).drew id⟩ (fun hHeld => ?_)
    have nd := n0.fr (Fr.refl noB W).drew
    clear n0
    generalize W.drew = Wd at *
    refine wpAnyH_take (i := 0) (v := (.agg #[.int .i64 1, .float .f64 x, .string ⟨#[]⟩, .bool false, .int .i64 0])) rfl (by kernel_rfl) (by kernel_rfl) (by kernel_rfl) (fun _ _ _ h => h) (y_loadH 37 (.tmp 4) (.pointer (some ⟨w.heap.size, 0, none⟩)) _ (by kernel_rfl) rfl (by kernel_rfl) (fun w h => load_v h.1)) hHeld ?_
    refine wpAnyH_take (i := 2) (v := (.agg #[.int .i64 1, .float .f64 y, .string ⟨#[]⟩, .bool false, .int .i64 0])) rfl (by kernel_rfl) (by kernel_rfl) (by kernel_rfl) (fun _ _ _ h => h) (y_loadH 37 (.tmp 5) (.pointer (some ⟨w.heap.size + 1, 0, none⟩)) _ (by kernel_rfl) rfl (by kernel_rfl) (fun w h => load_v h.2)) hHeld ?_
    refine wpAnyH_ready (rs := [1, 4, 5]) (by kernel_rfl) (by simp) ?_
    refine AllReadyH.cons rfl (fun KK hK => ?_) ?_
    · skip
      (with_reducible refine ite_inH ?_ ?_)
      · kernel_rfl
      (with_reducible refine wp_goH 77 #[(.agg #[.int .i64 1, .float .f64 x, .string ⟨#[]⟩, .bool false, .int .i64 0])] ?_ ?_)
      · kernel_rfl
      (with_reducible refine (HX _).mono ?_)
      rintro e W1 ⟨rfl, hF1⟩
      have n1 := nd.fr hF1
      refine hK.out _ _ ⟨n1.1, n1.2.1⟩ (fun hHeld1 => ?_)
      clear hK KK
      refine wpAnyH_ready (rs := [3, 4, 5]) (by kernel_rfl) (by simp) ?_
      refine AllReadyH.cons rfl (fun KK hK => ?_) ?_
      · skip
        (with_reducible refine ite_inH ?_ ?_)
        · kernel_rfl
        (with_reducible refine wp_goH 77 #[(.agg #[.int .i64 1, .float .f64 y, .string ⟨#[]⟩, .bool false, .int .i64 0])] ?_ ?_)
        · kernel_rfl
        (with_reducible refine (HY _).mono ?_)
        rintro e W2 ⟨rfl, hF2⟩
        have n2 := n1.fr hF2
        refine hK.out _ _ ⟨n2.1, n2.2.1⟩ (fun hHeld2 => ?_)
        clear hK KK
        refine wpAnyH_ready (rs := [4, 5]) (by kernel_rfl) (by simp) ?_
        refine AllReadyH.cons rfl (fun KK hK => ?_) ?_
        · skip
          (with_reducible refine ite_inH ?_ ?_)
          · kernel_rfl
          (with_reducible refine wp_valH (w' := W2.alloc (.cells #[.int .i64 0, .float .f64 0, .string ⟨#[]⟩, .bool false, .int .i64 0] 37 (0, 0))) (.pointer (some ⟨W2.heap.size, 0, none⟩)) ?_ ?_)
          · kernel_rfl
          have hA3 := VAt.new (w := W2) (k := 0) (n := 0) (s := ⟨#[]⟩) (y := false) (e := 0)
          generalize W2.alloc (.cells #[.int .i64 0, .float .f64 0, .string ⟨#[]⟩, .bool false, .int .i64 0] 37 (0, 0)) = W3 at hA3 ⊢
          have n3 := n2.fr hA3.2
          refine hK.out _ _ ⟨n3.1, n3.2.1⟩ (fun hHeld3 => ?_)
          clear hK KK
          refine wpAnyH_ready (rs := [5]) (by kernel_rfl) (by simp) ?_
          refine AllReadyH.cons rfl (fun KK hK => ?_) AllReadyH.nil
          (with_reducible refine ite_inH ?_ ?_)
          · kernel_rfl
          (with_reducible refine wp_valH (w' := W3.alloc (.cells #[.int .i64 0, .float .f64 0, .string ⟨#[]⟩, .bool false, .int .i64 0] 37 (0, 0))) (.pointer (some ⟨W3.heap.size, 0, none⟩)) ?_ ?_)
          · kernel_rfl
          have hA4 := VAt.new (w := W3) (k := 0) (n := 0) (s := ⟨#[]⟩) (y := false) (e := 0)
          generalize W3.alloc (.cells #[.int .i64 0, .float .f64 0, .string ⟨#[]⟩, .bool false, .int .i64 0] 37 (0, 0)) = W4 at hA4 ⊢
          have n4 := n3.fr hA4.2
          have a7_4 := hA3.1.fr hA4.2 id
          have hne : W2.heap.size ≠ W3.heap.size ∧ W3.heap.size ≠ W2.heap.size := by have := hA3.1.lt; omega
          refine hK.out _ _ ⟨n4.1, n4.2.1⟩ (fun hHeld4 => ?_)
          clear hK KK
          refine wpAnyH_ready (rs := [6]) (by kernel_rfl) (by simp) ?_
          refine AllReadyH.cons rfl (fun KK hK => ?_) AllReadyH.nil
          (with_reducible refine ite_inH ?_ ?_)
          · kernel_rfl
          (with_reducible refine wp_storeV (.tmp 7) (.tmp 12) ?_ (W2.heap.size) 1 x ⟨#[]⟩ false 0 ?_ ?_ a7_4 ?_)
          · kernel_rfl
          · kernel_rfl
          · kernel_rfl
          intro W5 hV5 hG5
          have n5 := n4.st hG5 n2.2.2.2.2
          have a8_5 := hA4.1.keep hG5 (by first | exact hne.1 | exact hne.2)
          refine hK.out _ _ ⟨n5.1, n5.2.1⟩ (fun hHeld5 => ?_)
          clear hK KK
          refine wpAnyH_ready (rs := [7]) (by kernel_rfl) (by simp) ?_
          refine AllReadyH.cons rfl (fun KK hK => ?_) AllReadyH.nil
          (with_reducible refine ite_inH ?_ ?_)
          · kernel_rfl
          (with_reducible refine wp_storeV (.tmp 8) (.tmp 14) ?_ (W3.heap.size) 1 y ⟨#[]⟩ false 0 ?_ ?_ a8_5 ?_)
          · kernel_rfl
          · kernel_rfl
          · kernel_rfl
          intro W6 hV6 hG6
          have n6 := n5.st hG6 n3.2.2.2.2
          have a7_6 := hV5.keep hG6 (by first | exact hne.1 | exact hne.2)
          refine hK.out _ _ ⟨n6.1, n6.2.1⟩ (fun hHeld6 => ?_)
          clear hK KK
          refine wpAnyH_done (by kernel_rfl) ?_ _
          refine fr_toH { tmps := #[.func (.func g) #[] #[], (.agg #[.int .i64 1, .float .f64 x, .string ⟨#[]⟩, .bool false, .int .i64 0]), (.agg #[.int .i64 1, .float .f64 y, .string ⟨#[]⟩, .bool false, .int .i64 0]), undef, .pointer (some ⟨w.heap.size, 0, none⟩), .pointer (some ⟨w.heap.size + 1, 0, none⟩), .pointer (some ⟨w.heap.size + 1 + 1, 0, none⟩), .pointer (some ⟨W2.heap.size, 0, none⟩), .pointer (some ⟨W3.heap.size, 0, none⟩), undef, undef, (.agg #[.int .i64 1, .float .f64 x, .string ⟨#[]⟩, .bool false, .int .i64 0]), (.agg #[.int .i64 1, .float .f64 x, .string ⟨#[]⟩, .bool false, .int .i64 0]), (.agg #[.int .i64 1, .float .f64 y, .string ⟨#[]⟩, .bool false, .int .i64 0]), (.agg #[.int .i64 1, .float .f64 y, .string ⟨#[]⟩, .bool false, .int .i64 0]), undef, undef, undef, undef, undef, undef, undef, undef, undef, undef, undef, undef, undef, undef], defers := [] } (by kernel_rfl) ?_
          go_wp2_with fail
          go_meet
          exact ⟨W2.heap.size, W3.heap.size, rfl, rfl, a7_6, hV6, n2.2.2.2.2, n3.2.2.2.2, n6⟩
        refine AllReadyH.cons rfl (fun KK hK => ?_) AllReadyH.nil
        (with_reducible refine ite_inH ?_ ?_)
        · kernel_rfl
        (with_reducible refine wp_valH (w' := W2.alloc (.cells #[.int .i64 0, .float .f64 0, .string ⟨#[]⟩, .bool false, .int .i64 0] 37 (0, 0))) (.pointer (some ⟨W2.heap.size, 0, none⟩)) ?_ ?_)
        · kernel_rfl
        have hA7 := VAt.new (w := W2) (k := 0) (n := 0) (s := ⟨#[]⟩) (y := false) (e := 0)
        generalize W2.alloc (.cells #[.int .i64 0, .float .f64 0, .string ⟨#[]⟩, .bool false, .int .i64 0] 37 (0, 0)) = W7 at hA7 ⊢
        have n7 := n2.fr hA7.2
        refine hK.out _ _ ⟨n7.1, n7.2.1⟩ (fun hHeld7 => ?_)
        clear hK KK
        refine wpAnyH_ready (rs := [4]) (by kernel_rfl) (by simp) ?_
        refine AllReadyH.cons rfl (fun KK hK => ?_) AllReadyH.nil
        (with_reducible refine ite_inH ?_ ?_)
        · kernel_rfl
        (with_reducible refine wp_valH (w' := W7.alloc (.cells #[.int .i64 0, .float .f64 0, .string ⟨#[]⟩, .bool false, .int .i64 0] 37 (0, 0))) (.pointer (some ⟨W7.heap.size, 0, none⟩)) ?_ ?_)
        · kernel_rfl
        have hA8 := VAt.new (w := W7) (k := 0) (n := 0) (s := ⟨#[]⟩) (y := false) (e := 0)
        generalize W7.alloc (.cells #[.int .i64 0, .float .f64 0, .string ⟨#[]⟩, .bool false, .int .i64 0] 37 (0, 0)) = W8 at hA8 ⊢
        have n8 := n7.fr hA8.2
        have a8_8 := hA7.1.fr hA8.2 id
        have hne : W2.heap.size ≠ W7.heap.size ∧ W7.heap.size ≠ W2.heap.size := by have := hA7.1.lt; omega
        refine hK.out _ _ ⟨n8.1, n8.2.1⟩ (fun hHeld8 => ?_)
        clear hK KK
        refine wpAnyH_ready (rs := [6]) (by kernel_rfl) (by simp) ?_
        refine AllReadyH.cons rfl (fun KK hK => ?_) AllReadyH.nil
        (with_reducible refine ite_inH ?_ ?_)
        · kernel_rfl
        (with_reducible refine wp_storeV (.tmp 7) (.tmp 12) ?_ (W7.heap.size) 1 x ⟨#[]⟩ false 0 ?_ ?_ hA8.1 ?_)
        · kernel_rfl
        · kernel_rfl
        · kernel_rfl
        intro W9 hV9 hG9
        have n9 := n8.st hG9 n7.2.2.2.2
        have a8_9 := a8_8.keep hG9 (by first | exact hne.1 | exact hne.2)
        refine hK.out _ _ ⟨n9.1, n9.2.1⟩ (fun hHeld9 => ?_)
        clear hK KK
        refine wpAnyH_ready (rs := [7]) (by kernel_rfl) (by simp) ?_
        refine AllReadyH.cons rfl (fun KK hK => ?_) AllReadyH.nil
        (with_reducible refine ite_inH ?_ ?_)
        · kernel_rfl
        (with_reducible refine wp_storeV (.tmp 8) (.tmp 14) ?_ (W2.heap.size) 1 y ⟨#[]⟩ false 0 ?_ ?_ a8_9 ?_)
        · kernel_rfl
        · kernel_rfl
        · kernel_rfl
        intro W10 hV10 hG10
        have n10 := n9.st hG10 n2.2.2.2.2
        have a7_10 := hV9.keep hG10 (by first | exact hne.1 | exact hne.2)
        refine hK.out _ _ ⟨n10.1, n10.2.1⟩ (fun hHeld10 => ?_)
        clear hK KK
        refine wpAnyH_done (by kernel_rfl) ?_ _
        refine fr_toH { tmps := #[.func (.func g) #[] #[], (.agg #[.int .i64 1, .float .f64 x, .string ⟨#[]⟩, .bool false, .int .i64 0]), (.agg #[.int .i64 1, .float .f64 y, .string ⟨#[]⟩, .bool false, .int .i64 0]), undef, .pointer (some ⟨w.heap.size, 0, none⟩), .pointer (some ⟨w.heap.size + 1, 0, none⟩), .pointer (some ⟨w.heap.size + 1 + 1, 0, none⟩), .pointer (some ⟨W7.heap.size, 0, none⟩), .pointer (some ⟨W2.heap.size, 0, none⟩), undef, undef, (.agg #[.int .i64 1, .float .f64 x, .string ⟨#[]⟩, .bool false, .int .i64 0]), (.agg #[.int .i64 1, .float .f64 x, .string ⟨#[]⟩, .bool false, .int .i64 0]), (.agg #[.int .i64 1, .float .f64 y, .string ⟨#[]⟩, .bool false, .int .i64 0]), (.agg #[.int .i64 1, .float .f64 y, .string ⟨#[]⟩, .bool false, .int .i64 0]), undef, undef, undef, undef, undef, undef, undef, undef, undef, undef, undef, undef, undef, undef], defers := [] } (by kernel_rfl) ?_
        go_wp2_with fail
        go_meet
        exact ⟨W7.heap.size, W2.heap.size, rfl, rfl, a7_10, hV10, n7.2.2.2.2, n2.2.2.2.2, n10⟩
      refine AllReadyH.cons rfl (fun KK hK => ?_) ?_
      · skip
        (with_reducible refine ite_inH ?_ ?_)
        · kernel_rfl
        (with_reducible refine wp_valH (w' := W1.alloc (.cells #[.int .i64 0, .float .f64 0, .string ⟨#[]⟩, .bool false, .int .i64 0] 37 (0, 0))) (.pointer (some ⟨W1.heap.size, 0, none⟩)) ?_ ?_)
        · kernel_rfl
        have hA11 := VAt.new (w := W1) (k := 0) (n := 0) (s := ⟨#[]⟩) (y := false) (e := 0)
        generalize W1.alloc (.cells #[.int .i64 0, .float .f64 0, .string ⟨#[]⟩, .bool false, .int .i64 0] 37 (0, 0)) = W11 at hA11 ⊢
        have n11 := n1.fr hA11.2
        refine hK.out _ _ ⟨n11.1, n11.2.1⟩ (fun hHeld11 => ?_)
        clear hK KK
        refine wpAnyH_ready (rs := [3, 5]) (by kernel_rfl) (by simp) ?_
        refine AllReadyH.cons rfl (fun KK hK => ?_) ?_
        · skip
          (with_reducible refine ite_inH ?_ ?_)
          · kernel_rfl
          (with_reducible refine wp_goH 77 #[(.agg #[.int .i64 1, .float .f64 y, .string ⟨#[]⟩, .bool false, .int .i64 0])] ?_ ?_)
          · kernel_rfl
          (with_reducible refine (HY _).mono ?_)
          rintro e W12 ⟨rfl, hF12⟩
          have n12 := n11.fr hF12
          have a7_12 := hA11.1.fr hF12 id
          refine hK.out _ _ ⟨n12.1, n12.2.1⟩ (fun hHeld12 => ?_)
          clear hK KK
          refine wpAnyH_ready (rs := [5]) (by kernel_rfl) (by simp) ?_
          refine AllReadyH.cons rfl (fun KK hK => ?_) AllReadyH.nil
          (with_reducible refine ite_inH ?_ ?_)
          · kernel_rfl
          (with_reducible refine wp_valH (w' := W12.alloc (.cells #[.int .i64 0, .float .f64 0, .string ⟨#[]⟩, .bool false, .int .i64 0] 37 (0, 0))) (.pointer (some ⟨W12.heap.size, 0, none⟩)) ?_ ?_)
          · kernel_rfl
          have hA13 := VAt.new (w := W12) (k := 0) (n := 0) (s := ⟨#[]⟩) (y := false) (e := 0)
          generalize W12.alloc (.cells #[.int .i64 0, .float .f64 0, .string ⟨#[]⟩, .bool false, .int .i64 0] 37 (0, 0)) = W13 at hA13 ⊢
          have n13 := n12.fr hA13.2
          have a7_13 := a7_12.fr hA13.2 id
          have hne : W1.heap.size ≠ W12.heap.size ∧ W12.heap.size ≠ W1.heap.size := by have := a7_12.lt; omega
          refine hK.out _ _ ⟨n13.1, n13.2.1⟩ (fun hHeld13 => ?_)
          clear hK KK
          refine wpAnyH_ready (rs := [6]) (by kernel_rfl) (by simp) ?_
          refine AllReadyH.cons rfl (fun KK hK => ?_) AllReadyH.nil
          (with_reducible refine ite_inH ?_ ?_)
          · kernel_rfl
          (with_reducible refine wp_storeV (.tmp 7) (.tmp 12) ?_ (W1.heap.size) 1 x ⟨#[]⟩ false 0 ?_ ?_ a7_13 ?_)
          · kernel_rfl
          · kernel_rfl
          · kernel_rfl
          intro W14 hV14 hG14
          have n14 := n13.st hG14 n1.2.2.2.2
          have a8_14 := hA13.1.keep hG14 (by first | exact hne.1 | exact hne.2)
          refine hK.out _ _ ⟨n14.1, n14.2.1⟩ (fun hHeld14 => ?_)
          clear hK KK
          refine wpAnyH_ready (rs := [7]) (by kernel_rfl) (by simp) ?_
          refine AllReadyH.cons rfl (fun KK hK => ?_) AllReadyH.nil
          (with_reducible refine ite_inH ?_ ?_)
          · kernel_rfl
          (with_reducible refine wp_storeV (.tmp 8) (.tmp 14) ?_ (W12.heap.size) 1 y ⟨#[]⟩ false 0 ?_ ?_ a8_14 ?_)
          · kernel_rfl
          · kernel_rfl
          · kernel_rfl
          intro W15 hV15 hG15
          have n15 := n14.st hG15 n12.2.2.2.2
          have a7_15 := hV14.keep hG15 (by first | exact hne.1 | exact hne.2)
          refine hK.out _ _ ⟨n15.1, n15.2.1⟩ (fun hHeld15 => ?_)
          clear hK KK
          refine wpAnyH_done (by kernel_rfl) ?_ _
          refine fr_toH { tmps := #[.func (.func g) #[] #[], (.agg #[.int .i64 1, .float .f64 x, .string ⟨#[]⟩, .bool false, .int .i64 0]), (.agg #[.int .i64 1, .float .f64 y, .string ⟨#[]⟩, .bool false, .int .i64 0]), undef, .pointer (some ⟨w.heap.size, 0, none⟩), .pointer (some ⟨w.heap.size + 1, 0, none⟩), .pointer (some ⟨w.heap.size + 1 + 1, 0, none⟩), .pointer (some ⟨W1.heap.size, 0, none⟩), .pointer (some ⟨W12.heap.size, 0, none⟩), undef, undef, (.agg #[.int .i64 1, .float .f64 x, .string ⟨#[]⟩, .bool false, .int .i64 0]), (.agg #[.int .i64 1, .float .f64 x, .string ⟨#[]⟩, .bool false, .int .i64 0]), (.agg #[.int .i64 1, .float .f64 y, .string ⟨#[]⟩, .bool false, .int .i64 0]), (.agg #[.int .i64 1, .float .f64 y, .string ⟨#[]⟩, .bool false, .int .i64 0]), undef, undef, undef, undef, undef, undef, undef, undef, undef, undef, undef, undef, undef, undef], defers := [] } (by kernel_rfl) ?_
          go_wp2_with fail
          go_meet
          exact ⟨W1.heap.size, W12.heap.size, rfl, rfl, a7_15, hV15, n1.2.2.2.2, n12.2.2.2.2, n15⟩
        refine AllReadyH.cons rfl (fun KK hK => ?_) AllReadyH.nil
        (with_reducible refine ite_inH ?_ ?_)
        · kernel_rfl
        (with_reducible refine wp_valH (w' := W11.alloc (.cells #[.int .i64 0, .float .f64 0, .string ⟨#[]⟩, .bool false, .int .i64 0] 37 (0, 0))) (.pointer (some ⟨W11.heap.size, 0, none⟩)) ?_ ?_)
        · kernel_rfl
        have hA16 := VAt.new (w := W11) (k := 0) (n := 0) (s := ⟨#[]⟩) (y := false) (e := 0)
        generalize W11.alloc (.cells #[.int .i64 0, .float .f64 0, .string ⟨#[]⟩, .bool false, .int .i64 0] 37 (0, 0)) = W16 at hA16 ⊢
        have n16 := n11.fr hA16.2
        have a7_16 := hA11.1.fr hA16.2 id
        have hne : W1.heap.size ≠ W11.heap.size ∧ W11.heap.size ≠ W1.heap.size := by have := hA11.1.lt; omega
        refine hK.out _ _ ⟨n16.1, n16.2.1⟩ (fun hHeld16 => ?_)
        clear hK KK
        refine wpAnyH_ready (rs := [3]) (by kernel_rfl) (by simp) ?_
        refine AllReadyH.cons rfl (fun KK hK => ?_) AllReadyH.nil
        (with_reducible refine ite_inH ?_ ?_)
        · kernel_rfl
        (with_reducible refine wp_goH 77 #[(.agg #[.int .i64 1, .float .f64 y, .string ⟨#[]⟩, .bool false, .int .i64 0])] ?_ ?_)
        · kernel_rfl
        (with_reducible refine (HY _).mono ?_)
        rintro e W17 ⟨rfl, hF17⟩
        have n17 := n16.fr hF17
        have a7_17 := a7_16.fr hF17 id
        have a8_17 := hA16.1.fr hF17 id
        refine hK.out _ _ ⟨n17.1, n17.2.1⟩ (fun hHeld17 => ?_)
        clear hK KK
        refine wpAnyH_ready (rs := [6]) (by kernel_rfl) (by simp) ?_
        refine AllReadyH.cons rfl (fun KK hK => ?_) AllReadyH.nil
        (with_reducible refine ite_inH ?_ ?_)
        · kernel_rfl
        (with_reducible refine wp_storeV (.tmp 7) (.tmp 12) ?_ (W1.heap.size) 1 x ⟨#[]⟩ false 0 ?_ ?_ a7_17 ?_)
        · kernel_rfl
        · kernel_rfl
        · kernel_rfl
        intro W18 hV18 hG18
        have n18 := n17.st hG18 n1.2.2.2.2
        have a8_18 := a8_17.keep hG18 (by first | exact hne.1 | exact hne.2)
        refine hK.out _ _ ⟨n18.1, n18.2.1⟩ (fun hHeld18 => ?_)
        clear hK KK
        refine wpAnyH_ready (rs := [7]) (by kernel_rfl) (by simp) ?_
        refine AllReadyH.cons rfl (fun KK hK => ?_) AllReadyH.nil
        (with_reducible refine ite_inH ?_ ?_)
        · kernel_rfl
        (with_reducible refine wp_storeV (.tmp 8) (.tmp 14) ?_ (W11.heap.size) 1 y ⟨#[]⟩ false 0 ?_ ?_ a8_18 ?_)
        · kernel_rfl
        · kernel_rfl
        · kernel_rfl
        intro W19 hV19 hG19
        have n19 := n18.st hG19 n11.2.2.2.2
        have a7_19 := hV18.keep hG19 (by first | exact hne.1 | exact hne.2)
        refine hK.out _ _ ⟨n19.1, n19.2.1⟩ (fun hHeld19 => ?_)
        clear hK KK
        refine wpAnyH_done (by kernel_rfl) ?_ _
        refine fr_toH { tmps := #[.func (.func g) #[] #[], (.agg #[.int .i64 1, .float .f64 x, .string ⟨#[]⟩, .bool false, .int .i64 0]), (.agg #[.int .i64 1, .float .f64 y, .string ⟨#[]⟩, .bool false, .int .i64 0]), undef, .pointer (some ⟨w.heap.size, 0, none⟩), .pointer (some ⟨w.heap.size + 1, 0, none⟩), .pointer (some ⟨w.heap.size + 1 + 1, 0, none⟩), .pointer (some ⟨W1.heap.size, 0, none⟩), .pointer (some ⟨W11.heap.size, 0, none⟩), undef, undef, (.agg #[.int .i64 1, .float .f64 x, .string ⟨#[]⟩, .bool false, .int .i64 0]), (.agg #[.int .i64 1, .float .f64 x, .string ⟨#[]⟩, .bool false, .int .i64 0]), (.agg #[.int .i64 1, .float .f64 y, .string ⟨#[]⟩, .bool false, .int .i64 0]), (.agg #[.int .i64 1, .float .f64 y, .string ⟨#[]⟩, .bool false, .int .i64 0]), undef, undef, undef, undef, undef, undef, undef, undef, undef, undef, undef, undef, undef, undef], defers := [] } (by kernel_rfl) ?_
        go_wp2_with fail
        go_meet
        exact ⟨W1.heap.size, W11.heap.size, rfl, rfl, a7_19, hV19, n1.2.2.2.2, n11.2.2.2.2, n19⟩
      refine AllReadyH.cons rfl (fun KK hK => ?_) AllReadyH.nil
      (with_reducible refine ite_inH ?_ ?_)
      · kernel_rfl
      (with_reducible refine wp_valH (w' := W1.alloc (.cells #[.int .i64 0, .float .f64 0, .string ⟨#[]⟩, .bool false, .int .i64 0] 37 (0, 0))) (.pointer (some ⟨W1.heap.size, 0, none⟩)) ?_ ?_)
      · kernel_rfl
      have hA20 := VAt.new (w := W1) (k := 0) (n := 0) (s := ⟨#[]⟩) (y := false) (e := 0)
      generalize W1.alloc (.cells #[.int .i64 0, .float .f64 0, .string ⟨#[]⟩, .bool false, .int .i64 0] 37 (0, 0)) = W20 at hA20 ⊢
      have n20 := n1.fr hA20.2
      refine hK.out _ _ ⟨n20.1, n20.2.1⟩ (fun hHeld20 => ?_)
      clear hK KK
      refine wpAnyH_ready (rs := [3, 4]) (by kernel_rfl) (by simp) ?_
      refine AllReadyH.cons rfl (fun KK hK => ?_) ?_
      · skip
        (with_reducible refine ite_inH ?_ ?_)
        · kernel_rfl
        (with_reducible refine wp_goH 77 #[(.agg #[.int .i64 1, .float .f64 y, .string ⟨#[]⟩, .bool false, .int .i64 0])] ?_ ?_)
        · kernel_rfl
        (with_reducible refine (HY _).mono ?_)
        rintro e W21 ⟨rfl, hF21⟩
        have n21 := n20.fr hF21
        have a8_21 := hA20.1.fr hF21 id
        refine hK.out _ _ ⟨n21.1, n21.2.1⟩ (fun hHeld21 => ?_)
        clear hK KK
        refine wpAnyH_ready (rs := [4]) (by kernel_rfl) (by simp) ?_
        refine AllReadyH.cons rfl (fun KK hK => ?_) AllReadyH.nil
        (with_reducible refine ite_inH ?_ ?_)
        · kernel_rfl
        (with_reducible refine wp_valH (w' := W21.alloc (.cells #[.int .i64 0, .float .f64 0, .string ⟨#[]⟩, .bool false, .int .i64 0] 37 (0, 0))) (.pointer (some ⟨W21.heap.size, 0, none⟩)) ?_ ?_)
        · kernel_rfl
        have hA22 := VAt.new (w := W21) (k := 0) (n := 0) (s := ⟨#[]⟩) (y := false) (e := 0)
        generalize W21.alloc (.cells #[.int .i64 0, .float .f64 0, .string ⟨#[]⟩, .bool false, .int .i64 0] 37 (0, 0)) = W22 at hA22 ⊢
        have n22 := n21.fr hA22.2
        have a8_22 := a8_21.fr hA22.2 id
        have hne : W1.heap.size ≠ W21.heap.size ∧ W21.heap.size ≠ W1.heap.size := by have := a8_21.lt; omega
        refine hK.out _ _ ⟨n22.1, n22.2.1⟩ (fun hHeld22 => ?_)
        clear hK KK
        refine wpAnyH_ready (rs := [6]) (by kernel_rfl) (by simp) ?_
        refine AllReadyH.cons rfl (fun KK hK => ?_) AllReadyH.nil
        (with_reducible refine ite_inH ?_ ?_)
        · kernel_rfl
        (with_reducible refine wp_storeV (.tmp 7) (.tmp 12) ?_ (W21.heap.size) 1 x ⟨#[]⟩ false 0 ?_ ?_ hA22.1 ?_)
        · kernel_rfl
        · kernel_rfl
        · kernel_rfl
        intro W23 hV23 hG23
        have n23 := n22.st hG23 n21.2.2.2.2
        have a8_23 := a8_22.keep hG23 (by first | exact hne.1 | exact hne.2)
        refine hK.out _ _ ⟨n23.1, n23.2.1⟩ (fun hHeld23 => ?_)
        clear hK KK
        refine wpAnyH_ready (rs := [7]) (by kernel_rfl) (by simp) ?_
        refine AllReadyH.cons rfl (fun KK hK => ?_) AllReadyH.nil
        (with_reducible refine ite_inH ?_ ?_)
        · kernel_rfl
        (with_reducible refine wp_storeV (.tmp 8) (.tmp 14) ?_ (W1.heap.size) 1 y ⟨#[]⟩ false 0 ?_ ?_ a8_23 ?_)
        · kernel_rfl
        · kernel_rfl
        · kernel_rfl
        intro W24 hV24 hG24
        have n24 := n23.st hG24 n1.2.2.2.2
        have a7_24 := hV23.keep hG24 (by first | exact hne.1 | exact hne.2)
        refine hK.out _ _ ⟨n24.1, n24.2.1⟩ (fun hHeld24 => ?_)
        clear hK KK
        refine wpAnyH_done (by kernel_rfl) ?_ _
        refine fr_toH { tmps := #[.func (.func g) #[] #[], (.agg #[.int .i64 1, .float .f64 x, .string ⟨#[]⟩, .bool false, .int .i64 0]), (.agg #[.int .i64 1, .float .f64 y, .string ⟨#[]⟩, .bool false, .int .i64 0]), undef, .pointer (some ⟨w.heap.size, 0, none⟩), .pointer (some ⟨w.heap.size + 1, 0, none⟩), .pointer (some ⟨w.heap.size + 1 + 1, 0, none⟩), .pointer (some ⟨W21.heap.size, 0, none⟩), .pointer (some ⟨W1.heap.size, 0, none⟩), undef, undef, (.agg #[.int .i64 1, .float .f64 x, .string ⟨#[]⟩, .bool false, .int .i64 0]), (.agg #[.int .i64 1, .float .f64 x, .string ⟨#[]⟩, .bool false, .int .i64 0]), (.agg #[.int .i64 1, .float .f64 y, .string ⟨#[]⟩, .bool false, .int .i64 0]), (.agg #[.int .i64 1, .float .f64 y, .string ⟨#[]⟩, .bool false, .int .i64 0]), undef, undef, undef, undef, undef, undef, undef, undef, undef, undef, undef, undef, undef, undef], defers := [] } (by kernel_rfl) ?_
        go_wp2_with fail
        go_meet
        exact ⟨W21.heap.size, W1.heap.size, rfl, rfl, a7_24, hV24, n21.2.2.2.2, n1.2.2.2.2, n24⟩
      refine AllReadyH.cons rfl (fun KK hK => ?_) AllReadyH.nil
      (with_reducible refine ite_inH ?_ ?_)
      · kernel_rfl
      (with_reducible refine wp_valH (w' := W20.alloc (.cells #[.int .i64 0, .float .f64 0, .string ⟨#[]⟩, .bool false, .int .i64 0] 37 (0, 0))) (.pointer (some ⟨W20.heap.size, 0, none⟩)) ?_ ?_)
      · kernel_rfl
      have hA25 := VAt.new (w := W20) (k := 0) (n := 0) (s := ⟨#[]⟩) (y := false) (e := 0)
      generalize W20.alloc (.cells #[.int .i64 0, .float .f64 0, .string ⟨#[]⟩, .bool false, .int .i64 0] 37 (0, 0)) = W25 at hA25 ⊢
      have n25 := n20.fr hA25.2
      have a8_25 := hA20.1.fr hA25.2 id
      have hne : W1.heap.size ≠ W20.heap.size ∧ W20.heap.size ≠ W1.heap.size := by have := hA20.1.lt; omega
      refine hK.out _ _ ⟨n25.1, n25.2.1⟩ (fun hHeld25 => ?_)
      clear hK KK
      refine wpAnyH_ready (rs := [3]) (by kernel_rfl) (by simp) ?_
      refine AllReadyH.cons rfl (fun KK hK => ?_) AllReadyH.nil
      (with_reducible refine ite_inH ?_ ?_)
      · kernel_rfl
      (with_reducible refine wp_goH 77 #[(.agg #[.int .i64 1, .float .f64 y, .string ⟨#[]⟩, .bool false, .int .i64 0])] ?_ ?_)
      · kernel_rfl
      (with_reducible refine (HY _).mono ?_)
      rintro e W26 ⟨rfl, hF26⟩
      have n26 := n25.fr hF26
      have a8_26 := a8_25.fr hF26 id
      have a7_26 := hA25.1.fr hF26 id
      refine hK.out _ _ ⟨n26.1, n26.2.1⟩ (fun hHeld26 => ?_)
      clear hK KK
      refine wpAnyH_ready (rs := [6]) (by kernel_rfl) (by simp) ?_
      refine AllReadyH.cons rfl (fun KK hK => ?_) AllReadyH.nil
      (with_reducible refine ite_inH ?_ ?_)
      · kernel_rfl
      (with_reducible refine wp_storeV (.tmp 7) (.tmp 12) ?_ (W20.heap.size) 1 x ⟨#[]⟩ false 0 ?_ ?_ a7_26 ?_)
      · kernel_rfl
      · kernel_rfl
      · kernel_rfl
      intro W27 hV27 hG27
      have n27 := n26.st hG27 n20.2.2.2.2
      have a8_27 := a8_26.keep hG27 (by first | exact hne.1 | exact hne.2)
      refine hK.out _ _ ⟨n27.1, n27.2.1⟩ (fun hHeld27 => ?_)
      clear hK KK
      refine wpAnyH_ready (rs := [7]) (by kernel_rfl) (by simp) ?_
      refine AllReadyH.cons rfl (fun KK hK => ?_) AllReadyH.nil
      (with_reducible refine ite_inH ?_ ?_)
      · kernel_rfl
      (with_reducible refine wp_storeV (.tmp 8) (.tmp 14) ?_ (W1.heap.size) 1 y ⟨#[]⟩ false 0 ?_ ?_ a8_27 ?_)
      · kernel_rfl
      · kernel_rfl
      · kernel_rfl
      intro W28 hV28 hG28
      have n28 := n27.st hG28 n1.2.2.2.2
      have a7_28 := hV27.keep hG28 (by first | exact hne.1 | exact hne.2)
      refine hK.out _ _ ⟨n28.1, n28.2.1⟩ (fun hHeld28 => ?_)
      clear hK KK
      refine wpAnyH_done (by kernel_rfl) ?_ _
      refine fr_toH { tmps := #[.func (.func g) #[] #[], (.agg #[.int .i64 1, .float .f64 x, .string ⟨#[]⟩, .bool false, .int .i64 0]), (.agg #[.int .i64 1, .float .f64 y, .string ⟨#[]⟩, .bool false, .int .i64 0]), undef, .pointer (some ⟨w.heap.size, 0, none⟩), .pointer (some ⟨w.heap.size + 1, 0, none⟩), .pointer (some ⟨w.heap.size + 1 + 1, 0, none⟩), .pointer (some ⟨W20.heap.size, 0, none⟩), .pointer (some ⟨W1.heap.size, 0, none⟩), undef, undef, (.agg #[.int .i64 1, .float .f64 x, .string ⟨#[]⟩, .bool false, .int .i64 0]), (.agg #[.int .i64 1, .float .f64 x, .string ⟨#[]⟩, .bool false, .int .i64 0]), (.agg #[.int .i64 1, .float .f64 y, .string ⟨#[]⟩, .bool false, .int .i64 0]), (.agg #[.int .i64 1, .float .f64 y, .string ⟨#[]⟩, .bool false, .int .i64 0]), undef, undef, undef, undef, undef, undef, undef, undef, undef, undef, undef, undef, undef, undef], defers := [] } (by kernel_rfl) ?_
      go_wp2_with fail
      go_meet
      exact ⟨W20.heap.size, W1.heap.size, rfl, rfl, a7_28, hV28, n20.2.2.2.2, n1.2.2.2.2, n28⟩
    refine AllReadyH.cons rfl (fun KK hK => ?_) ?_
    · skip
      (with_reducible refine ite_inH ?_ ?_)
      · kernel_rfl
      (with_reducible refine wp_valH (w' := Wd.alloc (.cells #[.int .i64 0, .float .f64 0, .string ⟨#[]⟩, .bool false, .int .i64 0] 37 (0, 0))) (.pointer (some ⟨Wd.heap.size, 0, none⟩)) ?_ ?_)
      · kernel_rfl
      have hA29 := VAt.new (w := Wd) (k := 0) (n := 0) (s := ⟨#[]⟩) (y := false) (e := 0)
      generalize Wd.alloc (.cells #[.int .i64 0, .float .f64 0, .string ⟨#[]⟩, .bool false, .int .i64 0] 37 (0, 0)) = W29 at hA29 ⊢
      have n29 := nd.fr hA29.2
      refine hK.out _ _ ⟨n29.1, n29.2.1⟩ (fun hHeld29 => ?_)
      clear hK KK
      refine wpAnyH_ready (rs := [1, 5]) (by kernel_rfl) (by simp) ?_
      refine AllReadyH.cons rfl (fun KK hK => ?_) ?_
      · skip
        (with_reducible refine ite_inH ?_ ?_)
        · kernel_rfl
        (with_reducible refine wp_goH 77 #[(.agg #[.int .i64 1, .float .f64 x, .string ⟨#[]⟩, .bool false, .int .i64 0])] ?_ ?_)
        · kernel_rfl
        (with_reducible refine (HX _).mono ?_)
        rintro e W30 ⟨rfl, hF30⟩
        have n30 := n29.fr hF30
        have a7_30 := hA29.1.fr hF30 id
        refine hK.out _ _ ⟨n30.1, n30.2.1⟩ (fun hHeld30 => ?_)
        clear hK KK
        refine wpAnyH_ready (rs := [3, 5]) (by kernel_rfl) (by simp) ?_
        refine AllReadyH.cons rfl (fun KK hK => ?_) ?_
        · skip
          (with_reducible refine ite_inH ?_ ?_)
          · kernel_rfl
          (with_reducible refine wp_goH 77 #[(.agg #[.int .i64 1, .float .f64 y, .string ⟨#[]⟩, .bool false, .int .i64 0])] ?_ ?_)
          · kernel_rfl
          (with_reducible refine (HY _).mono ?_)
          rintro e W31 ⟨rfl, hF31⟩
          have n31 := n30.fr hF31
          have a7_31 := a7_30.fr hF31 id
          refine hK.out _ _ ⟨n31.1, n31.2.1⟩ (fun hHeld31 => ?_)
          clear hK KK
          refine wpAnyH_ready (rs := [5]) (by kernel_rfl) (by simp) ?_
          refine AllReadyH.cons rfl (fun KK hK => ?_) AllReadyH.nil
          (with_reducible refine ite_inH ?_ ?_)
          · kernel_rfl
          (with_reducible refine wp_valH (w' := W31.alloc (.cells #[.int .i64 0, .float .f64 0, .string ⟨#[]⟩, .bool false, .int .i64 0] 37 (0, 0))) (.pointer (some ⟨W31.heap.size, 0, none⟩)) ?_ ?_)
          · kernel_rfl
          have hA32 := VAt.new (w := W31) (k := 0) (n := 0) (s := ⟨#[]⟩) (y := false) (e := 0)
          generalize W31.alloc (.cells #[.int .i64 0, .float .f64 0, .string ⟨#[]⟩, .bool false, .int .i64 0] 37 (0, 0)) = W32 at hA32 ⊢
          have n32 := n31.fr hA32.2
          have a7_32 := a7_31.fr hA32.2 id
          have hne : Wd.heap.size ≠ W31.heap.size ∧ W31.heap.size ≠ Wd.heap.size := by have := a7_31.lt; omega
          refine hK.out _ _ ⟨n32.1, n32.2.1⟩ (fun hHeld32 => ?_)
          clear hK KK
          refine wpAnyH_ready (rs := [6]) (by kernel_rfl) (by simp) ?_
          refine AllReadyH.cons rfl (fun KK hK => ?_) AllReadyH.nil
          (with_reducible refine ite_inH ?_ ?_)
          · kernel_rfl
          (with_reducible refine wp_storeV (.tmp 7) (.tmp 12) ?_ (Wd.heap.size) 1 x ⟨#[]⟩ false 0 ?_ ?_ a7_32 ?_)
          · kernel_rfl
          · kernel_rfl
          · kernel_rfl
          intro W33 hV33 hG33
          have n33 := n32.st hG33 nd.2.2.2.2
          have a8_33 := hA32.1.keep hG33 (by first | exact hne.1 | exact hne.2)
          refine hK.out _ _ ⟨n33.1, n33.2.1⟩ (fun hHeld33 => ?_)
          clear hK KK
          refine wpAnyH_ready (rs := [7]) (by kernel_rfl) (by simp) ?_
          refine AllReadyH.cons rfl (fun KK hK => ?_) AllReadyH.nil
          (with_reducible refine ite_inH ?_ ?_)
          · kernel_rfl
          (with_reducible refine wp_storeV (.tmp 8) (.tmp 14) ?_ (W31.heap.size) 1 y ⟨#[]⟩ false 0 ?_ ?_ a8_33 ?_)
          · kernel_rfl
          · kernel_rfl
          · kernel_rfl
          intro W34 hV34 hG34
          have n34 := n33.st hG34 n31.2.2.2.2
          have a7_34 := hV33.keep hG34 (by first | exact hne.1 | exact hne.2)
          refine hK.out _ _ ⟨n34.1, n34.2.1⟩ (fun hHeld34 => ?_)
          clear hK KK
          refine wpAnyH_done (by kernel_rfl) ?_ _
          refine fr_toH { tmps := #[.func (.func g) #[] #[], (.agg #[.int .i64 1, .float .f64 x, .string ⟨#[]⟩, .bool false, .int .i64 0]), (.agg #[.int .i64 1, .float .f64 y, .string ⟨#[]⟩, .bool false, .int .i64 0]), undef, .pointer (some ⟨w.heap.size, 0, none⟩), .pointer (some ⟨w.heap.size + 1, 0, none⟩), .pointer (some ⟨w.heap.size + 1 + 1, 0, none⟩), .pointer (some ⟨Wd.heap.size, 0, none⟩), .pointer (some ⟨W31.heap.size, 0, none⟩), undef, undef, (.agg #[.int .i64 1, .float .f64 x, .string ⟨#[]⟩, .bool false, .int .i64 0]), (.agg #[.int .i64 1, .float .f64 x, .string ⟨#[]⟩, .bool false, .int .i64 0]), (.agg #[.int .i64 1, .float .f64 y, .string ⟨#[]⟩, .bool false, .int .i64 0]), (.agg #[.int .i64 1, .float .f64 y, .string ⟨#[]⟩, .bool false, .int .i64 0]), undef, undef, undef, undef, undef, undef, undef, undef, undef, undef, undef, undef, undef, undef], defers := [] } (by kernel_rfl) ?_
          go_wp2_with fail
          go_meet
          exact ⟨Wd.heap.size, W31.heap.size, rfl, rfl, a7_34, hV34, nd.2.2.2.2, n31.2.2.2.2, n34⟩
        refine AllReadyH.cons rfl (fun KK hK => ?_) AllReadyH.nil
        (with_reducible refine ite_inH ?_ ?_)
        · kernel_rfl
        (with_reducible refine wp_valH (w' := W30.alloc (.cells #[.int .i64 0, .float .f64 0, .string ⟨#[]⟩, .bool false, .int .i64 0] 37 (0, 0))) (.pointer (some ⟨W30.heap.size, 0, none⟩)) ?_ ?_)
        · kernel_rfl
        have hA35 := VAt.new (w := W30) (k := 0) (n := 0) (s := ⟨#[]⟩) (y := false) (e := 0)
        generalize W30.alloc (.cells #[.int .i64 0, .float .f64 0, .string ⟨#[]⟩, .bool false, .int .i64 0] 37 (0, 0)) = W35 at hA35 ⊢
        have n35 := n30.fr hA35.2
        have a7_35 := a7_30.fr hA35.2 id
        have hne : Wd.heap.size ≠ W30.heap.size ∧ W30.heap.size ≠ Wd.heap.size := by have := a7_30.lt; omega
        refine hK.out _ _ ⟨n35.1, n35.2.1⟩ (fun hHeld35 => ?_)
        clear hK KK
        refine wpAnyH_ready (rs := [3]) (by kernel_rfl) (by simp) ?_
        refine AllReadyH.cons rfl (fun KK hK => ?_) AllReadyH.nil
        (with_reducible refine ite_inH ?_ ?_)
        · kernel_rfl
        (with_reducible refine wp_goH 77 #[(.agg #[.int .i64 1, .float .f64 y, .string ⟨#[]⟩, .bool false, .int .i64 0])] ?_ ?_)
        · kernel_rfl
        (with_reducible refine (HY _).mono ?_)
        rintro e W36 ⟨rfl, hF36⟩
        have n36 := n35.fr hF36
        have a7_36 := a7_35.fr hF36 id
        have a8_36 := hA35.1.fr hF36 id
        refine hK.out _ _ ⟨n36.1, n36.2.1⟩ (fun hHeld36 => ?_)
        clear hK KK
        refine wpAnyH_ready (rs := [6]) (by kernel_rfl) (by simp) ?_
        refine AllReadyH.cons rfl (fun KK hK => ?_) AllReadyH.nil
        (with_reducible refine ite_inH ?_ ?_)
        · kernel_rfl
        (with_reducible refine wp_storeV (.tmp 7) (.tmp 12) ?_ (Wd.heap.size) 1 x ⟨#[]⟩ false 0 ?_ ?_ a7_36 ?_)
        · kernel_rfl
        · kernel_rfl
        · kernel_rfl
        intro W37 hV37 hG37
        have n37 := n36.st hG37 nd.2.2.2.2
        have a8_37 := a8_36.keep hG37 (by first | exact hne.1 | exact hne.2)
        refine hK.out _ _ ⟨n37.1, n37.2.1⟩ (fun hHeld37 => ?_)
        clear hK KK
        refine wpAnyH_ready (rs := [7]) (by kernel_rfl) (by simp) ?_
        refine AllReadyH.cons rfl (fun KK hK => ?_) AllReadyH.nil
        (with_reducible refine ite_inH ?_ ?_)
        · kernel_rfl
        (with_reducible refine wp_storeV (.tmp 8) (.tmp 14) ?_ (W30.heap.size) 1 y ⟨#[]⟩ false 0 ?_ ?_ a8_37 ?_)
        · kernel_rfl
        · kernel_rfl
        · kernel_rfl
        intro W38 hV38 hG38
        have n38 := n37.st hG38 n30.2.2.2.2
        have a7_38 := hV37.keep hG38 (by first | exact hne.1 | exact hne.2)
        refine hK.out _ _ ⟨n38.1, n38.2.1⟩ (fun hHeld38 => ?_)
        clear hK KK
        refine wpAnyH_done (by kernel_rfl) ?_ _
        refine fr_toH { tmps := #[.func (.func g) #[] #[], (.agg #[.int .i64 1, .float .f64 x, .string ⟨#[]⟩, .bool false, .int .i64 0]), (.agg #[.int .i64 1, .float .f64 y, .string ⟨#[]⟩, .bool false, .int .i64 0]), undef, .pointer (some ⟨w.heap.size, 0, none⟩), .pointer (some ⟨w.heap.size + 1, 0, none⟩), .pointer (some ⟨w.heap.size + 1 + 1, 0, none⟩), .pointer (some ⟨Wd.heap.size, 0, none⟩), .pointer (some ⟨W30.heap.size, 0, none⟩), undef, undef, (.agg #[.int .i64 1, .float .f64 x, .string ⟨#[]⟩, .bool false, .int .i64 0]), (.agg #[.int .i64 1, .float .f64 x, .string ⟨#[]⟩, .bool false, .int .i64 0]), (.agg #[.int .i64 1, .float .f64 y, .string ⟨#[]⟩, .bool false, .int .i64 0]), (.agg #[.int .i64 1, .float .f64 y, .string ⟨#[]⟩, .bool false, .int .i64 0]), undef, undef, undef, undef, undef, undef, undef, undef, undef, undef, undef, undef, undef, undef], defers := [] } (by kernel_rfl) ?_
        go_wp2_with fail
        go_meet
        exact ⟨Wd.heap.size, W30.heap.size, rfl, rfl, a7_38, hV38, nd.2.2.2.2, n30.2.2.2.2, n38⟩
      refine AllReadyH.cons rfl (fun KK hK => ?_) AllReadyH.nil
      (with_reducible refine ite_inH ?_ ?_)
      · kernel_rfl
      (with_reducible refine wp_valH (w' := W29.alloc (.cells #[.int .i64 0, .float .f64 0, .string ⟨#[]⟩, .bool false, .int .i64 0] 37 (0, 0))) (.pointer (some ⟨W29.heap.size, 0, none⟩)) ?_ ?_)
      · kernel_rfl
      have hA39 := VAt.new (w := W29) (k := 0) (n := 0) (s := ⟨#[]⟩) (y := false) (e := 0)
      generalize W29.alloc (.cells #[.int .i64 0, .float .f64 0, .string ⟨#[]⟩, .bool false, .int .i64 0] 37 (0, 0)) = W39 at hA39 ⊢
      have n39 := n29.fr hA39.2
      have a7_39 := hA29.1.fr hA39.2 id
      have hne : Wd.heap.size ≠ W29.heap.size ∧ W29.heap.size ≠ Wd.heap.size := by have := hA29.1.lt; omega
      refine hK.out _ _ ⟨n39.1, n39.2.1⟩ (fun hHeld39 => ?_)
      clear hK KK
      refine wpAnyH_ready (rs := [1]) (by kernel_rfl) (by simp) ?_
      refine AllReadyH.cons rfl (fun KK hK => ?_) AllReadyH.nil
      (with_reducible refine ite_inH ?_ ?_)
      · kernel_rfl
      (with_reducible refine wp_goH 77 #[(.agg #[.int .i64 1, .float .f64 x, .string ⟨#[]⟩, .bool false, .int .i64 0])] ?_ ?_)
      · kernel_rfl
      (with_reducible refine (HX _).mono ?_)
      rintro e W40 ⟨rfl, hF40⟩
      have n40 := n39.fr hF40
      have a7_40 := a7_39.fr hF40 id
      have a8_40 := hA39.1.fr hF40 id
      refine hK.out _ _ ⟨n40.1, n40.2.1⟩ (fun hHeld40 => ?_)
      clear hK KK
      refine wpAnyH_ready (rs := [3]) (by kernel_rfl) (by simp) ?_
      refine AllReadyH.cons rfl (fun KK hK => ?_) AllReadyH.nil
      (with_reducible refine ite_inH ?_ ?_)
      · kernel_rfl
      (with_reducible refine wp_goH 77 #[(.agg #[.int .i64 1, .float .f64 y, .string ⟨#[]⟩, .bool false, .int .i64 0])] ?_ ?_)
      · kernel_rfl
      (with_reducible refine (HY _).mono ?_)
      rintro e W41 ⟨rfl, hF41⟩
      have n41 := n40.fr hF41
      have a7_41 := a7_40.fr hF41 id
      have a8_41 := a8_40.fr hF41 id
      refine hK.out _ _ ⟨n41.1, n41.2.1⟩ (fun hHeld41 => ?_)
      clear hK KK
      refine wpAnyH_ready (rs := [6]) (by kernel_rfl) (by simp) ?_
      refine AllReadyH.cons rfl (fun KK hK => ?_) AllReadyH.nil
      (with_reducible refine ite_inH ?_ ?_)
      · kernel_rfl
      (with_reducible refine wp_storeV (.tmp 7) (.tmp 12) ?_ (Wd.heap.size) 1 x ⟨#[]⟩ false 0 ?_ ?_ a7_41 ?_)
      · kernel_rfl
      · kernel_rfl
      · kernel_rfl
      intro W42 hV42 hG42
      have n42 := n41.st hG42 nd.2.2.2.2
      have a8_42 := a8_41.keep hG42 (by first | exact hne.1 | exact hne.2)
      refine hK.out _ _ ⟨n42.1, n42.2.1⟩ (fun hHeld42 => ?_)
      clear hK KK
      refine wpAnyH_ready (rs := [7]) (by kernel_rfl) (by simp) ?_
      refine AllReadyH.cons rfl (fun KK hK => ?_) AllReadyH.nil
      (with_reducible refine ite_inH ?_ ?_)
      · kernel_rfl
      (with_reducible refine wp_storeV (.tmp 8) (.tmp 14) ?_ (W29.heap.size) 1 y ⟨#[]⟩ false 0 ?_ ?_ a8_42 ?_)
      · kernel_rfl
      · kernel_rfl
      · kernel_rfl
      intro W43 hV43 hG43
      have n43 := n42.st hG43 n29.2.2.2.2
      have a7_43 := hV42.keep hG43 (by first | exact hne.1 | exact hne.2)
      refine hK.out _ _ ⟨n43.1, n43.2.1⟩ (fun hHeld43 => ?_)
      clear hK KK
      refine wpAnyH_done (by kernel_rfl) ?_ _
      refine fr_toH { tmps := #[.func (.func g) #[] #[], (.agg #[.int .i64 1, .float .f64 x, .string ⟨#[]⟩, .bool false, .int .i64 0]), (.agg #[.int .i64 1, .float .f64 y, .string ⟨#[]⟩, .bool false, .int .i64 0]), undef, .pointer (some ⟨w.heap.size, 0, none⟩), .pointer (some ⟨w.heap.size + 1, 0, none⟩), .pointer (some ⟨w.heap.size + 1 + 1, 0, none⟩), .pointer (some ⟨Wd.heap.size, 0, none⟩), .pointer (some ⟨W29.heap.size, 0, none⟩), undef, undef, (.agg #[.int .i64 1, .float .f64 x, .string ⟨#[]⟩, .bool false, .int .i64 0]), (.agg #[.int .i64 1, .float .f64 x, .string ⟨#[]⟩, .bool false, .int .i64 0]), (.agg #[.int .i64 1, .float .f64 y, .string ⟨#[]⟩, .bool false, .int .i64 0]), (.agg #[.int .i64 1, .float .f64 y, .string ⟨#[]⟩, .bool false, .int .i64 0]), undef, undef, undef, undef, undef, undef, undef, undef, undef, undef, undef, undef, undef, undef], defers := [] } (by kernel_rfl) ?_
      go_wp2_with fail
      go_meet
      exact ⟨Wd.heap.size, W29.heap.size, rfl, rfl, a7_43, hV43, nd.2.2.2.2, n29.2.2.2.2, n43⟩
    refine AllReadyH.cons rfl (fun KK hK => ?_) AllReadyH.nil
    (with_reducible refine ite_inH ?_ ?_)
    · kernel_rfl
    (with_reducible refine wp_valH (w' := Wd.alloc (.cells #[.int .i64 0, .float .f64 0, .string ⟨#[]⟩, .bool false, .int .i64 0] 37 (0, 0))) (.pointer (some ⟨Wd.heap.size, 0, none⟩)) ?_ ?_)
    · kernel_rfl
    have hA44 := VAt.new (w := Wd) (k := 0) (n := 0) (s := ⟨#[]⟩) (y := false) (e := 0)
    generalize Wd.alloc (.cells #[.int .i64 0, .float .f64 0, .string ⟨#[]⟩, .bool false, .int .i64 0] 37 (0, 0)) = W44 at hA44 ⊢
    have n44 := nd.fr hA44.2
    refine hK.out _ _ ⟨n44.1, n44.2.1⟩ (fun hHeld44 => ?_)
    clear hK KK
    refine wpAnyH_ready (rs := [1, 4]) (by kernel_rfl) (by simp) ?_
    refine AllReadyH.cons rfl (fun KK hK => ?_) ?_
    · skip
      (with_reducible refine ite_inH ?_ ?_)
      · kernel_rfl
      (with_reducible refine wp_goH 77 #[(.agg #[.int .i64 1, .float .f64 x, .string ⟨#[]⟩, .bool false, .int .i64 0])] ?_ ?_)
      · kernel_rfl
      (with_reducible refine (HX _).mono ?_)
      rintro e W45 ⟨rfl, hF45⟩
      have n45 := n44.fr hF45
      have a8_45 := hA44.1.fr hF45 id
      refine hK.out _ _ ⟨n45.1, n45.2.1⟩ (fun hHeld45 => ?_)
      clear hK KK
      refine wpAnyH_ready (rs := [3, 4]) (by kernel_rfl) (by simp) ?_
      refine AllReadyH.cons rfl (fun KK hK => ?_) ?_
      · skip
        (with_reducible refine ite_inH ?_ ?_)
        · kernel_rfl
        (with_reducible refine wp_goH 77 #[(.agg #[.int .i64 1, .float .f64 y, .string ⟨#[]⟩, .bool false, .int .i64 0])] ?_ ?_)
        · kernel_rfl
        (with_reducible refine (HY _).mono ?_)
        rintro e W46 ⟨rfl, hF46⟩
        have n46 := n45.fr hF46
        have a8_46 := a8_45.fr hF46 id
        refine hK.out _ _ ⟨n46.1, n46.2.1⟩ (fun hHeld46 => ?_)
        clear hK KK
        refine wpAnyH_ready (rs := [4]) (by kernel_rfl) (by simp) ?_
        refine AllReadyH.cons rfl (fun KK hK => ?_) AllReadyH.nil
        (with_reducible refine ite_inH ?_ ?_)
        · kernel_rfl
        (with_reducible refine wp_valH (w' := W46.alloc (.cells #[.int .i64 0, .float .f64 0, .string ⟨#[]⟩, .bool false, .int .i64 0] 37 (0, 0))) (.pointer (some ⟨W46.heap.size, 0, none⟩)) ?_ ?_)
        · kernel_rfl
        have hA47 := VAt.new (w := W46) (k := 0) (n := 0) (s := ⟨#[]⟩) (y := false) (e := 0)
        generalize W46.alloc (.cells #[.int .i64 0, .float .f64 0, .string ⟨#[]⟩, .bool false, .int .i64 0] 37 (0, 0)) = W47 at hA47 ⊢
        have n47 := n46.fr hA47.2
        have a8_47 := a8_46.fr hA47.2 id
        have hne : Wd.heap.size ≠ W46.heap.size ∧ W46.heap.size ≠ Wd.heap.size := by have := a8_46.lt; omega
        refine hK.out _ _ ⟨n47.1, n47.2.1⟩ (fun hHeld47 => ?_)
        clear hK KK
        refine wpAnyH_ready (rs := [6]) (by kernel_rfl) (by simp) ?_
        refine AllReadyH.cons rfl (fun KK hK => ?_) AllReadyH.nil
        (with_reducible refine ite_inH ?_ ?_)
        · kernel_rfl
        (with_reducible refine wp_storeV (.tmp 7) (.tmp 12) ?_ (W46.heap.size) 1 x ⟨#[]⟩ false 0 ?_ ?_ hA47.1 ?_)
        · kernel_rfl
        · kernel_rfl
        · kernel_rfl
        intro W48 hV48 hG48
        have n48 := n47.st hG48 n46.2.2.2.2
        have a8_48 := a8_47.keep hG48 (by first | exact hne.1 | exact hne.2)
        refine hK.out _ _ ⟨n48.1, n48.2.1⟩ (fun hHeld48 => ?_)
        clear hK KK
        refine wpAnyH_ready (rs := [7]) (by kernel_rfl) (by simp) ?_
        refine AllReadyH.cons rfl (fun KK hK => ?_) AllReadyH.nil
        (with_reducible refine ite_inH ?_ ?_)
        · kernel_rfl
        (with_reducible refine wp_storeV (.tmp 8) (.tmp 14) ?_ (Wd.heap.size) 1 y ⟨#[]⟩ false 0 ?_ ?_ a8_48 ?_)
        · kernel_rfl
        · kernel_rfl
        · kernel_rfl
        intro W49 hV49 hG49
        have n49 := n48.st hG49 nd.2.2.2.2
        have a7_49 := hV48.keep hG49 (by first | exact hne.1 | exact hne.2)
        refine hK.out _ _ ⟨n49.1, n49.2.1⟩ (fun hHeld49 => ?_)
        clear hK KK
        refine wpAnyH_done (by kernel_rfl) ?_ _
        refine fr_toH { tmps := #[.func (.func g) #[] #[], (.agg #[.int .i64 1, .float .f64 x, .string ⟨#[]⟩, .bool false, .int .i64 0]), (.agg #[.int .i64 1, .float .f64 y, .string ⟨#[]⟩, .bool false, .int .i64 0]), undef, .pointer (some ⟨w.heap.size, 0, none⟩), .pointer (some ⟨w.heap.size + 1, 0, none⟩), .pointer (some ⟨w.heap.size + 1 + 1, 0, none⟩), .pointer (some ⟨W46.heap.size, 0, none⟩), .pointer (some ⟨Wd.heap.size, 0, none⟩), undef, undef, (.agg #[.int .i64 1, .float .f64 x, .string ⟨#[]⟩, .bool false, .int .i64 0]), (.agg #[.int .i64 1, .float .f64 x, .string ⟨#[]⟩, .bool false, .int .i64 0]), (.agg #[.int .i64 1, .float .f64 y, .string ⟨#[]⟩, .bool false, .int .i64 0]), (.agg #[.int .i64 1, .float .f64 y, .string ⟨#[]⟩, .bool false, .int .i64 0]), undef, undef, undef, undef, undef, undef, undef, undef, undef, undef, undef, undef, undef, undef], defers := [] } (by kernel_rfl) ?_
        go_wp2_with fail
        go_meet
        exact ⟨W46.heap.size, Wd.heap.size, rfl, rfl, a7_49, hV49, n46.2.2.2.2, nd.2.2.2.2, n49⟩
      refine AllReadyH.cons rfl (fun KK hK => ?_) AllReadyH.nil
      (with_reducible refine ite_inH ?_ ?_)
      · kernel_rfl
      (with_reducible refine wp_valH (w' := W45.alloc (.cells #[.int .i64 0, .float .f64 0, .string ⟨#[]⟩, .bool false, .int .i64 0] 37 (0, 0))) (.pointer (some ⟨W45.heap.size, 0, none⟩)) ?_ ?_)
      · kernel_rfl
      have hA50 := VAt.new (w := W45) (k := 0) (n := 0) (s := ⟨#[]⟩) (y := false) (e := 0)
      generalize W45.alloc (.cells #[.int .i64 0, .float .f64 0, .string ⟨#[]⟩, .bool false, .int .i64 0] 37 (0, 0)) = W50 at hA50 ⊢
      have n50 := n45.fr hA50.2
      have a8_50 := a8_45.fr hA50.2 id
      have hne : Wd.heap.size ≠ W45.heap.size ∧ W45.heap.size ≠ Wd.heap.size := by have := a8_45.lt; omega
      refine hK.out _ _ ⟨n50.1, n50.2.1⟩ (fun hHeld50 => ?_)
      clear hK KK
      refine wpAnyH_ready (rs := [3]) (by kernel_rfl) (by simp) ?_
      refine AllReadyH.cons rfl (fun KK hK => ?_) AllReadyH.nil
      (with_reducible refine ite_inH ?_ ?_)
      · kernel_rfl
      (with_reducible refine wp_goH 77 #[(.agg #[.int .i64 1, .float .f64 y, .string ⟨#[]⟩, .bool false, .int .i64 0])] ?_ ?_)
      · kernel_rfl
      (with_reducible refine (HY _).mono ?_)
      rintro e W51 ⟨rfl, hF51⟩
      have n51 := n50.fr hF51
      have a8_51 := a8_50.fr hF51 id
      have a7_51 := hA50.1.fr hF51 id
      refine hK.out _ _ ⟨n51.1, n51.2.1⟩ (fun hHeld51 => ?_)
      clear hK KK
      refine wpAnyH_ready (rs := [6]) (by kernel_rfl) (by simp) ?_
      refine AllReadyH.cons rfl (fun KK hK => ?_) AllReadyH.nil
      (with_reducible refine ite_inH ?_ ?_)
      · kernel_rfl
      (with_reducible refine wp_storeV (.tmp 7) (.tmp 12) ?_ (W45.heap.size) 1 x ⟨#[]⟩ false 0 ?_ ?_ a7_51 ?_)
      · kernel_rfl
      · kernel_rfl
      · kernel_rfl
      intro W52 hV52 hG52
      have n52 := n51.st hG52 n45.2.2.2.2
      have a8_52 := a8_51.keep hG52 (by first | exact hne.1 | exact hne.2)
      refine hK.out _ _ ⟨n52.1, n52.2.1⟩ (fun hHeld52 => ?_)
      clear hK KK
      refine wpAnyH_ready (rs := [7]) (by kernel_rfl) (by simp) ?_
      refine AllReadyH.cons rfl (fun KK hK => ?_) AllReadyH.nil
      (with_reducible refine ite_inH ?_ ?_)
      · kernel_rfl
      (with_reducible refine wp_storeV (.tmp 8) (.tmp 14) ?_ (Wd.heap.size) 1 y ⟨#[]⟩ false 0 ?_ ?_ a8_52 ?_)
      · kernel_rfl
      · kernel_rfl
      · kernel_rfl
      intro W53 hV53 hG53
      have n53 := n52.st hG53 nd.2.2.2.2
      have a7_53 := hV52.keep hG53 (by first | exact hne.1 | exact hne.2)
      refine hK.out _ _ ⟨n53.1, n53.2.1⟩ (fun hHeld53 => ?_)
      clear hK KK
      refine wpAnyH_done (by kernel_rfl) ?_ _
      refine fr_toH { tmps := #[.func (.func g) #[] #[], (.agg #[.int .i64 1, .float .f64 x, .string ⟨#[]⟩, .bool false, .int .i64 0]), (.agg #[.int .i64 1, .float .f64 y, .string ⟨#[]⟩, .bool false, .int .i64 0]), undef, .pointer (some ⟨w.heap.size, 0, none⟩), .pointer (some ⟨w.heap.size + 1, 0, none⟩), .pointer (some ⟨w.heap.size + 1 + 1, 0, none⟩), .pointer (some ⟨W45.heap.size, 0, none⟩), .pointer (some ⟨Wd.heap.size, 0, none⟩), undef, undef, (.agg #[.int .i64 1, .float .f64 x, .string ⟨#[]⟩, .bool false, .int .i64 0]), (.agg #[.int .i64 1, .float .f64 x, .string ⟨#[]⟩, .bool false, .int .i64 0]), (.agg #[.int .i64 1, .float .f64 y, .string ⟨#[]⟩, .bool false, .int .i64 0]), (.agg #[.int .i64 1, .float .f64 y, .string ⟨#[]⟩, .bool false, .int .i64 0]), undef, undef, undef, undef, undef, undef, undef, undef, undef, undef, undef, undef, undef, undef], defers := [] } (by kernel_rfl) ?_
      go_wp2_with fail
      go_meet
      exact ⟨W45.heap.size, Wd.heap.size, rfl, rfl, a7_53, hV53, n45.2.2.2.2, nd.2.2.2.2, n53⟩
    refine AllReadyH.cons rfl (fun KK hK => ?_) AllReadyH.nil
    (with_reducible refine ite_inH ?_ ?_)
    · kernel_rfl
    (with_reducible refine wp_valH (w' := W44.alloc (.cells #[.int .i64 0, .float .f64 0, .string ⟨#[]⟩, .bool false, .int .i64 0] 37 (0, 0))) (.pointer (some ⟨W44.heap.size, 0, none⟩)) ?_ ?_)
    · kernel_rfl
    have hA54 := VAt.new (w := W44) (k := 0) (n := 0) (s := ⟨#[]⟩) (y := false) (e := 0)
    generalize W44.alloc (.cells #[.int .i64 0, .float .f64 0, .string ⟨#[]⟩, .bool false, .int .i64 0] 37 (0, 0)) = W54 at hA54 ⊢
    have n54 := n44.fr hA54.2
    have a8_54 := hA44.1.fr hA54.2 id
    have hne : Wd.heap.size ≠ W44.heap.size ∧ W44.heap.size ≠ Wd.heap.size := by have := hA44.1.lt; omega
    refine hK.out _ _ ⟨n54.1, n54.2.1⟩ (fun hHeld54 => ?_)
    clear hK KK
    refine wpAnyH_ready (rs := [1]) (by kernel_rfl) (by simp) ?_
    refine AllReadyH.cons rfl (fun KK hK => ?_) AllReadyH.nil
    (with_reducible refine ite_inH ?_ ?_)
    · kernel_rfl
    (with_reducible refine wp_goH 77 #[(.agg #[.int .i64 1, .float .f64 x, .string ⟨#[]⟩, .bool false, .int .i64 0])] ?_ ?_)
    · kernel_rfl
    (with_reducible refine (HX _).mono ?_)
    rintro e W55 ⟨rfl, hF55⟩
    have n55 := n54.fr hF55
    have a8_55 := a8_54.fr hF55 id
    have a7_55 := hA54.1.fr hF55 id
    refine hK.out _ _ ⟨n55.1, n55.2.1⟩ (fun hHeld55 => ?_)
    clear hK KK
    refine wpAnyH_ready (rs := [3]) (by kernel_rfl) (by simp) ?_
    refine AllReadyH.cons rfl (fun KK hK => ?_) AllReadyH.nil
    (with_reducible refine ite_inH ?_ ?_)
    · kernel_rfl
    (with_reducible refine wp_goH 77 #[(.agg #[.int .i64 1, .float .f64 y, .string ⟨#[]⟩, .bool false, .int .i64 0])] ?_ ?_)
    · kernel_rfl
    (with_reducible refine (HY _).mono ?_)
    rintro e W56 ⟨rfl, hF56⟩
    have n56 := n55.fr hF56
    have a8_56 := a8_55.fr hF56 id
    have a7_56 := a7_55.fr hF56 id
    refine hK.out _ _ ⟨n56.1, n56.2.1⟩ (fun hHeld56 => ?_)
    clear hK KK
    refine wpAnyH_ready (rs := [6]) (by kernel_rfl) (by simp) ?_
    refine AllReadyH.cons rfl (fun KK hK => ?_) AllReadyH.nil
    (with_reducible refine ite_inH ?_ ?_)
    · kernel_rfl
    (with_reducible refine wp_storeV (.tmp 7) (.tmp 12) ?_ (W44.heap.size) 1 x ⟨#[]⟩ false 0 ?_ ?_ a7_56 ?_)
    · kernel_rfl
    · kernel_rfl
    · kernel_rfl
    intro W57 hV57 hG57
    have n57 := n56.st hG57 n44.2.2.2.2
    have a8_57 := a8_56.keep hG57 (by first | exact hne.1 | exact hne.2)
    refine hK.out _ _ ⟨n57.1, n57.2.1⟩ (fun hHeld57 => ?_)
    clear hK KK
    refine wpAnyH_ready (rs := [7]) (by kernel_rfl) (by simp) ?_
    refine AllReadyH.cons rfl (fun KK hK => ?_) AllReadyH.nil
    (with_reducible refine ite_inH ?_ ?_)
    · kernel_rfl
    (with_reducible refine wp_storeV (.tmp 8) (.tmp 14) ?_ (Wd.heap.size) 1 y ⟨#[]⟩ false 0 ?_ ?_ a8_57 ?_)
    · kernel_rfl
    · kernel_rfl
    · kernel_rfl
    intro W58 hV58 hG58
    have n58 := n57.st hG58 nd.2.2.2.2
    have a7_58 := hV57.keep hG58 (by first | exact hne.1 | exact hne.2)
    refine hK.out _ _ ⟨n58.1, n58.2.1⟩ (fun hHeld58 => ?_)
    clear hK KK
    refine wpAnyH_done (by kernel_rfl) ?_ _
    refine fr_toH { tmps := #[.func (.func g) #[] #[], (.agg #[.int .i64 1, .float .f64 x, .string ⟨#[]⟩, .bool false, .int .i64 0]), (.agg #[.int .i64 1, .float .f64 y, .string ⟨#[]⟩, .bool false, .int .i64 0]), undef, .pointer (some ⟨w.heap.size, 0, none⟩), .pointer (some ⟨w.heap.size + 1, 0, none⟩), .pointer (some ⟨w.heap.size + 1 + 1, 0, none⟩), .pointer (some ⟨W44.heap.size, 0, none⟩), .pointer (some ⟨Wd.heap.size, 0, none⟩), undef, undef, (.agg #[.int .i64 1, .float .f64 x, .string ⟨#[]⟩, .bool false, .int .i64 0]), (.agg #[.int .i64 1, .float .f64 x, .string ⟨#[]⟩, .bool false, .int .i64 0]), (.agg #[.int .i64 1, .float .f64 y, .string ⟨#[]⟩, .bool false, .int .i64 0]), (.agg #[.int .i64 1, .float .f64 y, .string ⟨#[]⟩, .bool false, .int .i64 0]), undef, undef, undef, undef, undef, undef, undef, undef, undef, undef, undef, undef, undef, undef], defers := [] } (by kernel_rfl) ?_
    go_wp2_with fail
    go_meet
    exact ⟨W44.heap.size, Wd.heap.size, rfl, rfl, a7_58, hV58, n44.2.2.2.2, nd.2.2.2.2, n58⟩
  case rest =>
    obtain ⟨b7, b8, rfl, rfl, h7, h8, p7, p8, nc⟩ := hcut
    clear n0
    have HB : Hid (VAt wc b7 1 x ⟨#[]⟩ false 0 ∧ VAt wc b8 1 y ⟨#[]⟩ false 0) := ⟨h7, h8⟩
    have HN : ∀ W', Fr noB wc W' → NQ w W' x y := fun _ h => nc.fr h
    have HG : Hid _ := hg
    have x0 := h7.c0; have x1 := h7.c1; have x2 := h7.c2; have x3 := h7.c3; have x4 := h7.c4
    have y0 := h8.c0; have y1 := h8.c1; have y2 := h8.c2; have y3 := h8.c3; have y4 := h8.c4
    have hc1 := hc #[.float .f64 x, .float .f64 y]
    clear nc h7 h8 hg hc
    go_wp2_with (first
      | (go_at_call 78; refine (HE _).mono ?_; rintro e w1 ⟨rfl, hF1⟩;  have x1 := ((HB.out.1.fr hF1 id).fr (VAt.new (w := w1) (k := 0) (n := 0) (s := ⟨#[]⟩) (y := false) (e := 0)).2 id).c1; have y1 := ((HB.out.2.fr hF1 id).fr (VAt.new (w := w1) (k := 0) (n := 0) (s := ⟨#[]⟩) (y := false) (e := 0)).2 id).c1; have HM : ∀ W', Fr noB w1 W' → NQ w W' x y := fun _ h => HN _ (hF1.trans h))
      | (with_reducible refine (HG.out _).mono ?_; rintro e w2 ⟨rfl, hF2⟩; have n2 := HM _ (((Fr.refl noB w1).alloc _).trans hF2))
      | (refine wpList_store_val rfl (.tmp 6) (.tmp 28) rfl (w.heap.size + 1 + 1) K M ⟨#[]⟩ false E rfl rfl n2.2.2.1 ?_; intro W3 hW3 hF3; have hG3 := n2.2.2.2.1.new hF3 (by omega)))
    exact bodyPost_ret (vret Tryz.results62 _ _ _ rfl hW3) rfl ⟨rfl, hG3⟩
#print axioms numeric_of
end Go.Proofs.YtpjbobbmldplbaaGreatDoor
/- Operators on two numbers: sums, differences, products, quotients; Binary. -/
namespace Go.Proofs.YtpjbobbmldplbaaGreatDoor
open Go.RowKit Ieee Go.Shelf
attribute [local go_sem] run_store_float

set_option maxRecDepth 100000 in
set_option maxHeartbeats 1000000 in
theorem sum_any (x y r : Nat) (h : floatBits .add .f64 x y = some r) (hr : r < 18446744073709551616) (w : World) : Calls Tryz.prog 65 #[.float .f64 x, .float .f64 y] w fun e w' => e = .returned (.agg #[.int .i64 (rkK r), .float .f64 (rkN r), .string ⟨#[]⟩, .bool false, .int .i64 (rkE r)]) ∧ Fr noB w w' := by
  have HR := preckon_any r hr
  have ho : ∀ W, (binOp .add 35 (.float .f64 x) (.float .f64 y)).run Tryz.prog W = .ok (.float .f64 r) W := fun W => run_float_arith W .add 35 .f64 x y r h
  have HA : Hid (VAt (w.alloc (.cells #[.int .i64 0, .float .f64 0, .string ⟨#[]⟩, .bool false, .int .i64 0] 37 (0, 0))) w.heap.size 0 0 ⟨#[]⟩ false 0 ∧ Fr noB w (w.alloc (.cells #[.int .i64 0, .float .f64 0, .string ⟨#[]⟩, .bool false, .int .i64 0] 37 (0, 0)))) := VAt.new
  generalize rkK r = K at *
  generalize rkN r = M at *
  generalize rkE r = E at *
  clear h hr
  go_enter Tryz.func65, Tryz.ntmps65
  go_wp2_with (first
    | (go_at_call 56; refine (HR _).mono ?_; rintro e w1 ⟨rfl, hF1⟩; have hO1 := HA.out.1.fr hF1 id; have hG1 := HA.out.2.trans hF1)
    | (refine wpList_store_val rfl (.tmp 4) (.tmp 8) rfl w.heap.size K M ⟨#[]⟩ false E rfl rfl hO1 ?_; intro W hW hFW; have hG := hG1.new hFW (Nat.le_refl _)))
  exact bodyPost_ret (vret Tryz.results65 _ _ _ rfl hW) rfl ⟨rfl, hG⟩
set_option maxRecDepth 100000 in
set_option maxHeartbeats 1000000 in
theorem diff_any (x y r : Nat) (h : floatBits .sub .f64 x y = some r) (hr : r < 18446744073709551616) (w : World) : Calls Tryz.prog 66 #[.float .f64 x, .float .f64 y] w fun e w' => e = .returned (.agg #[.int .i64 (rkK r), .float .f64 (rkN r), .string ⟨#[]⟩, .bool false, .int .i64 (rkE r)]) ∧ Fr noB w w' := by
  have HR := preckon_any r hr
  have ho : ∀ W, (binOp .sub 35 (.float .f64 x) (.float .f64 y)).run Tryz.prog W = .ok (.float .f64 r) W := fun W => run_float_arith W .sub 35 .f64 x y r h
  have HA : Hid (VAt (w.alloc (.cells #[.int .i64 0, .float .f64 0, .string ⟨#[]⟩, .bool false, .int .i64 0] 37 (0, 0))) w.heap.size 0 0 ⟨#[]⟩ false 0 ∧ Fr noB w (w.alloc (.cells #[.int .i64 0, .float .f64 0, .string ⟨#[]⟩, .bool false, .int .i64 0] 37 (0, 0)))) := VAt.new
  generalize rkK r = K at *
  generalize rkN r = M at *
  generalize rkE r = E at *
  clear h hr
  go_enter Tryz.func66, Tryz.ntmps66
  go_wp2_with (first
    | (go_at_call 56; refine (HR _).mono ?_; rintro e w1 ⟨rfl, hF1⟩; have hO1 := HA.out.1.fr hF1 id; have hG1 := HA.out.2.trans hF1)
    | (refine wpList_store_val rfl (.tmp 4) (.tmp 8) rfl w.heap.size K M ⟨#[]⟩ false E rfl rfl hO1 ?_; intro W hW hFW; have hG := hG1.new hFW (Nat.le_refl _)))
  exact bodyPost_ret (vret Tryz.results66 _ _ _ rfl hW) rfl ⟨rfl, hG⟩
set_option maxRecDepth 100000 in
set_option maxHeartbeats 1000000 in
theorem prod_any (x y r : Nat) (h : floatBits .mul .f64 x y = some r) (hr : r < 18446744073709551616) (w : World) : Calls Tryz.prog 63 #[.float .f64 x, .float .f64 y] w fun e w' => e = .returned (.agg #[.int .i64 (rkK r), .float .f64 (rkN r), .string ⟨#[]⟩, .bool false, .int .i64 (rkE r)]) ∧ Fr noB w w' := by
  have HR := preckon_any r hr
  have ho : ∀ W, (binOp .mul 35 (.float .f64 x) (.float .f64 y)).run Tryz.prog W = .ok (.float .f64 r) W := fun W => run_float_arith W .mul 35 .f64 x y r h
  have HA : Hid (VAt (w.alloc (.cells #[.int .i64 0, .float .f64 0, .string ⟨#[]⟩, .bool false, .int .i64 0] 37 (0, 0))) w.heap.size 0 0 ⟨#[]⟩ false 0 ∧ Fr noB w (w.alloc (.cells #[.int .i64 0, .float .f64 0, .string ⟨#[]⟩, .bool false, .int .i64 0] 37 (0, 0)))) := VAt.new
  generalize rkK r = K at *
  generalize rkN r = M at *
  generalize rkE r = E at *
  clear h hr
  go_enter Tryz.func63, Tryz.ntmps63
  go_wp2_with (first
    | (go_at_call 56; refine (HR _).mono ?_; rintro e w1 ⟨rfl, hF1⟩; have hO1 := HA.out.1.fr hF1 id; have hG1 := HA.out.2.trans hF1)
    | (refine wpList_store_val rfl (.tmp 4) (.tmp 8) rfl w.heap.size K M ⟨#[]⟩ false E rfl rfl hO1 ?_; intro W hW hFW; have hG := hG1.new hFW (Nat.le_refl _)))
  exact bodyPost_ret (vret Tryz.results63 _ _ _ rfl hW) rfl ⟨rfl, hG⟩
set_option maxRecDepth 100000 in
set_option maxHeartbeats 1000000 in
theorem quot_any (x y r : Nat) (h : floatBits .quo .f64 x y = some r) (hr : r < 18446744073709551616) (hz : (FloatKind.f64.format.order y 0 == some .eq) = false) (w : World) : Calls Tryz.prog 64 #[.float .f64 x, .float .f64 y] w fun e w' => e = .returned (.agg #[.int .i64 (rkK r), .float .f64 (rkN r), .string ⟨#[]⟩, .bool false, .int .i64 (rkE r)]) ∧ Fr noB w w' := by
  have HR := preckon_any r hr
  have ho : ∀ W, (binOp .quo 35 (.float .f64 x) (.float .f64 y)).run Tryz.prog W = .ok (.float .f64 r) W := fun W => run_float_arith W .quo 35 .f64 x y r h
  have HA : Hid (VAt (w.alloc (.cells #[.int .i64 0, .float .f64 0, .string ⟨#[]⟩, .bool false, .int .i64 0] 37 (0, 0))) w.heap.size 0 0 ⟨#[]⟩ false 0 ∧ Fr noB w (w.alloc (.cells #[.int .i64 0, .float .f64 0, .string ⟨#[]⟩, .bool false, .int .i64 0] 37 (0, 0)))) := VAt.new
  generalize rkK r = K at *
  generalize rkN r = M at *
  generalize rkE r = E at *
  clear h hr
  go_enter Tryz.func64, Tryz.ntmps64
  go_wp2_with (first
    | (go_at_call 56; refine (HR _).mono ?_; rintro e w1 ⟨rfl, hF1⟩; have hO1 := HA.out.1.fr hF1 id; have hG1 := HA.out.2.trans hF1)
    | (refine wpList_store_val rfl (.tmp 4) (.tmp 11) rfl w.heap.size K M ⟨#[]⟩ false E rfl rfl hO1 ?_; intro W hW hFW; have hG := hG1.new hFW (Nat.le_refl _)))
  exact bodyPost_ret (vret Tryz.results64 _ _ _ rfl hW) rfl ⟨rfl, hG⟩
theorem fm_num {x : Nat} (hf : finB x = true) (hz : x ≠ 9223372036854775808) : ckF 1 x ⟨#[]⟩ false 0 = 0 := by
  simp [ckF, fm, hf, hz]
  decide
set_option maxRecDepth 100000 in
set_option maxHeartbeats 2000000 in
theorem binary_of (k g x y : Nat) (h : (k = 12 ∧ g = 61) ∨ (k = 13 ∧ g = 63) ∨ (k = 14 ∧ g = 64) ∨ (k = 15 ∧ g = 65) ∨ (k = 16 ∧ g = 66)) (hx : x < 18446744073709551616) (hy : y < 18446744073709551616) (hfx : finB x = true) (hfy : finB y = true) (hzx : x ≠ 9223372036854775808) (hzy : y ≠ 9223372036854775808)
    (K : Int) (M : Nat) (E : Int) (hg : ∀ W, Calls Tryz.prog g #[.float .f64 x, .float .f64 y] W fun e w' => e = .returned (.agg #[.int .i64 K, .float .f64 M, .string ⟨#[]⟩, .bool false, .int .i64 E]) ∧ Fr noB W w') (w : World) (hU : U8 w) :
    Calls Tryz.prog 23 #[.int .i64 (k : Int), (.agg #[.int .i64 1, .float .f64 x, .string ⟨#[]⟩, .bool false, .int .i64 0]), (.agg #[.int .i64 1, .float .f64 y, .string ⟨#[]⟩, .bool false, .int .i64 0])] w fun e w' => e = .returned (.agg #[.int .i64 K, .float .f64 M, .string ⟨#[]⟩, .bool false, .int .i64 E]) ∧ Fr noB w w' := by
  have hc : ∀ (l : Array Value) (W : World), (callFunc g l).run Tryz.prog W = .ok (.enter g l) W := by
    intro l W
    rcases h with ⟨_, rfl⟩ | ⟨_, rfl⟩ | ⟨_, rfl⟩ | ⟨_, rfl⟩ | ⟨_, rfl⟩ <;> kernel_rfl
  have HK : Hid (∀ W, Fr noB w W → Calls Tryz.prog 42 #[(.agg #[.int .i64 1, .float .f64 x, .string ⟨#[]⟩, .bool false, .int .i64 0])] W fun e w' => e = .returned (.int .i64 0) ∧ Fr noB W w') := by
    intro W hF
    have hh := pcheck_any 1 x hx ⟨#[]⟩ false 0 W (by decide) (hU.fr hF)
    rw [fm_num hfx hzx] at hh
    exact hh
  have HL : Hid (∀ W, Fr noB w W → Calls Tryz.prog 42 #[(.agg #[.int .i64 1, .float .f64 y, .string ⟨#[]⟩, .bool false, .int .i64 0])] W fun e w' => e = .returned (.int .i64 0) ∧ Fr noB W w') := by
    intro W hF
    have hh := pcheck_any 1 y hy ⟨#[]⟩ false 0 W (by decide) (hU.fr hF)
    rw [fm_num hfy hzy] at hh
    exact hh
  have HB := binary_num k g h
  have HN := numeric_of g x y hx hy hfx hfy hzx hzy K M E hg hc
  have hN : NQ w (((w.alloc (.cells #[.int .i64 1, .float .f64 x, .string ⟨#[]⟩, .bool false, .int .i64 0] 37 (0, 0))).alloc (.cells #[.int .i64 1, .float .f64 y, .string ⟨#[]⟩, .bool false, .int .i64 0] 37 (0, 0))).alloc (.cells #[.int .i64 0, .float .f64 0, .string ⟨#[]⟩, .bool false, .int .i64 0] 37 (0, 0))) x y := ⟨⟨old1 (old1 (new1 _ _ _ rfl))⟩, ⟨old1 (new1 _ _ _ (by simp))⟩, ⟨new1 _ _ _ (by simp)⟩, (((Fr.refl noB w).alloc _).alloc _).alloc _, by simp⟩
  have HQ : ∀ W', Fr noB (((w.alloc (.cells #[.int .i64 1, .float .f64 x, .string ⟨#[]⟩, .bool false, .int .i64 0] 37 (0, 0))).alloc (.cells #[.int .i64 1, .float .f64 y, .string ⟨#[]⟩, .bool false, .int .i64 0] 37 (0, 0))).alloc (.cells #[.int .i64 0, .float .f64 0, .string ⟨#[]⟩, .bool false, .int .i64 0] 37 (0, 0))) W' → NQ w W' x y := fun _ hF => hN.fr hF
  have HF0 : Hid (Fr noB w (((w.alloc (.cells #[.int .i64 1, .float .f64 x, .string ⟨#[]⟩, .bool false, .int .i64 0] 37 (0, 0))).alloc (.cells #[.int .i64 1, .float .f64 y, .string ⟨#[]⟩, .bool false, .int .i64 0] 37 (0, 0))).alloc (.cells #[.int .i64 0, .float .f64 0, .string ⟨#[]⟩, .bool false, .int .i64 0] 37 (0, 0)))) := hN.2.2.2.1
  clear hx hy hfx hfy hzx hzy hg hc hU h hN
  go_enter Tryz.func23, Tryz.ntmps23
  go_wp2_with (first
    | (go_at_call 42; with_reducible refine (HK.out _ HF0.out).mono ?_; rintro e w1 ⟨rfl, hF1⟩; have n1 := HQ _ hF1; have y0 := n1.py.c0; have y1 := n1.py.c1; have y2 := n1.py.c2; have y3 := n1.py.c3; have y4 := n1.py.c4)
    | (go_at_call 42; with_reducible refine (HL.out _ n1.pf).mono ?_; rintro e w2 ⟨rfl, hF2⟩; have n2 := n1.fr hF2))
  refine wp_region_held_drew (S := fun W => VAt W w.heap.size 1 x ⟨#[]⟩ false 0 ∧ VAt W (w.heap.size + 1) 1 y ⟨#[]⟩ false 0) (by kernel_rfl) ⟨n2.px.fr (Fr.refl noB w2).drew id, n2.py.fr (Fr.refl noB w2).drew id⟩ (fun hHeld => ?_)
  refine wpAnyH_take (i := 0) (v := .int .i64 (k : Int)) rfl (by kernel_rfl) (by kernel_rfl) (by kernel_rfl) (fun _ _ _ h => h) (Or.inl ⟨by kernel_rfl, fun w hSw => by kernel_rfl⟩) hHeld ?_
  refine wpAnyH_take (i := 2) (v := (.agg #[.int .i64 1, .float .f64 x, .string ⟨#[]⟩, .bool false, .int .i64 0])) rfl (by kernel_rfl) (by kernel_rfl) (by kernel_rfl) (fun _ _ _ h => h) (y_loadH 37 (.tmp 4) (.pointer (some ⟨w.heap.size, 0, none⟩)) _ (by kernel_rfl) rfl (by kernel_rfl) (fun w h => load_v h.1)) hHeld ?_
  refine wpAnyH_take (i := 3) (v := (.agg #[.int .i64 1, .float .f64 y, .string ⟨#[]⟩, .bool false, .int .i64 0])) rfl (by kernel_rfl) (by kernel_rfl) (by kernel_rfl) (fun _ _ _ h => h) (y_loadH 37 (.tmp 5) (.pointer (some ⟨w.heap.size + 1, 0, none⟩)) _ (by kernel_rfl) rfl (by kernel_rfl) (fun w h => load_v h.2)) hHeld ?_
  refine wpAnyH_ready (rs := [1]) (by kernel_rfl) (by simp) ?_
  refine AllReadyH.cons rfl (fun KK hK => ?_) AllReadyH.nil
  (with_reducible refine ite_inH ?_ ?_)
  · kernel_rfl
  (with_reducible refine wp_goH 45 #[.int .i64 (k : Int)] ?_ ?_)
  · kernel_rfl
  (with_reducible refine (HB _).mono ?_)
  rintro e w3 ⟨rfl, hF3⟩
  have n3 := (n2.fr (Fr.refl noB w2).drew).fr hF3
  refine hK.out _ _ ⟨n3.px, n3.py⟩ (fun hHeld => ?_)
  clear hK KK
  refine wpAnyH_ready (rs := [4]) (by kernel_rfl) (by simp) ?_
  refine AllReadyH.cons rfl (fun KK hK => ?_) AllReadyH.nil
  (with_reducible refine ite_inH ?_ ?_)
  · kernel_rfl
  (with_reducible refine wp_goH 62 #[.func (.func g) #[] #[], (.agg #[.int .i64 1, .float .f64 x, .string ⟨#[]⟩, .bool false, .int .i64 0]), (.agg #[.int .i64 1, .float .f64 y, .string ⟨#[]⟩, .bool false, .int .i64 0])] ?_ ?_)
  · kernel_rfl
  (with_reducible refine (HN _).mono ?_)
  rintro e w4 ⟨rfl, hF4⟩
  have n4 := n3.fr hF4
  refine hK.out _ _ ⟨n4.px, n4.py⟩ (fun hHeld => ?_)
  clear hK KK
  refine wpAnyH_ready (rs := [5]) (by kernel_rfl) (by simp) ?_
  refine AllReadyH.cons rfl (fun KK hK => ?_) AllReadyH.nil
  (with_reducible refine ite_inH ?_ ?_)
  · kernel_rfl
  (with_reducible refine wp_storeV (.tmp 6) (.tmp 20) ?_ (w.heap.size + 1 + 1) K M ⟨#[]⟩ false E ?_ ?_ n4.po ?_)
  · kernel_rfl
  · kernel_rfl
  · kernel_rfl
  intro w5 hV5 hG5
  have hG := n4.pf.new hG5 (by omega)
  refine hK.out _ _ ⟨n4.px.keep hG5 (by omega), n4.py.keep hG5 (by omega)⟩ (fun _ => ?_)
  clear hK KK
  refine wpAnyH_done (by kernel_rfl) ?_ _
  refine fr_toH { tmps := #[.int .i64 (k : Int), (.agg #[.int .i64 1, .float .f64 x, .string ⟨#[]⟩, .bool false, .int .i64 0]), (.agg #[.int .i64 1, .float .f64 y, .string ⟨#[]⟩, .bool false, .int .i64 0]), undef, .pointer (some ⟨w.heap.size, 0, none⟩), .pointer (some ⟨w.heap.size + 1, 0, none⟩), .pointer (some ⟨w.heap.size + 1 + 1, 0, none⟩), (.agg #[.int .i64 1, .float .f64 x, .string ⟨#[]⟩, .bool false, .int .i64 0]), .int .i64 0, .bool false, .bool false, (.agg #[.int .i64 1, .float .f64 y, .string ⟨#[]⟩, .bool false, .int .i64 0]), .int .i64 0, .bool false, .bool false, undef, .int .i64 (k : Int), numF g, (.agg #[.int .i64 1, .float .f64 x, .string ⟨#[]⟩, .bool false, .int .i64 0]), (.agg #[.int .i64 1, .float .f64 y, .string ⟨#[]⟩, .bool false, .int .i64 0]), (.agg #[.int .i64 K, .float .f64 M, .string ⟨#[]⟩, .bool false, .int .i64 E])], defers := [] } (by kernel_rfl) ?_
  go_wp2_with fail
  exact bodyPost_ret (vret Tryz.results23 _ _ _ rfl hV5) rfl ⟨rfl, hG⟩
#print axioms binary_of
end Go.Proofs.YtpjbobbmldplbaaGreatDoor
