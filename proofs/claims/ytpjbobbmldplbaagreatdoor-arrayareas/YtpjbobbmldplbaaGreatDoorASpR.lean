/- The document's Sparse: an array as an argument. -/
import Derived.Test.YtpjbobbmldplbaaGreatDoorK30
import Derived.Deep.AppendLies
import Derived.Deep.RegionHeld3
import Derived.Test.YtpjbobbmldplbaaGreatDoorK21
namespace Go.Proofs.YtpjbobbmldplbaaGreatDoor
open Go.RowKit Ieee Go.Shelf
attribute [local go_sem] run_store_float

theorem anyH_to {P : Program} {md : Region.Mode} {ops : Array Oper} {Q : Exit → Act → World → Prop} {S : World → Prop} {fuel : Nat} {listed : Array Bool} {a : Act} {w : World} (b : Act) (h : a = b) (hw : wpAnyH P md ops Q S fuel listed b w) : wpAnyH P md ops Q S fuel listed a w := by
  rw [h]
  exact hw
theorem load_iA {w : World} {b o : Nat} {v : Value} (h : w.cell? ⟨b, o, none⟩ = some v) : (Instr.loadAt 3 (.pointer (some ⟨b, o, none⟩))).run Tryz.prog w = .ok v w := by
  have hu := Tryz.underlying3
  simp [go_sem, h]
theorem load_vsA {w : World} {b o : Nat} {v : Value} (h : w.cell? ⟨b, o, none⟩ = some v) : (Instr.loadAt 25 (.pointer (some ⟨b, o, none⟩))).run Tryz.prog w = .ok v w := by
  have hu := Tryz.underlying25
  simp [go_sem, h]
theorem load_psA {w : World} {b o : Nat} {v : Value} (h : w.cell? ⟨b, o, none⟩ = some v) : (Instr.loadAt 22 (.pointer (some ⟨b, o, none⟩))).run Tryz.prog w = .ok v w := by
  have hu := Tryz.underlying22
  simp [go_sem, h]
theorem store_psA {w : World} {b o : Nat} {v : Value} {so : Option Addr} {n cap : Nat} (h : w.cell? ⟨b, o, none⟩ = some v) (hz : w.frozen? ⟨b, o, none⟩ = false) : (Instr.storeAt 22 (.pointer (some ⟨b, o, none⟩)) (.slice so n cap)).run Tryz.prog w = .ok () (w.setCell ⟨b, o, none⟩ (.slice so n cap)) := by
  have hu := Tryz.underlying22
  simp [go_sem, h, hz]
theorem load_voA {W : World} {b o : Nat} {vk : Int} {vn : Nat} {vs : ByteArray} {vy : Bool} {ve : Int} (h : W.cell? ⟨b, o, none⟩ = some (.int .i64 vk) ∧ W.cell? ⟨b, o + 1, none⟩ = some (.float .f64 vn) ∧ W.cell? ⟨b, o + 2, none⟩ = some (.string vs) ∧ W.cell? ⟨b, o + 3, none⟩ = some (.bool vy) ∧ W.cell? ⟨b, o + 4, none⟩ = some (.int .i64 ve)) : (Instr.loadAt 37 (.pointer (some ⟨b, o, none⟩))).run Tryz.prog W = .ok (.agg #[.int .i64 vk, .float .f64 vn, .string vs, .bool vy, .int .i64 ve]) W := by
  refine run_loadAt_mid W b o 37 (vC ⟨vk, vn, vs, vy, ve⟩) _ (fun j v hv => ?_) Tryz.underlying37 rfl info_val
  rcases j with _ | _ | _ | _ | _ | j
  · rw [← hv]; exact h.1
  · rw [← hv]; exact h.2.1
  · rw [← hv]; exact h.2.2.1
  · rw [← hv]; exact h.2.2.2.1
  · rw [← hv]; exact h.2.2.2.2
  · simp [vC] at hv
section
variable {P : Program} {ops : Array Oper} {S : World → Prop} {op : Oper} {a : Act}
theorem y_binH (bo : BinOp) (t t' : TypeId) (x y : Operand) (vx vy v : Value) (hw : Region.wanted op (yielded ops a.tmps) = true) (ho : op.op = .binOp bo t x y t') (hx : a.eval x = vx) (hy : a.eval y = vy) (he : ∀ w, (eqGuard bo t x y vx vy).run Tryz.prog w = .ok () w) (hr : ∀ w, (binOp bo t vx vy).run Tryz.prog w = .ok v w) : YieldsIf Tryz.prog ops S op v a :=
  .inl ⟨hw, fun w _ => by
    unfold execOp
    simp only [ho, hx, hy, Sem.run_bind, Sem.run_pure, he w, hr w, Result.andThen_ok]⟩
theorem wp_loadH {w : World} {next : Act → World → Prop} {Q : Exit → Act → World → Prop} (ty : TypeId) (x : Operand) (p v : Value) (ho : op.op = .load ty x) (hx : a.eval x = p) (hr : (Instr.loadAt ty p).run Tryz.prog w = .ok v w) (hn : next (a.put op.dst v) w) : Oper.wp Tryz.prog op a w next Q := by
  unfold Oper.wp execOp
  simp only [ho, hx, Sem.run_bind, Sem.run_pure, hr, Result.andThen_ok]
  exact hn
theorem wp_storeH {w w' : World} {next : Act → World → Prop} {Q : Exit → Act → World → Prop} (ty : TypeId) (x y : Operand) (p v : Value) (ho : op.op = .store ty x y) (hx : a.eval x = p) (hy : a.eval y = v) (hr : (Instr.storeAt ty p v).run Tryz.prog w = .ok () w') (hn : next (a.put op.dst undef) w') : Oper.wp Tryz.prog op a w next Q := by
  unfold Oper.wp execOp
  simp only [ho, hx, hy, Sem.run_bind, Sem.run_pure, hr, Result.andThen_ok]
  exact hn
theorem y_idxH (t : TypeId) (x y : Operand) (vx vy v : Value) (hw : Region.wanted op (yielded ops a.tmps) = true) (ho : op.op = .indexAddr t x y) (hx : a.eval x = vx) (hy : a.eval y = vy) (hr : ∀ w, (Instr.indexAt t vx vy).run Tryz.prog w = .ok v w) : YieldsIf Tryz.prog ops S op v a :=
  .inl ⟨hw, fun w _ => by
    unfold execOp
    simp only [ho, hx, hy, Sem.run_bind, Sem.run_pure, hr w, Result.andThen_ok]⟩
end
set_option maxRecDepth 100000 in
set_option maxHeartbeats 4000000 in
theorem rsparse_no (r c : Int) (ao : Option Addr) (cap : Nat) (L : List Vv) (w : World) (hA : VsAt w ao L) (hV : ∀ y ∈ L, Vok y) (hU : U8 w) (hno : arrF ckV r c L ≠ 0 ∨ 1024 < c) :
    Calls Tryz.prog 11 #[.agg #[.int .i64 r, .int .i64 c, .slice ao L.length cap]] w fun e w' => e = .returned (.agg #[.bool false, .bool false, .int .i64 0, .int .i64 0, .slice none 0 0]) ∧ Fr noB w w' := by
  obtain ⟨W0, hW0⟩ : ∃ W0, (w.alloc (.cells #[.int .i64 r, .int .i64 c, .slice ao L.length cap] 27 (0, 0))).alloc (.cells #[.bool false, .bool false, .int .i64 0, .int .i64 0, .slice none 0 0] 24 (0, 0)) = W0 := ⟨_, rfl⟩
  have hG : AAt W0 w.heap.size r c ao L.length cap := by rw [← hW0]; exact ⟨old1 (new1 _ _ _ rfl)⟩
  have hO : GAt W0 (w.heap.size + 1) false false 0 0 none 0 0 := by rw [← hW0]; exact ⟨new1 _ _ _ (by simp)⟩
  have hF : Fr noB w W0 := by rw [← hW0]; exact ((Fr.refl noB w).alloc _).alloc _
  have HC := rcheckA r c ao cap L W0 (hA.keep hF) hV (hU.fr hF)
  have HH : Hid (∀ W, Fr noB W0 W → AAt W w.heap.size r c ao L.length cap ∧ GAt W (w.heap.size + 1) false false 0 0 none 0 0) := fun W h => ⟨hG.fr h id, hO.fr h id⟩
  have HF : Hid (Fr noB w W0) := hF
  obtain ⟨E, hE⟩ : ∃ E, arrF ckV r c L = E := ⟨_, rfl⟩
  rw [hE] at HC hno
  have HW0 : Hid _ := hW0
  clear hG hO hF hA hV hU hE hW0
  by_cases h0 : E = 0
  · subst h0
    have hno2 : 1024 < c := by omega
    clear hno
    go_enter Tryz.func11, Tryz.ntmps11
    go_wp2_with (first
      | (go_at_call 29; rw [HW0.out]; refine HC.mono ?_; rintro e w1 ⟨rfl, hF1⟩; have g1 := (HH.out _ hF1).1.d1; have hO1 := (HH.out _ hF1).2)
      | (refine wpList_store_arg rfl (.tmp 2) (.tmp 13) rfl (w.heap.size + 1) false false 0 0 none 0 0 rfl rfl hO1 ?_; intro W hW hFW))
    exact bodyPost_ret (gretS Tryz.results11 _ _ _ rfl hW) rfl ⟨rfl, (HF.out.trans hF1).new hFW (by omega)⟩
  · have q0 : (E == 0) = false := by simpa using h0
    clear hno
    go_enter Tryz.func11, Tryz.ntmps11
    go_wp2_with (first
      | (go_at_call 29; rw [HW0.out]; refine HC.mono ?_; rintro e w1 ⟨rfl, hF1⟩; have hO1 := (HH.out _ hF1).2)
      | (refine wpList_store_arg rfl (.tmp 2) (.tmp 13) rfl (w.heap.size + 1) false false 0 0 none 0 0 rfl rfl hO1 ?_; intro W hW hFW))
    exact bodyPost_ret (gretS Tryz.results11 _ _ _ rfl hW) rfl ⟨rfl, (HF.out.trans hF1).new hFW (by omega)⟩
set_option maxRecDepth 100000 in
set_option maxHeartbeats 4000000 in
theorem rsparse_ok (R C : Nat) (ao : Option Addr) (cap : Nat) (L : List Vv) (w : World) (hA : VsAt w ao L) (hV : ∀ y ∈ L, Vok y) (hU : U8 w) (hE : arrF ckV (R : Int) (C : Int) L = 0) (hL : L.length = R * C) (h4 : R * C ≤ 4096) (hC1 : 1 ≤ C) (hC2 : C ≤ 1024) :
    Calls Tryz.prog 11 #[.agg #[.int .i64 (R : Int), .int .i64 (C : Int), .slice ao L.length cap]] w fun e w' => ∃ so sc, e = .returned (.agg #[.bool false, .bool false, .int .i64 (R : Int), .int .i64 (C : Int), .slice so (sprF C 0 L).length sc]) ∧ PsAt w' so (sprF C 0 L) ∧ Fr noB w w' := by
  obtain ⟨i0, hi, hz0, hz1, hz2⟩ := info_parts Tryz.infoPl
  have hm : maxLen = 9223372036854775807 := rfl
  obtain ⟨W0, hW0⟩ : ∃ W0, (w.alloc (.cells #[.int .i64 (R : Int), .int .i64 (C : Int), .slice ao L.length cap] 27 (0, 0))).alloc (.cells #[.bool false, .bool false, .int .i64 0, .int .i64 0, .slice none 0 0] 24 (0, 0)) = W0 := ⟨_, rfl⟩
  have hG : AAt W0 w.heap.size R C ao L.length cap := by rw [← hW0]; exact ⟨old1 (new1 _ _ _ rfl)⟩
  have hO : GAt W0 (w.heap.size + 1) false false 0 0 none 0 0 := by rw [← hW0]; exact ⟨new1 _ _ _ (by simp)⟩
  have hF : Fr noB w W0 := by rw [← hW0]; exact ((Fr.refl noB w).alloc _).alloc _
  have hs : W0.heap.size = w.heap.size + 1 + 1 := by rw [← hW0]; simp
  have HC := rcheckA R C ao cap L W0 (hA.keep hF) hV (hU.fr hF)
  rw [hE] at HC
  have HH : Hid (∀ W, Fr noB W0 W → AAt W w.heap.size R C ao L.length cap ∧ GAt W (w.heap.size + 1) false false 0 0 none 0 0) := fun W h => ⟨hG.fr h id, hO.fr h id⟩
  have HF0 : Hid (Fr noB w W0 ∧ W0.heap.size = w.heap.size + 1 + 1) := ⟨hF, hs⟩
  have HA : Hid (VsAt w ao L) := hA
  have HW0 : Hid _ := hW0
  obtain ⟨n, hn⟩ : ∃ n, L.length = n := ⟨_, rfl⟩
  have HN : Hid (L.length = n) := hn
  have hn4 : n ≤ 4096 := by rw [← hn, hL]; exact h4
  clear hG hO hF hA hV hU hE hW0 hs h4 hL
  rw [hn] at HC HH HW0 ⊢
  clear hn
  go_enter Tryz.func11, Tryz.ntmps11
  go_wp2_with (go_at_call 29; rw [HW0.out]; refine HC.mono ?_; rintro e w1 ⟨rfl, hF1⟩; have g0 := (HH.out _ hF1).1.d0; have g1 := (HH.out _ hF1).1.d1; have g2 := (HH.out _ hF1).1.d2; have hlt := lt_of_block (HH.out _ hF1).1.o)
  have hs1 : w.heap.size + 1 + 1 ≤ w1.heap.size := by rw [← HF0.out.2]; exact hF1.size
  obtain ⟨V0, hV0⟩ : ∃ V0, w1.alloc (.cells #[.bool false, .bool false, .int .i64 (R : Int), .int .i64 (C : Int), .slice none 0 0] 24 (0, 0)) = V0 := ⟨_, rfl⟩
  have HT0 : Hid (SpI w1 w1.heap.size R C (sprF C 0 (L.take 0)) none 0 V0) := by
    refine ⟨by rw [← hV0]; exact ⟨new1 _ _ _ rfl⟩, ⟨rfl, Or.inl ⟨rfl, rfl⟩⟩, by rw [← hV0]; exact (Fr.refl _ _).alloc _⟩
  have HF1 : Hid (Fr noB W0 w1) := hF1
  rw [hV0]
  clear hV0 hF1 g0 g1 g2 hlt HC
  generalize hobe : w1.heap.size = ob at HT0 hs1 ⊢
  have HOB2 : Hid (w1.heap.size ≤ ob) := by rw [hobe]; exact Nat.le_refl ob
  clear hobe
  go_loopg [4] n (fun gh iv wr => ∃ (i : Nat) (so : Option Addr) (sc : Nat), i ≤ n ∧ gh = n - i ∧ iv = .int .i64 (i : Int) ∧ Hid (SpI w1 ob R C (sprF C 0 (L.take i)) so sc wr))
  case atStart => exact ⟨0, _, _, Nat.zero_le _, rfl, rfl, HT0⟩
  case round =>
    obtain ⟨i, so, sc, hin, rfl, rfl, HI⟩ := hrel
    by_cases hlt : i < n
    · have i1 : (i : Int) < (n : Int) := by omega
      have i2 : (0 : Int) ≤ (i : Int) := by omega
      have hiL : i < L.length := by rw [HN.out]; exact hlt
      have HF : Hid (Fr noB W0 wr) := HF1.out.trans HI.out.fr
      obtain ⟨b, off, he, hb, c0, c1, c2, c3, c4⟩ := (HA.out.keep (HF0.out.1.trans HF.out)).get i hiL
      have HPb : Hid (b < w.heap.size) := by
        obtain ⟨pb', off', he', hb', _⟩ := HA.out.get i hiL
        rw [he] at he'
        injection he' with he'
        injection he' with he'
        rw [he']
        exact hb'
      subst he
      have hHW := (HH.out _ HF.out).1
      have g1 := hHW.d1
      have g2 := hHW.d2
      have glt := lt_of_block hHW.o
      clear hHW
      have HTk := sprF_take C L i hiL
      obtain ⟨v, hv⟩ : ∃ v, L[i] = v := ⟨_, rfl⟩
      rw [hv] at HTk c0 c1 c2 c3 c4
      have hPl : (sprF C 0 (L.take i)).length ≤ 4096 := by
        have h1 := sprF_len C (L.take i) 0
        have h2 := List.length_take_le i L
        omega
      clear hv hiL
      obtain ⟨vk, vn, vs, vy, ve⟩ := v
      simp only at HTk c0 c1 c2 c3 c4
      have hd : (i : Int) / (C : Int) = ((i / C : Nat) : Int) := (Int.natCast_ediv i C).symm
      have hr : (i : Int) % (C : Int) = ((i % C : Nat) : Int) := (Int.natCast_emod i C).symm
      have hrt : (i : Int).tmod (C : Int) = ((i % C : Nat) : Int) := by
        rw [Int.tmod_eq_emod_of_nonneg (by omega)]
        exact (Int.natCast_emod i C).symm
      have hd4 : i / C ≤ 4096 := Nat.le_trans (Nat.div_le_self i C) (by omega)
      have hr4 : i % C ≤ 4096 := Nat.le_trans (Nat.mod_le i C) (by omega)
      generalize sprF C 0 (L.take i) = Ps at HI HTk hPl
      generalize i / C = dq at *
      generalize i % C = dr at *
      have hwq : IntKind.i64.wrap (dq : Int) = (dq : Int) := by rw [IntKind.wrap_i64]; omega
      have hwr : IntKind.i64.wrap (dr : Int) = (dr : Int) := by rw [IntKind.wrap_i64]; omega
      have hc0 : ¬ (C : Int) = 0 := by omega
      have hc0n : ¬ C = 0 := by omega
      by_cases hk0 : vk = 0
      · rw [if_pos hk0, List.append_nil] at HTk
        have HTk2 : Hid (sprF C 0 (L.take (i + 1)) = Ps) := HTk
        subst hk0
        clear HTk
        go_wp2_with fail
        go_roundg (n - (i + 1))
        case measure => omega
        case rel => exact ⟨i + 1, so, sc, by omega, rfl, by go_num, by rw [HTk2.out]; exact HI.out⟩
      · rw [if_neg hk0] at HTk
        have HTk2 : Hid (sprF C 0 (L.take (i + 1)) = Ps ++ [⟨(dq : Int), (dr : Int), ⟨vk, vn, vs, vy, ve⟩⟩]) := HTk
        have q0 : (vk == 0) = false := by simpa using hk0
        clear HTk hk0
        have HPy : Hid (∀ W, Fr (fun j => (Value.slice so Ps.length sc).ownBlock = some j ∨ j = ob) wr W → W.cell? ⟨w.heap.size, 1, none⟩ = some (.int .i64 (C : Int)) ∧ W.cell? ⟨w.heap.size, 2, none⟩ = some (.slice (some ⟨b, off, none⟩) n cap) ∧ W.cell? ⟨b, off + i * 5, none⟩ = some (.int .i64 vk) ∧ W.cell? ⟨b, off + i * 5 + 1, none⟩ = some (.float .f64 vn) ∧ W.cell? ⟨b, off + i * 5 + 2, none⟩ = some (.string vs) ∧ W.cell? ⟨b, off + i * 5 + 3, none⟩ = some (.bool vy) ∧ W.cell? ⟨b, off + i * 5 + 4, none⟩ = some (.int .i64 ve)) := fun W h => by
          have l1 : ∀ x, x < w.heap.size + 1 → ¬ ((Value.slice so Ps.length sc).ownBlock = some x ∨ x = ob) := fun x hx hh => by
            rcases hh with hh | hh
            · have := own_base HI.out.own _ hh; omega
            · omega
          have l2 := (HH.out _ HF.out).1.fr h (l1 _ (by omega))
          have c : ∀ (o : Nat) (v : Value), wr.cell? ⟨b, o, none⟩ = some v → W.cell? ⟨b, o, none⟩ = some v := fun o v hv => (h.cell (World.block_lt_of_cell? wr _ hv) (l1 _ (by show b < _; have := HPb.out; omega))).trans hv
          exact ⟨l2.d1, l2.d2, c _ _ c0, c _ _ c1, c _ _ c2, c _ _ c3, c _ _ c4⟩
        have HNw : Hid (∀ (W : World) (j : Nat) (u : Value), (pC ⟨(dq : Int), (dr : Int), ⟨vk, vn, vs, vy, ve⟩⟩)[j]? = some u → (W.alloc (.cells #[.int .i64 (dq : Int), .int .i64 (dr : Int), .int .i64 vk, .float .f64 vn, .string vs, .bool vy, .int .i64 ve] 48 (0, 0))).cell? ((⟨W.heap.size, 0, none⟩ : Addr).add j) = some u) := fun W => World.news_of_block (heap_alloc_new W (.cells #[.int .i64 (dq : Int), .int .i64 (dr : Int), .int .i64 vk, .float .f64 vn, .string vs, .bool vy, .int .i64 ve] 48 (0, 0)))
        have HLw : Hid ((pC ⟨(dq : Int), (dr : Int), ⟨vk, vn, vs, vy, ve⟩⟩).length = 1 * 7) := rfl
        have HOw : Hid (∀ u ∈ pC ⟨(dq : Int), (dr : Int), ⟨vk, vn, vs, vy, ve⟩⟩, u.oneCell' = true) := pC_oneCell _
        have hob2 := lt_of_block HI.out.u.o
        have HRq : Hid (∀ W : World, (binOp .quo 3 (.int .i64 (i : Int)) (.int .i64 (C : Int))).run Tryz.prog W = .ok (.int .i64 (dq : Int)) W) := fun W => by
          have hu := Tryz.underlying3
          simp [go_sem, hd, hwq, hc0n]
        have HRr : Hid (∀ W : World, (binOp .rem 3 (.int .i64 (i : Int)) (.int .i64 (C : Int))).run Tryz.prog W = .ok (.int .i64 (dr : Int)) W) := fun W => by
          have hu := Tryz.underlying3
          simp [go_sem, hrt, hc0n]
        have HRi : Hid (∀ W : World, (Instr.indexAt 25 (.slice (some ⟨b, off, none⟩) n cap) (.int .i64 (i : Int))).run Tryz.prog W = .ok (.pointer (some ⟨b, off + i * 5, none⟩)) W) := fun W => by
          have hu := Tryz.underlying25
          have hs := info_val
          simp [go_sem, i1, i2, hu]
        go_wp2_with fail
        have x4 := HI.out.u.c4
        have HF2 : Hid (Fr noB wr ((wr.alloc (.cells #[.int .i64 (dq : Int), .int .i64 (dr : Int), .int .i64 vk, .float .f64 vn, .string vs, .bool vy, .int .i64 ve] 48 (0, 0))).drew)) := ((Fr.refl noB wr).alloc _).drew
        have HF3 : Hid (Fr noB wr ((wr.drew).alloc (.cells #[.int .i64 (dq : Int), .int .i64 (dr : Int), .int .i64 vk, .float .f64 vn, .string vs, .bool vy, .int .i64 ve] 48 (0, 0)))) := ((Fr.refl noB wr).drew).alloc _
        have HOW2 : Hid (((wr.drew).alloc (.cells #[.int .i64 (dq : Int), .int .i64 (dr : Int), .int .i64 vk, .float .f64 vn, .string vs, .bool vy, .int .i64 ve] 48 (0, 0))).ownsRow (ob + 1) 48 7 (.slice so Ps.length sc) Ps.length (psC Ps)) := (HI.out.keep HF3.out).own
        have HNs : Hid (∀ (j : Nat) (u : Value), (pC ⟨(dq : Int), (dr : Int), ⟨vk, vn, vs, vy, ve⟩⟩)[j]? = some u → ((wr.drew).alloc (.cells #[.int .i64 (dq : Int), .int .i64 (dr : Int), .int .i64 vk, .float .f64 vn, .string vs, .bool vy, .int .i64 ve] 48 (0, 0))).cell? ((⟨wr.heap.size, 0, none⟩ : Addr).add j) = some u) := HNw.out wr.drew
        have hdz : wr.drew.heap = wr.heap := rfl
        have hB0 : ((wr.drew).alloc (.cells #[.int .i64 (dq : Int), .int .i64 (dr : Int), .int .i64 vk, .float .f64 vn, .string vs, .bool vy, .int .i64 ve] 48 (0, 0))).heap.size = wr.heap.size + 1 := by rw [← hdz]; simp
        have hB1 : ob + 1 ≤ ((wr.drew).alloc (.cells #[.int .i64 (dq : Int), .int .i64 (dr : Int), .int .i64 vk, .float .f64 vn, .string vs, .bool vy, .int .i64 ve] 48 (0, 0))).heap.size := by rw [hB0]; omega
        have HB1 : Hid (ob + 1 ≤ ((wr.drew).alloc (.cells #[.int .i64 (dq : Int), .int .i64 (dr : Int), .int .i64 vk, .float .f64 vn, .string vs, .bool vy, .int .i64 ve] 48 (0, 0))).heap.size) := hB1
        have HB2 : Hid (((wr.drew).alloc (.cells #[.int .i64 (dq : Int), .int .i64 (dr : Int), .int .i64 vk, .float .f64 vn, .string vs, .bool vy, .int .i64 ve] 48 (0, 0))).heap.size = wr.heap.size + 1) := hB0
        clear hdz hB0 hB1
        refine wp_region_held_drew (S := fun W => Fr (fun j => (Value.slice so Ps.length sc).ownBlock = some j ∨ j = ob) wr W) (by kernel_rfl) ((Fr.refl _ _).drew) (fun hHeld => ?_)
        refine wpAnyH_take (i := 0) (v := .pointer (some ⟨ob, 4, none⟩)) rfl (by kernel_rfl) (by kernel_rfl) (by kernel_rfl) (fun _ _ _ h => h) (Or.inl ⟨by kernel_rfl, fun w hSw => by kernel_rfl⟩) hHeld ?_
        refine wpAnyH_take (i := 2) (v := .int .i64 (i : Int)) rfl (by kernel_rfl) (by kernel_rfl) (by kernel_rfl) (fun _ _ _ h => h) (Or.inl ⟨by kernel_rfl, fun w hSw => by kernel_rfl⟩) hHeld ?_
        refine wpAnyH_take (i := 3) (v := .pointer (some ⟨w.heap.size, 1, none⟩)) rfl (by kernel_rfl) (by kernel_rfl) (by kernel_rfl) (fun _ _ _ h => h) (Or.inl ⟨by kernel_rfl, fun w hSw => by kernel_rfl⟩) hHeld ?_
        refine wpAnyH_take (i := 4) (v := .int .i64 (C : Int)) rfl (by kernel_rfl) (by kernel_rfl) (by kernel_rfl) (fun _ _ _ h => h) (y_loadH 3 (.tmp 36) _ _ (by kernel_rfl) rfl (by kernel_rfl) (fun V h => load_iA (HPy.out V h).1)) hHeld ?_
        refine wpAnyH_take (i := 5) (v := .int .i64 (dq : Int)) rfl (by kernel_rfl) (by kernel_rfl) (by kernel_rfl) (fun _ _ _ h => h) (y_binH .quo 3 3 (.tmp 35) (.tmp 37) (.int .i64 (i : Int)) (.int .i64 (C : Int)) _ (by kernel_rfl) rfl (by kernel_rfl) (by kernel_rfl) (fun _ => rfl) HRq.out) hHeld ?_
        refine wpAnyH_take (i := 6) (v := .int .i64 (i : Int)) rfl (by kernel_rfl) (by kernel_rfl) (by kernel_rfl) (fun _ _ _ h => h) (Or.inl ⟨by kernel_rfl, fun w hSw => by kernel_rfl⟩) hHeld ?_
        refine wpAnyH_take (i := 7) (v := .pointer (some ⟨w.heap.size, 1, none⟩)) rfl (by kernel_rfl) (by kernel_rfl) (by kernel_rfl) (fun _ _ _ h => h) (Or.inl ⟨by kernel_rfl, fun w hSw => by kernel_rfl⟩) hHeld ?_
        refine wpAnyH_take (i := 8) (v := .int .i64 (C : Int)) rfl (by kernel_rfl) (by kernel_rfl) (by kernel_rfl) (fun _ _ _ h => h) (y_loadH 3 (.tmp 40) _ _ (by kernel_rfl) rfl (by kernel_rfl) (fun V h => load_iA (HPy.out V h).1)) hHeld ?_
        refine wpAnyH_take (i := 9) (v := .int .i64 (dr : Int)) rfl (by kernel_rfl) (by kernel_rfl) (by kernel_rfl) (fun _ _ _ h => h) (y_binH .rem 3 3 (.tmp 39) (.tmp 41) (.int .i64 (i : Int)) (.int .i64 (C : Int)) _ (by kernel_rfl) rfl (by kernel_rfl) (by kernel_rfl) (fun _ => rfl) HRr.out) hHeld ?_
        refine wpAnyH_take (i := 10) (v := .pointer (some ⟨w.heap.size, 2, none⟩)) rfl (by kernel_rfl) (by kernel_rfl) (by kernel_rfl) (fun _ _ _ h => h) (Or.inl ⟨by kernel_rfl, fun w hSw => by kernel_rfl⟩) hHeld ?_
        refine wpAnyH_take (i := 11) (v := .slice (some ⟨b, off, none⟩) n cap) rfl (by kernel_rfl) (by kernel_rfl) (by kernel_rfl) (fun _ _ _ h => h) (y_loadH 25 (.tmp 43) _ _ (by kernel_rfl) rfl (by kernel_rfl) (fun V h => load_vsA (HPy.out V h).2.1)) hHeld ?_
        refine wpAnyH_take (i := 12) (v := .int .i64 (i : Int)) rfl (by kernel_rfl) (by kernel_rfl) (by kernel_rfl) (fun _ _ _ h => h) (Or.inl ⟨by kernel_rfl, fun w hSw => by kernel_rfl⟩) hHeld ?_
        refine wpAnyH_take (i := 13) (v := .pointer (some ⟨b, off + i * 5, none⟩)) rfl (by kernel_rfl) (by kernel_rfl) (by kernel_rfl) (fun _ _ _ h => h) (y_idxH 25 (.tmp 44) (.tmp 45) (.slice (some ⟨b, off, none⟩) n cap) (.int .i64 (i : Int)) _ (by kernel_rfl) rfl (by kernel_rfl) (by kernel_rfl) HRi.out) hHeld ?_
        refine wpAnyH_take (i := 14) (v := (.agg #[.int .i64 vk, .float .f64 vn, .string vs, .bool vy, .int .i64 ve])) rfl (by kernel_rfl) (by kernel_rfl) (by kernel_rfl) (fun _ _ _ h => h) (y_loadH 37 (.tmp 46) _ _ (by kernel_rfl) rfl (by kernel_rfl) (fun V h => load_voA (HPy.out V h).2.2)) hHeld ?_
        refine wpAnyH_take (i := 15) (v := .agg #[.int .i64 (dq : Int), .int .i64 (dr : Int), .int .i64 vk, .float .f64 vn, .string vs, .bool vy, .int .i64 ve]) rfl (by kernel_rfl) (by kernel_rfl) (by kernel_rfl) (fun _ _ _ h => h) (Or.inl ⟨by kernel_rfl, fun w hSw => by kernel_rfl⟩) hHeld ?_
        refine anyH_to { tmps := #[.agg #[.int .i64 (R : Int), .int .i64 (C : Int), .slice (some ⟨b, off, none⟩) n cap], .pointer (some ⟨w.heap.size, 0, none⟩), .pointer (some ⟨w.heap.size + 1, 0, none⟩), .pointer (some ⟨ob, 0, none⟩), .int .i64 (i : Int), .agg #[.int .i64 (R : Int), .int .i64 (C : Int), .slice (some ⟨b, off, none⟩) n cap], .int .i64 0, .bool false, .bool false, .pointer (some ⟨w.heap.size, 1, none⟩), .int .i64 (C : Int), .bool (decide (1024 < (C : Int))), .bool (decide (1024 < (C : Int))), undef, .pointer (some ⟨w.heap.size, 0, none⟩), .int .i64 (R : Int), .pointer (some ⟨w.heap.size, 1, none⟩), .int .i64 (C : Int), .agg #[.bool false, .bool false, .int .i64 (R : Int), .int .i64 (C : Int), .slice none 0 0], .int .i64 (i : Int), .pointer (some ⟨w.heap.size, 2, none⟩), .slice (some ⟨b, off, none⟩) n cap, .int .i64 (n : Int), .bool true, u24, u25, .pointer (some ⟨w.heap.size, 2, none⟩), .slice (some ⟨b, off, none⟩) n cap, .int .i64 (i : Int), .pointer (some ⟨b, off + i * 5, none⟩), .pointer (some ⟨b, off + i * 5, none⟩), .int .i64 vk, .bool (vk != 0), .pointer (some ⟨ob, 4, none⟩), u34, .int .i64 (i : Int), .pointer (some ⟨w.heap.size, 1, none⟩), .int .i64 (C : Int), .int .i64 (dq : Int), .int .i64 (i : Int), .pointer (some ⟨w.heap.size, 1, none⟩), .int .i64 (C : Int), .int .i64 (dr : Int), .pointer (some ⟨w.heap.size, 2, none⟩), .slice (some ⟨b, off, none⟩) n cap, .int .i64 (i : Int), .pointer (some ⟨b, off + i * 5, none⟩), .agg #[.int .i64 vk, .float .f64 vn, .string vs, .bool vy, .int .i64 ve], .agg #[.int .i64 (dq : Int), .int .i64 (dr : Int), .int .i64 vk, .float .f64 vn, .string vs, .bool vy, .int .i64 ve], u49, u50, u51, undef], defers := [] } (by kernel_rfl) ?_
        refine wpAnyH_ready (rs := [1, 16]) (by kernel_rfl) (by simp) ?_
        refine AllReadyH.cons rfl ?_ ?_
        · intro K hK
          (with_reducible refine ite_inH ?_ ?_)
          · kernel_rfl
          refine wp_loadH 22 (.tmp 33) _ _ (by kernel_rfl) rfl (load_psA (b := ob) (o := 4) (v := .slice so Ps.length sc) ((HI.out.keep ((Fr.refl noB wr).drew)).u.c4)) ?_
          refine hK.out _ _ ((Fr.refl _ _).drew) (fun hHeld => ?_)
          clear hK K
          refine wpAnyH_ready (rs := [16]) (by kernel_rfl) (by simp) ?_
          refine AllReadyH.cons rfl ?_ AllReadyH.nil
          intro K hK
          (with_reducible refine ite_inH ?_ ?_)
          · kernel_rfl
          refine wp_valH (.slice (some ⟨wr.heap.size, 0, none⟩) 1 1) (w' := (wr.drew).alloc (.cells #[.int .i64 (dq : Int), .int .i64 (dr : Int), .int .i64 vk, .float .f64 vn, .string vs, .bool vy, .int .i64 ve] 48 (0, 0))) (by kernel_rfl) ?_
          refine hK.out _ _ HF3.out.weak (fun hHeld => ?_)
          clear hK K
          refine wpAnyH_ready (rs := [17]) (by kernel_rfl) (by simp) ?_
          refine AllReadyH.cons rfl ?_ AllReadyH.nil
          intro K hK
          refine step_append_lies _ rfl (.tmp 34) (.tmp 49) 22 rfl (ob + 1) 48 i0 (.agg #[.int .i64 0, .int .i64 0, .int .i64 0, .float .f64 0, .string ⟨#[]⟩, .bool false, .int .i64 0]) 7 64 Tryz.underlying22 hi hz0 hz1 hz2 rfl (by decide) (.slice so Ps.length sc) Ps.length (psC Ps) rfl HOW2.out ⟨wr.heap.size, 0, none⟩ 1 1 (pC ⟨(dq : Int), (dr : Int), ⟨vk, vn, vs, vy, ve⟩⟩) rfl rfl HNs.out HOw.out (by decide) (by omega) (by omega) HB1.out (wr.heap.size + 1) HB2.out ?_
          intro g3 cap3 w3 hown3 hg3 _ _
          have hY3 : Fr (fun j => (Value.slice so Ps.length sc).ownBlock = some j ∨ j = ob) wr w3 := HF3.out.weak.grown hg3 (fun k hk => Or.inl (Or.inl hk))
          have hgr := HI.out.grow HF3.out hg3
          have x4b := hgr.c4
          have z4b := freeOf 4 hgr.o
          refine hK.out _ _ hY3 (fun hHeld => ?_)
          clear hK K
          refine wpAnyH_take (i := 18) (v := .pointer (some ⟨ob, 4, none⟩)) rfl (by kernel_rfl) (by kernel_rfl) (by kernel_rfl) (fun _ _ _ h => h) (Or.inl ⟨by kernel_rfl, fun w hSw => by kernel_rfl⟩) hHeld ?_
          refine wpAnyH_ready (rs := [19]) (by kernel_rfl) (by simp) ?_
          refine AllReadyH.cons rfl ?_ AllReadyH.nil
          intro K hK
          (with_reducible refine ite_inH ?_ ?_)
          · kernel_rfl
          (with_reducible refine wp_storeH 22 (.tmp 51) (.tmp 50) (.pointer (some ⟨ob, 4, none⟩)) (.slice (some ⟨g3, 0, none⟩) (Ps.length + 1) cap3) ?_ ?_ ?_ (store_psA x4b z4b) ?_)
          · kernel_rfl
          · kernel_rfl
          · kernel_rfl
          refine hK.out _ _ (hY3.setCell ⟨ob, 4, none⟩ (Or.inl (Or.inr rfl)) _) (fun hHeld => ?_)
          clear hK K
          have HIs : Hid (SpI w1 ob R C (sprF C 0 (L.take (i + 1))) (some ⟨g3, 0, none⟩) cap3 (w3.setCell ⟨ob, 4, none⟩ (.slice (some ⟨g3, 0, none⟩) (Ps.length + 1) cap3))) := by
            rw [HTk2.out]
            exact HI.out.step HOB2.out HF3.out hg3 _ hown3
          refine wpAnyH_done (by kernel_rfl) ?_ _
          clear hown3 hg3 hgr x4b z4b hY3 hHeld
          generalize w3.setCell ⟨ob, 4, none⟩ (.slice (some ⟨g3, 0, none⟩) (Ps.length + 1) cap3) = W3 at *
          refine fr_toH { tmps := #[.agg #[.int .i64 (R : Int), .int .i64 (C : Int), .slice (some ⟨b, off, none⟩) n cap], .pointer (some ⟨w.heap.size, 0, none⟩), .pointer (some ⟨w.heap.size + 1, 0, none⟩), .pointer (some ⟨ob, 0, none⟩), .int .i64 (i : Int), .agg #[.int .i64 (R : Int), .int .i64 (C : Int), .slice (some ⟨b, off, none⟩) n cap], .int .i64 0, .bool false, .bool false, .pointer (some ⟨w.heap.size, 1, none⟩), .int .i64 (C : Int), .bool (decide (1024 < (C : Int))), .bool (decide (1024 < (C : Int))), undef, .pointer (some ⟨w.heap.size, 0, none⟩), .int .i64 (R : Int), .pointer (some ⟨w.heap.size, 1, none⟩), .int .i64 (C : Int), .agg #[.bool false, .bool false, .int .i64 (R : Int), .int .i64 (C : Int), .slice none 0 0], .int .i64 (i : Int), .pointer (some ⟨w.heap.size, 2, none⟩), .slice (some ⟨b, off, none⟩) n cap, .int .i64 (n : Int), .bool true, u24, u25, .pointer (some ⟨w.heap.size, 2, none⟩), .slice (some ⟨b, off, none⟩) n cap, .int .i64 (i : Int), .pointer (some ⟨b, off + i * 5, none⟩), .pointer (some ⟨b, off + i * 5, none⟩), .int .i64 vk, .bool (vk != 0), .pointer (some ⟨ob, 4, none⟩), .slice so Ps.length sc, .int .i64 (i : Int), .pointer (some ⟨w.heap.size, 1, none⟩), .int .i64 (C : Int), .int .i64 (dq : Int), .int .i64 (i : Int), .pointer (some ⟨w.heap.size, 1, none⟩), .int .i64 (C : Int), .int .i64 (dr : Int), .pointer (some ⟨w.heap.size, 2, none⟩), .slice (some ⟨b, off, none⟩) n cap, .int .i64 (i : Int), .pointer (some ⟨b, off + i * 5, none⟩), .agg #[.int .i64 vk, .float .f64 vn, .string vs, .bool vy, .int .i64 ve], .agg #[.int .i64 (dq : Int), .int .i64 (dr : Int), .int .i64 vk, .float .f64 vn, .string vs, .bool vy, .int .i64 ve], .slice (some ⟨wr.heap.size, 0, none⟩) 1 1, .slice (some ⟨g3, 0, none⟩) (Ps.length + 1) cap3, .pointer (some ⟨ob, 4, none⟩), undef], defers := [] } (by kernel_rfl) ?_
          go_wp2_with fail
          go_roundg (n - (i + 1))
          case measure => omega
          case rel => exact ⟨i + 1, some ⟨g3, 0, none⟩, cap3, by omega, rfl, by go_num, HIs⟩
        · refine AllReadyH.cons rfl ?_ AllReadyH.nil
          intro K hK
          (with_reducible refine ite_inH ?_ ?_)
          · kernel_rfl
          refine wp_valH (.slice (some ⟨wr.heap.size, 0, none⟩) 1 1) (w' := (wr.drew).alloc (.cells #[.int .i64 (dq : Int), .int .i64 (dr : Int), .int .i64 vk, .float .f64 vn, .string vs, .bool vy, .int .i64 ve] 48 (0, 0))) (by kernel_rfl) ?_
          refine hK.out _ _ HF3.out.weak (fun hHeld => ?_)
          clear hK K
          refine wpAnyH_ready (rs := [1]) (by kernel_rfl) (by simp) ?_
          refine AllReadyH.cons rfl ?_ AllReadyH.nil
          intro K hK
          (with_reducible refine ite_inH ?_ ?_)
          · kernel_rfl
          refine wp_loadH 22 (.tmp 33) _ _ (by kernel_rfl) rfl (load_psA (b := ob) (o := 4) (v := .slice so Ps.length sc) ((HI.out.keep HF3.out).u.c4)) ?_
          refine hK.out _ _ HF3.out.weak (fun hHeld => ?_)
          clear hK K
          refine wpAnyH_ready (rs := [17]) (by kernel_rfl) (by simp) ?_
          refine AllReadyH.cons rfl ?_ AllReadyH.nil
          intro K hK
          refine step_append_lies _ rfl (.tmp 34) (.tmp 49) 22 rfl (ob + 1) 48 i0 (.agg #[.int .i64 0, .int .i64 0, .int .i64 0, .float .f64 0, .string ⟨#[]⟩, .bool false, .int .i64 0]) 7 64 Tryz.underlying22 hi hz0 hz1 hz2 rfl (by decide) (.slice so Ps.length sc) Ps.length (psC Ps) rfl HOW2.out ⟨wr.heap.size, 0, none⟩ 1 1 (pC ⟨(dq : Int), (dr : Int), ⟨vk, vn, vs, vy, ve⟩⟩) rfl rfl HNs.out HOw.out (by decide) (by omega) (by omega) HB1.out (wr.heap.size + 1) HB2.out ?_
          intro g3 cap3 w3 hown3 hg3 _ _
          have hY3 : Fr (fun j => (Value.slice so Ps.length sc).ownBlock = some j ∨ j = ob) wr w3 := HF3.out.weak.grown hg3 (fun k hk => Or.inl (Or.inl hk))
          have hgr := HI.out.grow HF3.out hg3
          have x4b := hgr.c4
          have z4b := freeOf 4 hgr.o
          refine hK.out _ _ hY3 (fun hHeld => ?_)
          clear hK K
          refine wpAnyH_take (i := 18) (v := .pointer (some ⟨ob, 4, none⟩)) rfl (by kernel_rfl) (by kernel_rfl) (by kernel_rfl) (fun _ _ _ h => h) (Or.inl ⟨by kernel_rfl, fun w hSw => by kernel_rfl⟩) hHeld ?_
          refine wpAnyH_ready (rs := [19]) (by kernel_rfl) (by simp) ?_
          refine AllReadyH.cons rfl ?_ AllReadyH.nil
          intro K hK
          (with_reducible refine ite_inH ?_ ?_)
          · kernel_rfl
          (with_reducible refine wp_storeH 22 (.tmp 51) (.tmp 50) (.pointer (some ⟨ob, 4, none⟩)) (.slice (some ⟨g3, 0, none⟩) (Ps.length + 1) cap3) ?_ ?_ ?_ (store_psA x4b z4b) ?_)
          · kernel_rfl
          · kernel_rfl
          · kernel_rfl
          refine hK.out _ _ (hY3.setCell ⟨ob, 4, none⟩ (Or.inl (Or.inr rfl)) _) (fun hHeld => ?_)
          clear hK K
          have HIs : Hid (SpI w1 ob R C (sprF C 0 (L.take (i + 1))) (some ⟨g3, 0, none⟩) cap3 (w3.setCell ⟨ob, 4, none⟩ (.slice (some ⟨g3, 0, none⟩) (Ps.length + 1) cap3))) := by
            rw [HTk2.out]
            exact HI.out.step HOB2.out HF3.out hg3 _ hown3
          refine wpAnyH_done (by kernel_rfl) ?_ _
          clear hown3 hg3 hgr x4b z4b hY3 hHeld
          generalize w3.setCell ⟨ob, 4, none⟩ (.slice (some ⟨g3, 0, none⟩) (Ps.length + 1) cap3) = W3 at *
          refine fr_toH { tmps := #[.agg #[.int .i64 (R : Int), .int .i64 (C : Int), .slice (some ⟨b, off, none⟩) n cap], .pointer (some ⟨w.heap.size, 0, none⟩), .pointer (some ⟨w.heap.size + 1, 0, none⟩), .pointer (some ⟨ob, 0, none⟩), .int .i64 (i : Int), .agg #[.int .i64 (R : Int), .int .i64 (C : Int), .slice (some ⟨b, off, none⟩) n cap], .int .i64 0, .bool false, .bool false, .pointer (some ⟨w.heap.size, 1, none⟩), .int .i64 (C : Int), .bool (decide (1024 < (C : Int))), .bool (decide (1024 < (C : Int))), undef, .pointer (some ⟨w.heap.size, 0, none⟩), .int .i64 (R : Int), .pointer (some ⟨w.heap.size, 1, none⟩), .int .i64 (C : Int), .agg #[.bool false, .bool false, .int .i64 (R : Int), .int .i64 (C : Int), .slice none 0 0], .int .i64 (i : Int), .pointer (some ⟨w.heap.size, 2, none⟩), .slice (some ⟨b, off, none⟩) n cap, .int .i64 (n : Int), .bool true, u24, u25, .pointer (some ⟨w.heap.size, 2, none⟩), .slice (some ⟨b, off, none⟩) n cap, .int .i64 (i : Int), .pointer (some ⟨b, off + i * 5, none⟩), .pointer (some ⟨b, off + i * 5, none⟩), .int .i64 vk, .bool (vk != 0), .pointer (some ⟨ob, 4, none⟩), .slice so Ps.length sc, .int .i64 (i : Int), .pointer (some ⟨w.heap.size, 1, none⟩), .int .i64 (C : Int), .int .i64 (dq : Int), .int .i64 (i : Int), .pointer (some ⟨w.heap.size, 1, none⟩), .int .i64 (C : Int), .int .i64 (dr : Int), .pointer (some ⟨w.heap.size, 2, none⟩), .slice (some ⟨b, off, none⟩) n cap, .int .i64 (i : Int), .pointer (some ⟨b, off + i * 5, none⟩), .agg #[.int .i64 vk, .float .f64 vn, .string vs, .bool vy, .int .i64 ve], .agg #[.int .i64 (dq : Int), .int .i64 (dr : Int), .int .i64 vk, .float .f64 vn, .string vs, .bool vy, .int .i64 ve], .slice (some ⟨wr.heap.size, 0, none⟩) 1 1, .slice (some ⟨g3, 0, none⟩) (Ps.length + 1) cap3, .pointer (some ⟨ob, 4, none⟩), undef], defers := [] } (by kernel_rfl) ?_
          go_wp2_with fail
          go_roundg (n - (i + 1))
          case measure => omega
          case rel => exact ⟨i + 1, some ⟨g3, 0, none⟩, cap3, by omega, rfl, by go_num, HIs⟩
    · obtain rfl : i = n := by omega
      have eL : L.take i = L := by rw [← HN.out, List.take_length]
      rw [eL] at HI
      have hHW := HH.out _ (HF1.out.trans HI.out.fr)
      have g2 := hHW.1.d2
      have hO1 := hHW.2
      have x0 := HI.out.u.c0
      have x1 := HI.out.u.c1
      have x2 := HI.out.u.c2
      have x3 := HI.out.u.c3
      have x4 := HI.out.u.c4
      clear hHW
      go_wp2_with (refine wpList_store_arg rfl (.tmp 2) (.tmp 52) rfl (w.heap.size + 1) false false (R : Int) (C : Int) so (sprF C 0 L).length sc rfl rfl hO1 ?_; intro W hW hFW)
      obtain ⟨so2, sc2, he, hv⟩ := own_ps HI.out.own rfl
      injection he with he1 _ _
      rw [← he1] at hv
      refine bodyPost_ret (gretS Tryz.results11 _ _ _ rfl hW) rfl ⟨so, sc, rfl, hv.keep1 hFW (fun b o hb => ?_), ((HF0.out.1.trans HF1.out).trans HI.out.fr).new hFW (by omega)⟩
      have := own_base HI.out.own b (by subst hb; rfl)
      omega
#print axioms rsparse_no
#print axioms rsparse_ok
end Go.Proofs.YtpjbobbmldplbaaGreatDoor
