/- The code's Sparse: an array as an argument. -/
import Derived.Test.YtpjbobbmldplbaaGreatDoorK17
import Derived.Test.YtpjbobbmldplbaaGreatDoorAAtA
import Derived.Test.YtpjbobbmldplbaaGreatDoorK29
import Derived.Deep.LoopGhost
namespace Go.Proofs.YtpjbobbmldplbaaGreatDoor
open Go.RowKit Ieee Go.Shelf
attribute [local go_sem] run_store_float

theorem info_argS : (Tryz.prog.info? 24).map (·.size) = some 5 := by kernel_rfl
theorem arg_oneS (rf ms : Bool) (r c : Int) (ao : Option Addr) (n cap : Nat) : (#[.bool rf, .bool ms, .int .i64 r, .int .i64 c, .slice ao n cap] : Array Value).all (·.oneCell') = true := by kernel_rfl
theorem gretS {fn : Func} {p : Tmp} (h : fn.results = #[.cell p 24]) (tmps : Array Value) (w : World) (g : Nat) {rf ms : Bool} {r c : Int} {ao : Option Addr} {n cap : Nat} (hp : tmps.getD p undef = .pointer (some ⟨g, 0, none⟩)) (hv : GAt w g rf ms r c ao n cap) :
    (results fn tmps).run Tryz.prog w = .ok (.agg #[.bool rf, .bool ms, .int .i64 r, .int .i64 c, .slice ao n cap]) w :=
  results_cell_row h tmps w g 24 _ (0, 0) _ hp hv.o Tryz.underlying24 rfl info_argS
theorem wpList_store_arg {ops : Array Oper} {rest : List Oper} {o : Oper} {a : Act} {w : World} {Q : Exit → Act → World → Prop} (hgd : o.guard = none) (x y : Operand) (ho : o.op = .store 24 x y)
    (g : Nat) (rf ms : Bool) (r c : Int) (ao : Option Addr) (n cap : Nat) (hx : a.eval x = .pointer (some ⟨g, 0, none⟩)) (hy : a.eval y = .agg #[.bool rf, .bool ms, .int .i64 r, .int .i64 c, .slice ao n cap])
    {rf0 ms0 : Bool} {r0 c0 : Int} {ao0 : Option Addr} {n0 cap0 : Nat} (hO : GAt w g rf0 ms0 r0 c0 ao0 n0 cap0)
    (h : ∀ W, GAt W g rf ms r c ao n cap → Fr (oneB g) w W → wpList Tryz.prog ops Q rest (a.put o.dst undef) W) : wpList Tryz.prog ops Q (o :: rest) a w :=
  wpList_store_row hgd 24 x y ho g #[.bool rf, .bool ms, .int .i64 r, .int .i64 c, .slice ao n cap] hx hy 24 _ hO.o info_argS rfl (arg_oneS _ _ _ _ _ _ _)
    (h _ ⟨setRow_heap _ _ _ _ _ _ hO.o⟩ ⟨rfl, rfl, rfl, by simp [World.setRow], fun k hk hs => setRow_other _ _ _ _ hs⟩)
set_option maxRecDepth 100000 in
set_option maxHeartbeats 4000000 in
theorem psparse_no (r c : Int) (ao : Option Addr) (cap : Nat) (L : List Vv) (w : World) (hA : VsAt w ao L) (hV : ∀ y ∈ L, Vok y) (hU : U8 w) (hno : arrF ckV r c L ≠ 0 ∨ 1024 < c) :
    Calls Tryz.prog 10 #[.agg #[.int .i64 r, .int .i64 c, .slice ao L.length cap]] w fun e w' => e = .returned (.agg #[.bool false, .bool false, .int .i64 0, .int .i64 0, .slice none 0 0]) ∧ Fr noB w w' := by
  obtain ⟨W0, hW0⟩ : ∃ W0, (w.alloc (.cells #[.int .i64 r, .int .i64 c, .slice ao L.length cap] 27 (0, 0))).alloc (.cells #[.bool false, .bool false, .int .i64 0, .int .i64 0, .slice none 0 0] 24 (0, 0)) = W0 := ⟨_, rfl⟩
  have hG : AAt W0 w.heap.size r c ao L.length cap := by rw [← hW0]; exact ⟨old1 (new1 _ _ _ rfl)⟩
  have hO : GAt W0 (w.heap.size + 1) false false 0 0 none 0 0 := by rw [← hW0]; exact ⟨new1 _ _ _ (by simp)⟩
  have hF : Fr noB w W0 := by rw [← hW0]; exact ((Fr.refl noB w).alloc _).alloc _
  have HC := pcheckA r c ao cap L W0 (hA.keep hF) hV (hU.fr hF)
  have HH : Hid (∀ W, Fr noB W0 W → AAt W w.heap.size r c ao L.length cap ∧ GAt W (w.heap.size + 1) false false 0 0 none 0 0) := fun W h => ⟨hG.fr h id, hO.fr h id⟩
  have HF : Hid (Fr noB w W0) := hF
  obtain ⟨E, hE⟩ : ∃ E, arrF ckV r c L = E := ⟨_, rfl⟩
  rw [hE] at HC hno
  have HW0 : Hid _ := hW0
  clear hG hO hF hA hV hU hE hW0
  by_cases h0 : E = 0
  · subst h0
    have hno2 : 1024 < c := by omega
    clear hno
    go_enter Tryz.func10, Tryz.ntmps10
    go_wp2_with (first
      | (go_at_call 27; rw [HW0.out]; refine HC.mono ?_; rintro e w1 ⟨rfl, hF1⟩; have g1 := (HH.out _ hF1).1.d1; have hO1 := (HH.out _ hF1).2)
      | (refine wpList_store_arg rfl (.tmp 2) (.tmp 15) rfl (w.heap.size + 1) false false 0 0 none 0 0 rfl rfl hO1 ?_; intro W hW hFW))
    exact bodyPost_ret (gretS Tryz.results10 _ _ _ rfl hW) rfl ⟨rfl, (HF.out.trans hF1).new hFW (by omega)⟩
  · have q0 : (E == 0) = false := by simpa using h0
    clear hno
    go_enter Tryz.func10, Tryz.ntmps10
    go_wp2_with (first
      | (go_at_call 27; rw [HW0.out]; refine HC.mono ?_; rintro e w1 ⟨rfl, hF1⟩; have hO1 := (HH.out _ hF1).2)
      | (refine wpList_store_arg rfl (.tmp 2) (.tmp 15) rfl (w.heap.size + 1) false false 0 0 none 0 0 rfl rfl hO1 ?_; intro W hW hFW))
    exact bodyPost_ret (gretS Tryz.results10 _ _ _ rfl hW) rfl ⟨rfl, (HF.out.trans hF1).new hFW (by omega)⟩
/-- Where the rounds of Sparse stand: the argument that is filled lies at ob. -/
structure SpI (w1 : World) (ob R C : Nat) (Ps : List Pl) (so : Option Addr) (sc : Nat) (V : World) : Prop where
  u : GAt V ob false false (R : Int) (C : Int) so Ps.length sc
  own : V.ownsRow (ob + 1) 48 7 (.slice so Ps.length sc) Ps.length (psC Ps)
  fr : Fr noB w1 V
theorem SpI.keep {w1 : World} {ob R C : Nat} {Ps : List Pl} {so : Option Addr} {sc : Nat} {V V' : World} (h : SpI w1 ob R C Ps so sc V) (hF : Fr noB V V') : SpI w1 ob R C Ps so sc V' := ⟨h.u.fr hF id, own_keep h.own hF, h.fr.trans hF⟩
theorem own_farS {base n ob : Nat} {w w' : World} {v : Value} {xs : List Value} {t : TypeId} {sz : Nat} (h : w.ownsRow base t sz v n xs) (hF : Fr (oneB ob) w w') (hb : ob < base) : w'.ownsRow base t sz v n xs := by
  have hbb := own_base h
  obtain ⟨h1, h2⟩ := h
  refine ⟨h1, ?_⟩
  rcases h2 with h2 | ⟨g, cap, cur, hv, hg, hh, r⟩
  · exact Or.inl h2
  · exact Or.inr ⟨g, cap, cur, hv, hg, hF.obj hh (fun (e : g = ob) => by omega), r⟩
theorem SpI.grow {w1 : World} {ob R C : Nat} {Ps : List Pl} {so : Option Addr} {sc : Nat} {V V2 V3 : World} (h : SpI w1 ob R C Ps so sc V) (hF : Fr noB V V2) (hg : V2.grownBy V3 ((Value.slice so Ps.length sc).ownBlock)) : GAt V3 ob false false (R : Int) (C : Int) so Ps.length sc := by
  have hb := own_base h.own
  have hF3 : Fr (fun j => (Value.slice so Ps.length sc).ownBlock = some j) V V3 := hF.weak.grown hg (fun k hk => Or.inl hk)
  exact h.u.fr hF3 (fun hh => by have := hb _ hh; omega)
theorem SpI.step {w1 : World} {ob R C : Nat} {Ps : List Pl} {so : Option Addr} {sc : Nat} {V V2 V3 : World} (h : SpI w1 ob R C Ps so sc V) (hob : w1.heap.size ≤ ob) (hF : Fr noB V V2) (hg : V2.grownBy V3 ((Value.slice so Ps.length sc).ownBlock)) (p : Pl) {so3 : Option Addr} {sc3 : Nat}
    (hown : V3.ownsRow (ob + 1) 48 7 (.slice so3 (Ps.length + 1) sc3) (Ps.length + 1) (psC Ps ++ pC p)) :
    SpI w1 ob R C (Ps ++ [p]) so3 sc3 (V3.setCell ⟨ob, 4, none⟩ (.slice so3 (Ps.length + 1) sc3)) := by
  have hb := own_base h.own
  have hF3 : Fr (fun j => (Value.slice so Ps.length sc).ownBlock = some j) V V3 := hF.weak.grown hg (fun k hk => Or.inl hk)
  have hS : Fr (oneB ob) V3 (V3.setCell ⟨ob, 4, none⟩ (.slice so3 (Ps.length + 1) sc3)) := (Fr.refl _ _).setOne _ _
  have hu := h.u.fr hF3 (fun hh => by have := hb _ hh; omega)
  have hlt := lt_of_block h.u.o
  have e : (Ps ++ [p]).length = Ps.length + 1 := by simp
  refine ⟨⟨?_⟩, ?_, ?_⟩
  · rw [e]
    have hh := heap_setCell_same V3 ob 4 _ _ (.slice so3 (Ps.length + 1) sc3) hu.o
    simpa using hh
  · rw [e, psC_app, psC_one]
    exact own_farS hown hS (by omega)
  · exact (h.fr.then hF3 (fun j hj => Or.inr (by have := hb _ hj; omega))).new hS hob
#print axioms psparse_no
#print axioms SpI.step
end Go.Proofs.YtpjbobbmldplbaaGreatDoor
/- The code's Sparse of an array that may be. -/
namespace Go.Proofs.YtpjbobbmldplbaaGreatDoor
open Go.RowKit Ieee Go.Shelf
attribute [local go_sem] run_store_float

set_option maxRecDepth 100000 in
set_option maxHeartbeats 4000000 in
theorem psparse_ok (R C : Nat) (ao : Option Addr) (cap : Nat) (L : List Vv) (w : World) (hA : VsAt w ao L) (hV : ∀ y ∈ L, Vok y) (hU : U8 w) (hE : arrF ckV (R : Int) (C : Int) L = 0) (hL : L.length = R * C) (h4 : R * C ≤ 4096) (hR1 : 1 ≤ R) (hC1 : 1 ≤ C) (hC2 : C ≤ 1024) :
    Calls Tryz.prog 10 #[.agg #[.int .i64 (R : Int), .int .i64 (C : Int), .slice ao L.length cap]] w fun e w' => ∃ so sc, e = .returned (.agg #[.bool false, .bool false, .int .i64 (R : Int), .int .i64 (C : Int), .slice so (sprF C 0 L).length sc]) ∧ PsAt w' so (sprF C 0 L) ∧ Fr noB w w' := by
  obtain ⟨i0, hi, hz0, hz1, hz2⟩ := info_parts Tryz.infoPl
  have hm : maxLen = 9223372036854775807 := rfl
  have hR4 : R ≤ 4096 := Nat.le_trans (Nat.le_mul_of_pos_right R hC1) h4
  obtain ⟨W0, hW0⟩ : ∃ W0, (w.alloc (.cells #[.int .i64 (R : Int), .int .i64 (C : Int), .slice ao L.length cap] 27 (0, 0))).alloc (.cells #[.bool false, .bool false, .int .i64 0, .int .i64 0, .slice none 0 0] 24 (0, 0)) = W0 := ⟨_, rfl⟩
  have hG : AAt W0 w.heap.size R C ao L.length cap := by rw [← hW0]; exact ⟨old1 (new1 _ _ _ rfl)⟩
  have hO : GAt W0 (w.heap.size + 1) false false 0 0 none 0 0 := by rw [← hW0]; exact ⟨new1 _ _ _ (by simp)⟩
  have hF : Fr noB w W0 := by rw [← hW0]; exact ((Fr.refl noB w).alloc _).alloc _
  have hs : W0.heap.size = w.heap.size + 1 + 1 := by rw [← hW0]; simp
  have HC := pcheckA R C ao cap L W0 (hA.keep hF) hV (hU.fr hF)
  rw [hE] at HC
  have HCl : Hid (∀ V, Fr noB w V → ∀ (i k : Nat) (v : Vv) (hh : i * C + k < L.length), i < R → k < C → L[i * C + k] = v → Calls Tryz.prog 28 #[.agg #[.int .i64 (R : Int), .int .i64 (C : Int), .slice ao L.length cap], .int .i64 (i : Int), .int .i64 (k : Int)] V fun e w' => e = .returned (.agg #[.int .i64 v.k, .float .f64 v.n, .string v.s, .bool v.y, .int .i64 v.e]) ∧ Fr noB V w') := fun V h i k v hh h1 h2 hv => pat_ok (R : Int) (C : Int) (i : Int) (k : Int) ao cap L V (hA.keep h) (by omega) (by omega) (by rw [hL, Int.natCast_mul]) (by rw [← Int.natCast_mul]; omega) (by omega) (by omega) (by omega) (by omega) (i * C + k) (by rw [Int.natCast_add, Int.natCast_mul]) hh v hv (by rw [← hv]; exact (hV _ (List.getElem_mem hh)).2)
  have HH : Hid (∀ W, Fr noB W0 W → AAt W w.heap.size R C ao L.length cap ∧ GAt W (w.heap.size + 1) false false 0 0 none 0 0) := fun W h => ⟨hG.fr h id, hO.fr h id⟩
  have HF0 : Hid (Fr noB w W0 ∧ W0.heap.size = w.heap.size + 1 + 1) := ⟨hF, hs⟩
  have HQ : Hid (L.length = R * C ∧ R * C ≤ 4096) := ⟨hL, h4⟩
  have HW0 : Hid _ := hW0
  clear hG hO hF hA hV hU hE hW0 hs h4
  obtain ⟨n, hn⟩ : ∃ n, L.length = n := ⟨_, rfl⟩
  have HN : Hid (L.length = n) := hn
  have HCl2 : Hid (∀ V, Fr noB w V → ∀ (i k : Nat) (v : Vv) (hh : i * C + k < L.length), i < R → k < C → L[i * C + k] = v → Calls Tryz.prog 28 #[.agg #[.int .i64 (R : Int), .int .i64 (C : Int), .slice ao n cap], .int .i64 (i : Int), .int .i64 (k : Int)] V fun e w' => e = .returned (.agg #[.int .i64 v.k, .float .f64 v.n, .string v.s, .bool v.y, .int .i64 v.e]) ∧ Fr noB V w') := by rw [← hn]; exact HCl.out
  clear HCl
  rw [hn] at HC HH HW0 ⊢
  clear hn hL
  go_enter Tryz.func10, Tryz.ntmps10
  go_wp2_with (go_at_call 27; rw [HW0.out]; refine HC.mono ?_; rintro e w1 ⟨rfl, hF1⟩; have g0 := (HH.out _ hF1).1.d0; have g1 := (HH.out _ hF1).1.d1; have hlt := lt_of_block (HH.out _ hF1).1.o)
  have hs1 : w.heap.size + 1 + 1 ≤ w1.heap.size := by rw [← HF0.out.2]; exact hF1.size
  obtain ⟨V0, hV0⟩ : ∃ V0, w1.alloc (.cells #[.bool false, .bool false, .int .i64 (R : Int), .int .i64 (C : Int), .slice none 0 0] 24 (0, 0)) = V0 := ⟨_, rfl⟩
  have HT0 : Hid (SpI w1 w1.heap.size R C (sprF C 0 (L.take (0 * C))) none 0 V0) := by
    rw [Nat.zero_mul]
    refine ⟨by rw [← hV0]; exact ⟨new1 _ _ _ rfl⟩, ⟨rfl, Or.inl ⟨rfl, rfl⟩⟩, by rw [← hV0]; exact (Fr.refl _ _).alloc _⟩
  have HF1 : Hid (Fr noB W0 w1) := hF1
  rw [hV0]
  clear hV0 hF1 g0 g1 hlt HC
  have HOB : Hid (w1.heap.size ≤ w1.heap.size) := Nat.le_refl _
  generalize hobe : w1.heap.size = ob at HT0 HOB hs1 ⊢
  have HOB2 : Hid (w1.heap.size ≤ ob) := by rw [hobe]; exact Nat.le_refl ob
  clear hobe HOB
  go_loopg [23] R (fun gh iv wr => ∃ (i : Nat) (so : Option Addr) (sc : Nat), i ≤ R ∧ gh = R - i ∧ iv = .int .i64 (i : Int) ∧ Hid (SpI w1 ob R C (sprF C 0 (L.take (i * C))) so sc wr))
  case atStart => exact ⟨0, _, _, Nat.zero_le _, rfl, rfl, HT0⟩
  case round =>
    rename World => wx
    obtain ⟨i, so, sc, hiR, rfl, rfl, HT⟩ := hrel
    by_cases hlt : i < R
    · have g1 := (HH.out _ (HF1.out.trans HT.out.fr)).1.d1
      go_wp2_with fail
      clear g1
      go_loopg [28] C (fun gh kv wr => ∃ (k : Nat) (so : Option Addr) (sc : Nat), k ≤ C ∧ gh = C - k ∧ kv = .int .i64 (k : Int) ∧ Hid (SpI w1 ob R C (sprF C 0 (L.take (i * C + k))) so sc wr))
      case atStart => exact ⟨0, so, sc, Nat.zero_le _, rfl, rfl, HT⟩
      case round =>
        obtain ⟨k, so, sc, hkC, rfl, rfl, HI⟩ := hrel
        by_cases hlk : k < C
        · have hkL : i * C + k < L.length := by rw [HQ.out.1]; exact turn_of hlk hlt
          obtain ⟨v, hv⟩ : ∃ v, L[i * C + k] = v := ⟨_, rfl⟩
          have hX := HH.out _ (HF1.out.trans HI.out.fr)
          have HCa : Hid (∀ V, Fr noB wr V → Calls Tryz.prog 28 #[.agg #[.int .i64 (R : Int), .int .i64 (C : Int), .slice ao n cap], .int .i64 (i : Int), .int .i64 (k : Int)] V fun e w' => e = .returned (.agg #[.int .i64 v.k, .float .f64 v.n, .string v.s, .bool v.y, .int .i64 v.e]) ∧ Fr noB V w') := fun V h => HCl2.out V (HF0.out.1.trans (HF1.out.trans (HI.out.fr.trans h))) i k v hkL hlt hlk hv
          have g0 := hX.1.d0
          have g1 := hX.1.d1
          have g2 := hX.1.d2
          clear hX
          have e1 : (i * C + k) / C = i := by rw [Nat.mul_comm, Nat.mul_add_div (by omega), Nat.div_eq_of_lt hlk, Nat.add_zero]
          have e2 : (i * C + k) % C = k := by rw [Nat.mul_comm, Nat.mul_add_mod, Nat.mod_eq_of_lt hlk]
          have HTk := sprF_take C L (i * C + k) hkL
          rw [hv, e1, e2] at HTk
          have hPl : (sprF C 0 (L.take (i * C + k))).length ≤ 4096 := by
            have h1 := sprF_len C (L.take (i * C + k)) 0
            have h2 := List.length_take_le (i * C + k) L
            have h3 := HQ.out.1
            have h4 := HQ.out.2
            omega
          clear hv e1 e2 hkL
          obtain ⟨vk, vn, vs, vy, ve⟩ := v
          simp only at HTk
          generalize sprF C 0 (L.take (i * C + k)) = Ps at HI HTk hPl
          by_cases hk0 : vk = 0
          · rw [if_pos hk0, List.append_nil] at HTk
            have HTk2 : Hid (sprF C 0 (L.take (i * C + k + 1)) = Ps) := HTk
            subst hk0
            clear HTk
            go_wp2_with (go_at_call 28; refine (HCa.out _ (Fr.refl _ _)).mono ?_; rintro e w2 ⟨rfl, hF2⟩)
            have HIs : Hid (SpI w1 ob R C (sprF C 0 (L.take (i * C + (k + 1)))) so sc (w2.alloc (.cells #[.int .i64 0, .float .f64 vn, .string vs, .bool vy, .int .i64 ve] 37 (0, 0)))) := by
              rw [← Nat.add_assoc, HTk2.out]
              exact HI.out.keep (hF2.alloc _)
            clear hF2
            generalize w2.alloc (.cells #[.int .i64 0, .float .f64 vn, .string vs, .bool vy, .int .i64 ve] 37 (0, 0)) = W3 at *
            go_wp2_with fail
            go_roundg (C - (k + 1))
            case measure => omega
            case rel => exact ⟨k + 1, so, sc, by omega, rfl, by go_num, HIs⟩
          · rw [if_neg hk0] at HTk
            have HTk2 : Hid (sprF C 0 (L.take (i * C + k + 1)) = Ps ++ [⟨(i : Int), (k : Int), ⟨vk, vn, vs, vy, ve⟩⟩]) := HTk
            have q0 : (vk == 0) = false := by simpa using hk0
            clear HTk hk0
            have HNw : Hid (∀ (W : World) (j : Nat) (u : Value), (pC ⟨(i : Int), (k : Int), ⟨vk, vn, vs, vy, ve⟩⟩)[j]? = some u → ((W.alloc (.cells #[.int .i64 vk, .float .f64 vn, .string vs, .bool vy, .int .i64 ve] 37 (0, 0))).alloc (.cells #[.int .i64 (i : Int), .int .i64 (k : Int), .int .i64 vk, .float .f64 vn, .string vs, .bool vy, .int .i64 ve] 48 (0, 0))).cell? ((⟨W.heap.size + 1, 0, none⟩ : Addr).add j) = some u) := fun W => by
              have h := World.news_of_block (heap_alloc_new (W.alloc (.cells #[.int .i64 vk, .float .f64 vn, .string vs, .bool vy, .int .i64 ve] 37 (0, 0))) (.cells #[.int .i64 (i : Int), .int .i64 (k : Int), .int .i64 vk, .float .f64 vn, .string vs, .bool vy, .int .i64 ve] 48 (0, 0)))
              rw [show (W.alloc (.cells #[.int .i64 vk, .float .f64 vn, .string vs, .bool vy, .int .i64 ve] 37 (0, 0))).heap.size = W.heap.size + 1 by simp] at h
              exact h
            have HLw : Hid ((pC ⟨(i : Int), (k : Int), ⟨vk, vn, vs, vy, ve⟩⟩).length = 1 * 7) := rfl
            have HOw : Hid (∀ u ∈ pC ⟨(i : Int), (k : Int), ⟨vk, vn, vs, vy, ve⟩⟩, u.oneCell' = true) := pC_oneCell _
            go_wp2_with (first
              | (go_at_call 28; refine (HCa.out _ (Fr.refl _ _)).mono ?_; rintro e w2 ⟨rfl, hF2⟩; have hFX := (hF2.alloc (.cells #[.int .i64 vk, .float .f64 vn, .string vs, .bool vy, .int .i64 ve] 37 (0, 0))); have x4 := (HI.out.keep hFX).u.c4; have hG2 := hFX.alloc (.cells #[.int .i64 (i : Int), .int .i64 (k : Int), .int .i64 vk, .float .f64 vn, .string vs, .bool vy, .int .i64 ve] 48 (0, 0)); have hO2 := (HI.out.keep hG2).own; have hz2s := hG2.size; have hob2 := lt_of_block HI.out.u.o)
              | (at_builtin; refine wpList_append_own _ rfl (.tmp 39) (.tmp 44) 22 rfl (ob + 1) 48 i0 (.agg #[.int .i64 0, .int .i64 0, .int .i64 0, .float .f64 0, .string ⟨#[]⟩, .bool false, .int .i64 0]) 7 64 Tryz.underlying22 hi hz0 hz1 hz2 rfl (by decide) _ Ps.length (psC Ps) rfl hO2 ⟨w2.heap.size + 1, 0, none⟩ 1 1 (pC ⟨(i : Int), (k : Int), ⟨vk, vn, vs, vy, ve⟩⟩) rfl HLw.out (HNw.out w2) HOw.out (by omega) (by omega) (by omega) ?_))
            intro v3 w3 hown3 hg3 _
            obtain ⟨so3, sc3, rfl⟩ := own_slice hown3
            have hgr := HI.out.grow hG2 hg3
            have x4b := hgr.c4
            have z4b := freeOf 4 hgr.o
            have HIs : Hid (SpI w1 ob R C (sprF C 0 (L.take (i * C + (k + 1)))) so3 sc3 (w3.setCell ⟨ob, 4, none⟩ (.slice so3 (Ps.length + 1) sc3))) := by
              rw [← Nat.add_assoc, HTk2.out]
              exact HI.out.step HOB2.out hG2 hg3 _ hown3
            clear hown3 hg3 hO2 hG2 hF2 hz2s hgr x4 hFX hob2
            go_wp2_with fail
            generalize w3.setCell ⟨ob, 4, none⟩ (.slice so3 (Ps.length + 1) sc3) = W3 at *
            go_roundg (C - (k + 1))
            case measure => omega
            case rel => exact ⟨k + 1, so3, sc3, by omega, rfl, by go_num, HIs⟩
        · obtain rfl : k = C := by omega
          have HI2 : Hid (SpI w1 ob R k (sprF k 0 (L.take ((i + 1) * k))) so sc wr) := by rw [← turn_row]; exact HI.out
          go_wp2_with fail
          go_roundg (R - (i + 1))
          case measure => omega
          case rel => exact ⟨i + 1, so, sc, by omega, rfl, by go_num, HI2⟩
    · obtain rfl : i = R := by omega
      have eL : L.take (i * C) = L := by rw [← HQ.out.1, List.take_length]
      rw [eL] at HT
      have x0 := HT.out.u.c0
      have x1 := HT.out.u.c1
      have x2 := HT.out.u.c2
      have x3 := HT.out.u.c3
      have x4 := HT.out.u.c4
      have hO1 := (HH.out _ (HF1.out.trans HT.out.fr)).2
      go_wp2_with (refine wpList_store_arg rfl (.tmp 2) (.tmp 49) rfl (w.heap.size + 1) false false (i : Int) (C : Int) so (sprF C 0 L).length sc rfl rfl hO1 ?_; intro W hW hFW)
      obtain ⟨so2, sc2, he, hv⟩ := own_ps HT.out.own rfl
      injection he with he1 _ _
      rw [← he1] at hv
      refine bodyPost_ret (gretS Tryz.results10 _ _ _ rfl hW) rfl ⟨so, sc, rfl, hv.keep1 hFW (fun b o hb => ?_), ((HF0.out.1.trans HF1.out).trans HT.out.fr).new hFW (by omega)⟩
      have := own_base HT.out.own b (by subst hb; rfl)
      omega
#print axioms psparse_ok
end Go.Proofs.YtpjbobbmldplbaaGreatDoor
