/- The reader's numbers, where they stand whole. -/
import Derived.Test.YtlhikoomghbnjaaGreatDoorZRdr
namespace Go.Proofs.YtlhikoomghbnjaaGreatDoor
open Go.RowKit
attribute [local go_sem ↓] Go.wp_at_zero Go.wp_at_succ

/-- A reader at the place p. -/
def RdA (w : World) (rb : Nat) (t : TypeId) (cs : Array Value) (ao : Option Addr) (cap : Nat) (B : List Nat) (lack p : Nat) : Prop := RdrIs w rb t (cs.setIfInBounds 1 (.int .i64 (p : Int))) ao cap B p lack
theorem RdA.keep {w w' : World} {rb : Nat} {t : TypeId} {cs : Array Value} {ao : Option Addr} {cap : Nat} {B : List Nat} {lack p : Nat} (h : RdA w rb t cs ao cap B lack p) (hF : Fr noB w w') : RdA w' rb t cs ao cap B lack p := RdrIs.keep h hF

section
variable (rb : Nat) (t : TypeId) (cs : Array Value) (ao : Option Addr) (cap : Nat) (B : List Nat) (lack : Nat)

theorem takeA (n p r : Nat) (w : World) (h : RdA w rb t cs ao cap B lack p) (hr : p + n = r) (hn : r ≤ B.length) :
    Calls Tryz.prog 59 #[.pointer (some ⟨rb, 0, none⟩), .int .i64 (n : Int)] w fun e w' => ∃ ao' c', e = .returned (.slice ao' n c') ∧ Bs w' (.slice ao' n c') ((B.drop p).take n) ∧ (∀ b off sp, ao' = some ⟨b, off, sp⟩ → b ≠ rb) ∧ RdA w' rb t cs ao cap B lack r ∧ Fr (oneB rb) w w' := by
  refine (take_good rb n r t _ ao cap B p lack w h hr hn).mono ?_
  rintro e w' ⟨ao', c', h1, h2, h3, h4, h5⟩
  refine ⟨ao', c', h1, h2, h3, ?_, h5⟩
  rw [Array.setIfInBounds_setIfInBounds] at h4
  exact h4

set_option maxRecDepth 100000 in
theorem skipA (n p r : Nat) (w : World) (h : RdA w rb t cs ao cap B lack p) (hr : p + n = r) (hn : r ≤ B.length) :
    Calls Tryz.prog 51 #[.pointer (some ⟨rb, 0, none⟩), .int .i64 (n : Int)] w fun e w' => e = .returned (.tuple #[]) ∧ RdA w' rb t cs ao cap B lack r ∧ Fr (oneB rb) w w' := by
  have HC := takeA rb t cs ao cap B lack n p r w h hr hn
  clear h hr hn
  go_enter Tryz.func51, Tryz.ntmps51
  go_wp2_with fail
  refine HC.mono ?_
  rintro e w1 ⟨ao', c', rfl, -, -, h4, h5⟩
  go_wp2_with fail
  go_end0
  exact ⟨rfl, h4, h5⟩

/-- The short and the long at a place. -/
def shAt (B : List Nat) (p : Nat) : Nat := B.getD p 0 + 256 * B.getD (p + 1) 0
def lgAt (B : List Nat) (p : Nat) : Nat := shAt B p + 65536 * shAt B (p + 2)
theorem getD_lt (hB : ∀ x ∈ B, x < 256) (p : Nat) : B.getD p 0 < 256 := by
  rcases Nat.lt_or_ge p B.length with h | h
  · rw [List.getD_eq_getElem?_getD, List.getElem?_eq_getElem h]
    exact hB _ (List.getElem_mem h)
  · rw [List.getD_eq_getElem?_getD, List.getElem?_eq_none h]
    decide
theorem shAt_lt (hB : ∀ x ∈ B, x < 256) (p : Nat) : shAt B p < 65536 := by
  have h1 := getD_lt B hB p
  have h2 := getD_lt B hB (p + 1)
  unfold shAt
  omega
theorem lgAt_lt (hB : ∀ x ∈ B, x < 256) (p : Nat) : lgAt B p < 4294967296 := by
  have h1 := shAt_lt B hB p
  have h2 := shAt_lt B hB (p + 2)
  unfold lgAt
  omega
theorem or16 (a b : Nat) (ha : a < 256) (hb : b < 256) : bits .or .u16 (a : Int) ((b : Int) * 256) = ((a + 256 * b : Nat) : Int) := by
  have h := u16_or_nat a (b * 256) (by omega) (by omega)
  have e : a ||| b * 256 = a + 256 * b := by
    have h2 : 2 ^ 8 * b + a = 2 ^ 8 * b ||| a := Nat.two_pow_add_eq_or_of_lt (i := 8) (by omega) b
    rw [Nat.or_comm, Nat.mul_comm b, show (256 : Nat) = 2 ^ 8 by decide, ← h2]
    omega
  rw [e] at h
  rw [← h]
  congr 1
theorem or32 (a b : Nat) (ha : a < 65536) (hb : b < 65536) : bits .or .u32 (a : Int) ((b : Int) * 65536) = ((a + 65536 * b : Nat) : Int) := by
  have h := u32_or_nat a (b * 65536) (by omega) (by omega)
  have e : a ||| b * 65536 = a + 65536 * b := by
    have h2 : 2 ^ 16 * b + a = 2 ^ 16 * b ||| a := Nat.two_pow_add_eq_or_of_lt (i := 16) (by omega) b
    rw [Nat.or_comm, Nat.mul_comm b, show (65536 : Nat) = 2 ^ 16 by decide, ← h2]
    omega
  rw [e] at h
  rw [← h]
  congr 1

set_option maxRecDepth 100000 in
set_option maxHeartbeats 800000 in
theorem shortA (p : Nat) (w : World) (h : RdA w rb t cs ao cap B lack p) (hB : ∀ x ∈ B, x < 256) (hn : p + 2 ≤ B.length) :
    Calls Tryz.prog 54 #[.pointer (some ⟨rb, 0, none⟩)] w fun e w' => e = .returned (.int .u16 ((shAt B p : Nat) : Int)) ∧ RdA w' rb t cs ao cap B lack (p + 2) ∧ Fr (oneB rb) w w' := by
  have HC := takeA rb t cs ao cap B lack 2 p (p + 2) w h rfl hn
  obtain ⟨x, hx⟩ : ∃ x, B.getD p 0 = x := ⟨_, rfl⟩
  obtain ⟨y, hy⟩ : ∃ y, B.getD (p + 1) 0 = y := ⟨_, rfl⟩
  have hx2 : x < 256 := hx ▸ getD_lt B hB p
  have hy2 : y < 256 := hy ▸ getD_lt B hB (p + 1)
  have hD : (B.drop p).take 2 = [x, y] := by
    apply List.ext_getElem
    · simp; omega
    · intro i h1 h2
      match i, h2 with
      | 0, _ => simp [← hx, List.getD_eq_getElem?_getD, List.getElem?_eq_getElem (show p < B.length by omega)]
      | 1, _ => simp [← hy, List.getD_eq_getElem?_getD, List.getElem?_eq_getElem (show p + 1 < B.length by omega)]
  rw [hD] at HC
  have HV : Hid (shAt B p = x + 256 * y) := by
    show shAt B p = _
    unfold shAt
    rw [hx, hy]
  have HO := or16 x y hx2 hy2
  obtain ⟨z, hz⟩ : ∃ z, x + 256 * y = z := ⟨_, rfl⟩
  have HZ : Hid (x + 256 * y = z) := hz
  rw [hz] at HO
  clear h hn hx hy hD hB hz
  go_enter Tryz.func54, Tryz.ntmps54
  go_wp2_with fail
  refine HC.mono ?_
  rintro e w1 ⟨ao', c', rfl, hbs, -, h4, h5⟩
  obtain ⟨ao2, cap2, he, g1, g2, g3, g4⟩ := hbs
  cases he
  rcases g4 with g4 | ⟨b, off, rfl, hb, hc⟩
  · cases g4
  · have k0 := hc 0 (by simp)
    have k1 := hc 1 (by simp)
    simp only [List.getElem_cons_zero, List.getElem_cons_succ, Nat.add_zero] at k0 k1
    unfold maxLen at g2
    have HH : Hid _ := h4
    clear hc h4
    go_wp2_with fail
    go_quiet (fail)
    go_wp2_with fail
    go_ret
    exact ⟨ret_int (by rw [HV.out, HZ.out]), HH.out.keep ((Fr.refl noB _).drewN _), h5.drewN _⟩

set_option maxRecDepth 100000 in
set_option maxHeartbeats 800000 in
theorem sizeA (p : Nat) (w : World) (h : RdA w rb t cs ao cap B lack p) (hB : ∀ x ∈ B, x < 256) (hn : p + 2 ≤ B.length) :
    Calls Tryz.prog 52 #[.pointer (some ⟨rb, 0, none⟩)] w fun e w' => e = .returned (.int .i64 ((shAt B p : Nat) : Int)) ∧ RdA w' rb t cs ao cap B lack (p + 2) ∧ Fr (oneB rb) w w' := by
  have HC := shortA rb t cs ao cap B lack p w h hB hn
  have hx := shAt_lt B hB p
  generalize shAt B p = x at *
  clear h hn
  go_enter Tryz.func52, Tryz.ntmps52
  go_wp2_with fail
  refine HC.mono ?_
  rintro e w1 ⟨rfl, h4, h5⟩
  go_wp2_with fail
  go_ret
  exact ⟨rfl, h4, h5⟩

set_option maxRecDepth 100000 in
set_option maxHeartbeats 800000 in
theorem longA (p : Nat) (w : World) (h : RdA w rb t cs ao cap B lack p) (hB : ∀ x ∈ B, x < 256) (hn : p + 4 ≤ B.length) :
    Calls Tryz.prog 50 #[.pointer (some ⟨rb, 0, none⟩)] w fun e w' => e = .returned (.int .u32 ((lgAt B p : Nat) : Int)) ∧ RdA w' rb t cs ao cap B lack (p + 4) ∧ Fr (oneB rb) w w' := by
  have HC := shortA rb t cs ao cap B lack p w h hB (by omega)
  have HC2 : ∀ w1, RdA w1 rb t cs ao cap B lack (p + 2) → Calls Tryz.prog 54 #[.pointer (some ⟨rb, 0, none⟩)] w1 fun e w' => e = .returned (.int .u16 ((shAt B (p + 2) : Nat) : Int)) ∧ RdA w' rb t cs ao cap B lack (p + 4) ∧ Fr (oneB rb) w1 w' := fun w1 h1 => shortA rb t cs ao cap B lack (p + 2) w1 h1 hB hn
  have hx := shAt_lt B hB p
  have hy := shAt_lt B hB (p + 2)
  have HV : Hid (lgAt B p = shAt B p + 65536 * shAt B (p + 2)) := rfl
  have HO := or32 _ _ hx hy
  generalize shAt B p = x at *
  generalize shAt B (p + 2) = y at *
  obtain ⟨z, hz⟩ : ∃ z, x + 65536 * y = z := ⟨_, rfl⟩
  have HZ : Hid (x + 65536 * y = z) := hz
  rw [hz] at HO
  have HC3 : Hid _ := HC2
  clear h hn hz HC2
  go_enter Tryz.func50, Tryz.ntmps50
  go_wp2_with fail
  refine HC.mono ?_
  rintro e w1 ⟨rfl, h4, h5⟩
  have HC4 := HC3.out w1 h4
  clear h4
  go_wp2_with fail
  refine HC4.mono ?_
  rintro e w2 ⟨rfl, h6, h7⟩
  go_wp2_with fail
  go_ret
  exact ⟨ret_int (by rw [HV.out, HZ.out]), h6, h5.trans h7⟩

set_option maxRecDepth 100000 in
set_option maxHeartbeats 800000 in
theorem markA (p m : Nat) (w : World) (h : RdA w rb t cs ao cap B lack p) (hB : ∀ x ∈ B, x < 256) (hn : p + 4 ≤ B.length) (hm : lgAt B p = m) :
    Calls Tryz.prog 53 #[.pointer (some ⟨rb, 0, none⟩), .int .u32 (m : Int)] w fun e w' => e = .returned (.tuple #[]) ∧ RdA w' rb t cs ao cap B lack (p + 4) ∧ Fr (oneB rb) w w' := by
  have HC : ∀ w1, Fr noB w w1 → Calls Tryz.prog 50 #[.pointer (some ⟨rb, 0, none⟩)] w1 fun e w' => e = .returned (.int .u32 (m : Int)) ∧ RdA w' rb t cs ao cap B lack (p + 4) ∧ Fr (oneB rb) w1 w' := fun w1 hF => by
    have := longA rb t cs ao cap B lack p w1 (h.keep hF) hB hn
    rw [hm] at this
    exact this
  have d2 : w.cell? ⟨rb, 2, none⟩ = some (.int .i64 (lack : Int)) := cellOf (RdrIs.at_ h) (RdrIs.c2 h)
  have HC3 : Hid _ := HC
  clear h hn hm HC
  go_enter Tryz.func53, Tryz.ntmps53
  go_wp2_with fail
  go_region_held3 (fun w' => w'.cell? ⟨rb, 2, none⟩ = some (.int .i64 (lack : Int))) (first | exact d2 | exact d3)
    (first | (go_at_call 50; refine (HC3.out _ ((Fr.refl noB w).drew)).mono ?_; rintro e w1 ⟨rfl, h4, h5⟩; have d3 : w1.cell? ⟨rb, 2, none⟩ = some (.int .i64 (lack : Int)) := cellOf (RdrIs.at_ h4) (RdrIs.c2 h4)) | (go_at_call 40; refine (hold_true _ _).mono ?_; rintro e w2 ⟨rfl, rfl⟩))
  go_wp2_with fail
  go_end0
  exact ⟨rfl, h4, (((Fr.refl noB w).drew).weak).trans h5⟩

end
/-- Behind w0 a struct is being filled in block b, and the answer lies in block a. -/
structure Bld (w0 w : World) (rb : Nat) (t : TypeId) (cs : Array Value) (ao : Option Addr) (cap : Nat) (B : List Nat) (lack p : Nat) (a b : Nat) (ca cb : Array Value) (ty : TypeId) : Prop where
  rd : RdA w rb t cs ao cap B lack p
  ha : w.heap[a]? = some (.cells ca ty (0, 0))
  hb : w.heap[b]? = some (.cells cb ty (0, 0))
  fr : Fr (oneB rb) w0 w
  a0 : w0.heap.size ≤ a
  b0 : w0.heap.size ≤ b
  ab : a ≠ b
  rlt : rb < w0.heap.size
  olt : ∀ k off sp, ao = some ⟨k, off, sp⟩ → k < w0.heap.size
section
variable {w0 w w' : World} {rb : Nat} {t : TypeId} {cs : Array Value} {ao : Option Addr} {cap : Nat} {B : List Nat} {lack p q : Nat} {a b : Nat} {ca cb : Array Value} {ty : TypeId}
theorem RdA.at_ (h : RdA w rb t cs ao cap B lack p) : w.heap[rb]? = some (.cells (cs.setIfInBounds 1 (.int .i64 (p : Int))) t (0, 0)) := RdrIs.at_ h
theorem RdA.keepS {S : Nat → Prop} (h : RdA w rb t cs ao cap B lack p) (hF : Fr S w w') (h1 : ¬ S rb) (h2 : ∀ k off sp, ao = some ⟨k, off, sp⟩ → ¬ S k) : RdA w' rb t cs ao cap B lack p := by
  have h' : RdrIs w rb t (cs.setIfInBounds 1 (.int .i64 (p : Int))) ao cap B p lack := h
  refine ⟨hF.obj h'.at_ h1, h'.c0, h'.c1, h'.c2, h'.le, h'.max, h'.nil, ?_, h'.ne⟩
  rcases h'.row with h3 | ⟨k, off, rfl, hb, hc⟩
  · exact Or.inl h3
  · exact Or.inr ⟨k, off, rfl, Nat.lt_of_lt_of_le hb hF.size, fun i hi => (hF.cell (a := ⟨k, off + i, none⟩) hb (h2 k off none rfl)).trans (hc i hi)⟩
theorem RdA.olt (h : RdA w rb t cs ao cap B lack p) (h0 : 0 < B.length) : ∀ k off sp, ao = some ⟨k, off, sp⟩ → k < w.heap.size := by
  have h' : RdrIs w rb t (cs.setIfInBounds 1 (.int .i64 (p : Int))) ao cap B p lack := h
  intro k off sp e
  rcases h'.row with h3 | ⟨k', off', e', hb, hc⟩
  · rw [h3] at h0; cases h0
  · rw [e] at e'
    cases e'
    exact hb
theorem Bld.start (h : RdA w rb t cs ao cap B lack p) (h0 : 0 < B.length) (c : Array Value) : Bld w ((w.alloc (.cells c ty (0, 0))).alloc (.cells c ty (0, 0))) rb t cs ao cap B lack p w.heap.size (w.heap.size + 1) c c ty := by
  have hF := ((Fr.refl noB w).alloc (.cells c ty (0, 0))).alloc (.cells c ty (0, 0))
  have e2 := heap_alloc_new (w.alloc (.cells c ty (0, 0))) (.cells c ty (0, 0))
  rw [show (w.alloc (.cells c ty (0, 0))).heap.size = w.heap.size + 1 by simp] at e2
  exact ⟨h.keep hF, (Below.heap_alloc _ _ _ (by simp)).trans (heap_alloc_new _ _), e2, hF.weak, Nat.le_refl _, by omega, by omega, lt_of_block h.at_, h.olt h0⟩
theorem Bld.step (h : Bld w0 w rb t cs ao cap B lack p a b ca cb ty) (h1 : RdA w' rb t cs ao cap B lack q) (h2 : Fr (oneB rb) w w') : Bld w0 w' rb t cs ao cap B lack q a b ca cb ty :=
  ⟨h1, h2.obj h.ha (fun e => by have := h.rlt; have := h.a0; have e' : a = rb := e; omega), h2.obj h.hb (fun e => by have := h.rlt; have := h.b0; have e' : b = rb := e; omega), h.fr.trans h2, h.a0, h.b0, h.ab, h.rlt, h.olt⟩
theorem Bld.setB (h : Bld w0 w rb t cs ao cap B lack p a b ca cb ty) (i : Nat) (x : Value) : Bld w0 (w.setCell ⟨b, i, none⟩ x) rb t cs ao cap B lack p a b ca (cb.setIfInBounds i x) ty := by
  have hF : Fr (oneB b) w (w.setCell ⟨b, i, none⟩ x) := (Fr.refl _ w).setOne i x
  refine ⟨h.rd.keepS hF (fun e => ?_) (fun k off sp e e2 => ?_), ?_, setOf i x h.hb, h.fr.setCell _ (Or.inr h.b0) _, h.a0, h.b0, h.ab, h.rlt, h.olt⟩
  · have := h.rlt; have := h.b0; have e' : rb = b := e; omega
  · have := h.olt k off sp e; have := h.b0; have e' : k = b := e2; omega
  · rw [Below.heap_setCell _ _ _ _ h.ab]
    exact h.ha
theorem Bld.setA (h : Bld w0 w rb t cs ao cap B lack p a b ca cb ty) (i : Nat) (x : Value) : Bld w0 (w.setCell ⟨a, i, none⟩ x) rb t cs ao cap B lack p a b (ca.setIfInBounds i x) cb ty := by
  have hF : Fr (oneB a) w (w.setCell ⟨a, i, none⟩ x) := (Fr.refl _ w).setOne i x
  refine ⟨h.rd.keepS hF (fun e => ?_) (fun k off sp e e2 => ?_), setOf i x h.ha, ?_, h.fr.setCell _ (Or.inr h.a0) _, h.a0, h.b0, h.ab, h.rlt, h.olt⟩
  · have := h.rlt; have := h.a0; have e' : rb = a := e; omega
  · have := h.olt k off sp e; have := h.a0; have e' : k = a := e2; omega
  · rw [Below.heap_setCell _ _ _ _ h.ab.symm]
    exact h.hb
end
theorem Tryz.infoLongs : (Tryz.prog.info? 67).map (·.size) = some 3 := by kernel_rfl
theorem Tryz.infoHead : (Tryz.prog.info? 69).map (·.size) = some 6 := by kernel_rfl
theorem Tryz.infoRecord : (Tryz.prog.info? 72).map (·.size) = some 8 := by kernel_rfl
theorem Tryz.infoEnd : (Tryz.prog.info? 79).map (·.size) = some 3 := by kernel_rfl
section
variable (rb : Nat) (t : TypeId) (cs : Array Value) (ao : Option Addr) (cap : Nat) (B : List Nat) (lack : Nat)

set_option maxRecDepth 100000 in
set_option maxHeartbeats 1600000 in
theorem longsA (p : Nat) (w : World) (h : RdA w rb t cs ao cap B lack p) (hB : ∀ x ∈ B, x < 256) (hn : p + 12 ≤ B.length) :
    Calls Tryz.prog 75 #[.pointer (some ⟨rb, 0, none⟩)] w fun e w' => e = .returned (lg3 (lgAt B p) (lgAt B (p + 4)) (lgAt B (p + 8))) ∧ RdA w' rb t cs ao cap B lack (p + 12) ∧ Fr (oneB rb) w w' := by
  have HC : Hid (∀ q w1, q + 4 ≤ B.length → RdA w1 rb t cs ao cap B lack q → Calls Tryz.prog 50 #[.pointer (some ⟨rb, 0, none⟩)] w1 fun e w' => e = .returned (.int .u32 ((lgAt B q : Nat) : Int)) ∧ RdA w' rb t cs ao cap B lack (q + 4) ∧ Fr (oneB rb) w1 w') := fun q w1 hq h1 => longA rb t cs ao cap B lack q w1 h1 hB hq
  have H0 : Hid _ := Bld.start (ty := 67) h (by omega) #[.int .u32 0, .int .u32 0, .int .u32 0]
  have C1 := HC.out p _ (by omega) H0.out.rd
  clear h hB
  obtain ⟨x1, hx1⟩ : ∃ x, lgAt B p = x := ⟨_, rfl⟩
  obtain ⟨x2, hx2⟩ : ∃ x, lgAt B (p + 4) = x := ⟨_, rfl⟩
  obtain ⟨x3, hx3⟩ : ∃ x, lgAt B (p + 8) = x := ⟨_, rfl⟩
  have HX : Hid (lgAt B p = x1 ∧ lgAt B (p + 4) = x2 ∧ lgAt B (p + 8) = x3) := ⟨hx1, hx2, hx3⟩
  rw [hx1] at C1
  rw [hx1, hx2, hx3]
  clear hx1 hx2 hx3
  unfold lg3
  go_enter Tryz.func75, Tryz.ntmps75
  go_wp2_with fail
  refine C1.mono ?_
  rintro e w1 ⟨rfl, h1, f1⟩
  have H1 : Hid _ := H0.out.step h1 f1
  have cb := cellOf (o := 0) H1.out.hb rfl
  have zb := freeOf 0 H1.out.hb
  have H1' : Hid _ := H1.out.setB 0 (.int .u32 (x1 : Int))
  have C2 := HC.out (p + 4) _ (by omega) H1'.out.rd
  rw [HX.out.2.1] at C2
  clear h1 f1
  go_wp2_with fail
  refine C2.mono ?_
  rintro e w2 ⟨rfl, h2, f2⟩
  have H2 : Hid _ := H1'.out.step h2 f2
  have cb2 := cellOf (o := 1) H2.out.hb rfl
  have zb2 := freeOf 1 H2.out.hb
  have H2' : Hid _ := H2.out.setB 1 (.int .u32 (x2 : Int))
  have C3 := HC.out (p + 8) _ (by omega) H2'.out.rd
  rw [HX.out.2.2] at C3
  clear h2 f2 cb zb
  go_wp2_with fail
  refine C3.mono ?_
  rintro e w3 ⟨rfl, h3, f3⟩
  have H3 : Hid _ := H2'.out.step h3 f3
  have d0 : w3.cell? ⟨w.heap.size + 1, 0, none⟩ = some (.int .u32 (x1 : Int)) := cellOf (o := 0) H3.out.hb rfl
  have d1 : w3.cell? ⟨w.heap.size + 1, 1, none⟩ = some (.int .u32 (x2 : Int)) := cellOf (o := 1) H3.out.hb rfl
  have d2 := cellOf (o := 2) H3.out.hb rfl
  have z2 := freeOf 2 H3.out.hb
  have a0 := cellOf (o := 0) H3.out.ha rfl
  have a1 := cellOf (o := 1) H3.out.ha rfl
  have a2 := cellOf (o := 2) H3.out.ha rfl
  have y0 := freeOf 0 H3.out.ha
  have y1 := freeOf 1 H3.out.ha
  have y2 := freeOf 2 H3.out.ha
  have H4 : Hid _ := (((H3.out.setB 2 (.int .u32 (x3 : Int))).setA 0 (.int .u32 (x1 : Int))).setA 1 (.int .u32 (x2 : Int))).setA 2 (.int .u32 (x3 : Int))
  clear h3 f3 cb2 zb2
  go_wp2_with fail
  exact bodyPost_ret (results_cell_row Tryz.results75 _ _ w.heap.size 67 #[.int .u32 (x1 : Int), .int .u32 (x2 : Int), .int .u32 (x3 : Int)] (0, 0) _ rfl H4.out.ha Tryz.underlying67 rfl Tryz.infoLongs) rfl ⟨rfl, H4.out.rd, H4.out.fr⟩
end
end Go.Proofs.YtlhikoomghbnjaaGreatDoor
