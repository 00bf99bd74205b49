/- The last sheet, corners that the reader reads. -/
import Derived.Test.YtiokbpknaldbaaaDoorRShf
namespace Go.Proofs.YtiokbpknaldbaaaDoor
open Go.RowKit Go.Shelf

theorem emp_yes (t : ByteArray) (h : t.size = 0) : t.toList.isEmpty = true := by
  rw [ByteArray.toList_eq]
  have : t.data.toList = [] := List.length_eq_zero_iff.1 (by simpa using h)
  rw [this]
  rfl
theorem toA_ok {s f t : ByteArray} {p q : Nat} (h : toA s f p = .ok (t, q)) : shA s p = .ok (t, q) ∧ (t.size = 0 ∨ f.size ≠ 0) := by
  unfold toA at h
  split at h
  · cases h
  · rename_i t' q' hs
    split at h
    · rename_i hc
      cases h
      exact ⟨hs, hc⟩
    · cases h
set_option maxRecDepth 100000 in
set_option maxHeartbeats 2000000 in
theorem to_ok (rb : Nat) (s f t : ByteArray) (p q : Nat) (w : World) (h : RdAt w rb s p) (hp : p ≤ s.size) (hz : s.size ≤ 140737488355328) (hs : toA s f p = .ok (t, q)) :
    Calls Tryd.prog 33 #[.pointer (some ⟨rb, 0, none⟩), .string f] w fun e w' => e = .returned (.string t) ∧ RdAt w' rb s q ∧ Fr (oneB rb) w w' := by
  obtain ⟨h1, h2⟩ := toA_ok hs
  have HS := sheet_ok rb s t p q w h hp hz h1
  have d1 := h.c1
  have HH := hold_ok
  clear h hs h1
  by_cases ht : t.size = 0
  · have e1 := emp_yes t ht
    clear h2 ht
    go_enter Tryd.func33, Tryd.ntmps33
    go_wp2_with (first | (go_at_call 29; refine HS.mono ?_; rintro e w1 ⟨rfl, hR1, hF1⟩) | (go_at_call 30; refine (HH _ _ _).mono ?_; rintro e w3 ⟨rfl, rfl⟩))
    go_ret
    exact ⟨rfl, hR1, hF1⟩
  · have e1 := emp_no t (by omega)
    have e2 := emp_no f (by omega)
    clear h2 ht
    go_enter Tryd.func33, Tryd.ntmps33
    go_wp2_with (first | (go_at_call 29; refine HS.mono ?_; rintro e w1 ⟨rfl, hR1, hF1⟩) | (go_at_call 30; refine (HH _ _ _).mono ?_; rintro e w3 ⟨rfl, rfl⟩))
    go_ret
    exact ⟨rfl, hR1, hF1⟩
set_option maxRecDepth 100000 in
set_option maxHeartbeats 2000000 in
theorem to_no (rb : Nat) (s f : ByteArray) (p a : Nat) (c : Int) (w : World) (h : RdAt w rb s p) (hp : p ≤ s.size) (hz : s.size ≤ 140737488355328) (hs : toA s f p = .error (a, c)) :
    Calls Tryd.prog 33 #[.pointer (some ⟨rb, 0, none⟩), .string f] w fun e w' => e = thr a c ∧ Fr (oneB rb) w w' := by
  have d1 := h.c1
  unfold toA at hs
  split at hs
  · rename_i e he
    cases hs
    have HS := sheet_no rb s p a c w h hp hz he
    clear h he
    go_enter Tryd.func33, Tryd.ntmps33
    go_wp2_with (go_at_call 29; refine HS.mono ?_; rintro e w1 ⟨rfl, hF1⟩; exact ⟨rfl, rfl, hF1⟩)
  · rename_i t q he
    split at hs
    · cases hs
    · rename_i hc
      cases hs
      have HS := sheet_ok rb s t p q w h hp hz he
      have HH := hold_no p 110
      have e1 := emp_no t (by omega)
      have e2 := emp_yes f (by omega)
      clear h he hc
      go_enter Tryd.func33, Tryd.ntmps33
      go_wp2_with (first | (go_at_call 29; refine HS.mono ?_; rintro e w1 ⟨rfl, hR1, hF1⟩) | (go_at_call 30; refine (HH _).mono ?_; rintro e w3 ⟨rfl, rfl⟩; exact ⟨rfl, rfl, hF1⟩))
#print axioms to_ok
#print axioms to_no

/-- A corner's cells in a block. -/
structure KAt (w : World) (B : Nat) (r c : Int) (x y : Bool) : Prop where
  o : w.heap[B]? = some (.cells #[.int .i64 r, .int .i64 c, .bool x, .bool y] 23 (0, 0))
theorem KAt.fr {S : Nat → Prop} {w w' : World} {B : Nat} {r c : Int} {x y : Bool} (h : KAt w B r c x y) (hF : Fr S w w') (hB : ¬ S B) : KAt w' B r c x y := ⟨hF.obj h.o hB⟩
section
variable {w : World} {B : Nat} {r c : Int} {x y : Bool} (h : KAt w B r c x y)
include h
theorem KAt.c0 : w.cell? ⟨B, 0, none⟩ = some (.int .i64 r) := cellOf (o := 0) h.o rfl
theorem KAt.c1 : w.cell? ⟨B, 1, none⟩ = some (.int .i64 c) := cellOf (o := 1) h.o rfl
theorem KAt.c2 : w.cell? ⟨B, 2, none⟩ = some (.bool x) := cellOf (o := 2) h.o rfl
theorem KAt.c3 : w.cell? ⟨B, 3, none⟩ = some (.bool y) := cellOf (o := 3) h.o rfl
theorem KAt.f : ∀ o, w.frozen? ⟨B, o, none⟩ = false := fun o => freeOf o h.o
theorem KAt.s0 (r' : Int) : KAt (w.setCell ⟨B, 0, none⟩ (.int .i64 r')) B r' c x y := ⟨setOf 0 _ h.o⟩
theorem KAt.s1 (c' : Int) : KAt (w.setCell ⟨B, 1, none⟩ (.int .i64 c')) B r c' x y := ⟨setOf 1 _ h.o⟩
theorem KAt.s2 (x' : Bool) : KAt (w.setCell ⟨B, 2, none⟩ (.bool x')) B r c x' y := ⟨setOf 2 _ h.o⟩
theorem KAt.s3 (y' : Bool) : KAt (w.setCell ⟨B, 3, none⟩ (.bool y')) B r c x y' := ⟨setOf 3 _ h.o⟩
end
theorem info_cor : (Tryd.prog.info? 23).map (·.size) = some 4 := by kernel_rfl
theorem kret {fn : Func} {p : Tmp} (h : fn.results = #[.cell p 23]) (tmps : Array Value) (w : World) (g : Nat) {r c : Int} {x y : Bool} (hp : tmps.getD p undef = .pointer (some ⟨g, 0, none⟩)) (hv : KAt w g r c x y) :
    (results fn tmps).run Tryd.prog w = .ok (.agg #[.int .i64 r, .int .i64 c, .bool x, .bool y]) w :=
  results_cell_row h tmps w g 23 _ (0, 0) _ hp hv.o Tryd.underlying23 rfl info_cor
theorem RdAt.setO {w : World} {rb : Nat} {s : ByteArray} {p : Nat} (h : RdAt w rb s p) (b o : Nat) (v : Value) (hb : rb ≠ b) : RdAt (w.setCell ⟨b, o, none⟩ v) rb s p := ⟨(Below.heap_setCell _ _ _ _ hb).trans h.at_⟩
theorem KAt.setO {w : World} {B : Nat} {r c : Int} {x y : Bool} (h : KAt w B r c x y) (b o : Nat) (v : Value) (hb : B ≠ b) : KAt (w.setCell ⟨b, o, none⟩ v) B r c x y := ⟨(Below.heap_setCell _ _ _ _ hb).trans h.o⟩
theorem skip36 (rb : Nat) (s : ByteArray) (p : Nat) (w : World) (h : RdAt w rb s p) (hp : p ≤ s.size) (hz : s.size ≤ 140737488355328) :
    Calls Tryd.prog 28 #[.pointer (some ⟨rb, 0, none⟩), .string ⟨#[36]⟩] w fun e w' => e = .returned (.bool (isAt s 36 p)) ∧ RdAt w' rb s (past s 36 p) ∧ Fr (oneB rb) w w' := skip_any rb s 36 p (by decide) w h hp hz
theorem skip58 (rb : Nat) (s : ByteArray) (p : Nat) (w : World) (h : RdAt w rb s p) (hp : p ≤ s.size) (hz : s.size ≤ 140737488355328) :
    Calls Tryd.prog 28 #[.pointer (some ⟨rb, 0, none⟩), .string ⟨#[58]⟩] w fun e w' => e = .returned (.bool (isAt s 58 p)) ∧ RdAt w' rb s (past s 58 p) ∧ Fr (oneB rb) w w' := skip_any rb s 58 p (by decide) w h hp hz
theorem need46 (rb : Nat) (s : ByteArray) (p : Nat) (w : World) (h : RdAt w rb s p) (hp : p ≤ s.size) (hz : s.size ≤ 140737488355328) (hi : isAt s 46 p = true) :
    Calls Tryd.prog 31 #[.pointer (some ⟨rb, 0, none⟩), .string ⟨#[46]⟩] w fun e w' => e = .returned (.tuple #[]) ∧ RdAt w' rb s (p + 1) ∧ Fr (oneB rb) w w' := need_ok rb s 46 p (by decide) w h hp hz hi
theorem need46n (rb : Nat) (s : ByteArray) (p : Nat) (w : World) (h : RdAt w rb s p) (hp : p ≤ s.size) (hz : s.size ≤ 140737488355328) (hi : isAt s 46 p = false) :
    Calls Tryd.prog 31 #[.pointer (some ⟨rb, 0, none⟩), .string ⟨#[46]⟩] w fun e w' => e = thr p 110 ∧ Fr (oneB rb) w w' := need_no rb s 46 p (by decide) w h hp hz hi
theorem Fr.one {w W W2 : World} {rb b : Nat} (h : Fr (oneB rb) w W) (hb : w.heap.size ≤ b) (o : Nat) (v : Value) (hF : Fr (oneB rb) (W.setCell ⟨b, o, none⟩ v) W2) : Fr (oneB rb) w W2 := (h.setCell ⟨b, o, none⟩ (Or.inr hb) v).trans hF

set_option maxRecDepth 100000 in
set_option maxHeartbeats 4000000 in
theorem corner_ok (rb : Nat) (s : ByteArray) (p r c z : Nat) (x y : Bool) (w : World) (h : RdAt w rb s p) (hp : p ≤ s.size) (hz : s.size ≤ 140737488355328) (hs : crA s p = .ok ((r, c, x, y), z)) :
    Calls Tryd.prog 32 #[.pointer (some ⟨rb, 0, none⟩)] w fun e w' => e = .returned (.agg #[.int .i64 (r : Int), .int .i64 (c : Int), .bool x, .bool y]) ∧ RdAt w' rb s z ∧ Fr (oneB rb) w w' := by
  obtain ⟨q, h1, h2, rfl, rfl⟩ := crA_ok hs
  have hp1 := past_le s 36 p hp
  have hc1 := coA_le hp1.2 h1
  have hp2 := past_le s 36 q hc1.2.1
  have hr1 := roA_le hp2.2 h2
  have hlt := h.lt
  obtain ⟨W0, hW0⟩ : ∃ W0, (w.alloc (.cells #[.int .i64 0, .int .i64 0, .bool false, .bool false] 23 (0, 0))).alloc (.cells #[.int .i64 0, .int .i64 0, .bool false, .bool false] 23 (0, 0)) = W0 := ⟨_, rfl⟩
  have hF0 : Fr noB w W0 := by rw [← hW0]; exact ((Fr.refl noB w).alloc _).alloc _
  have hR0 : RdAt W0 rb s p := h.fr hF0 id
  have hA0 : KAt W0 w.heap.size 0 0 false false := ⟨by rw [← hW0]; exact (Below.heap_alloc _ _ _ (by simp)).trans (heap_alloc_new w _)⟩
  have hB0 : KAt W0 (w.heap.size + 1) 0 0 false false := ⟨by
    rw [← hW0]
    have e := heap_alloc_new (w.alloc (.cells #[.int .i64 0, .int .i64 0, .bool false, .bool false] 23 (0, 0))) (.cells #[.int .i64 0, .int .i64 0, .bool false, .bool false] 23 (0, 0))
    rwa [World.size_alloc] at e⟩
  have n1 : rb ≠ w.heap.size + 1 := by omega
  have n0 : rb ≠ w.heap.size := by omega
  have n2 : ¬ oneB rb w.heap.size := fun e => by unfold oneB at e; omega
  have n3 : ¬ oneB rb (w.heap.size + 1) := fun e => by unfold oneB at e; omega
  have n4 : w.heap.size ≠ w.heap.size + 1 := by omega
  have H1 := skip36 rb s p W0 hR0 hp hz
  have H2 : Hid (∀ W, RdAt W rb s (past s 36 p) → _) := fun W hW => rcol_ok rb s _ c q W hW hp1.2 hz h1
  have H3 : Hid (∀ W, RdAt W rb s q → _) := fun W hW => skip36 rb s q W hW hc1.2.1 hz
  have H4 : Hid (∀ W, RdAt W rb s (past s 36 q) → _) := fun W hW => rrow_ok rb s _ r z W hW hp2.2 hz h2
  have HF0 : Hid (Fr (oneB rb) w W0) := hF0.weak
  have HS : Hid (w.heap.size ≤ w.heap.size + 1) := Nat.le_succ _
  clear h hs h1 h2 hF0 hR0 hp1 hc1 hp2 hr1
  generalize isAt s 36 p = y at *
  generalize isAt s 36 q = x at *
  generalize past s 36 p = p1 at *
  generalize past s 36 q = p2 at *
  go_enter Tryd.func32, Tryd.ntmps32
  go_wp2_with (first
    | (go_at_call 28; (with_reducible refine H1.mono ?_); rintro e w1 ⟨rfl, hR1, hF1⟩; have hA1 := hA0.fr hF1 n2; have hB1 := hB0.fr hF1 n3; have g3 := hB1.c3; have f1 := hB1.f; have HG1 : Hid _ := HF0.out.trans hF1; clear hA0 hB0 hF1 H1)
    | (go_at_call 45; (with_reducible refine (H2.out _ (hR1.setO _ _ _ n1)).mono ?_); rintro e w2 ⟨rfl, hR2, hF2⟩; have hA2 := (hA1.setO _ 3 (.bool y) n4).fr hF2 n2; have hB2 := (hB1.s3 y).fr hF2 n3; have HG2 : Hid _ := HG1.out.one HS.out _ _ hF2; clear hA1 hB1 g3 f1 hF2 HG1 hR1 H2; have g1 := hB2.c1; have f2 := hB2.f)
    | (go_at_call 28; (with_reducible refine (H3.out _ (hR2.setO _ _ _ n1)).mono ?_); rintro e w3 ⟨rfl, hR3, hF3⟩; have hA3 := (hA2.setO _ 1 (.int .i64 (c : Int)) n4).fr hF3 n2; have hB3 := (hB2.s1 (c : Int)).fr hF3 n3; have HG3 : Hid _ := HG2.out.one HS.out _ _ hF3; clear hA2 hB2 g1 f2 hF3 HG2 hR2 H3; have g2 := hB3.c2; have f3 := hB3.f)
    | (go_at_call 46; (with_reducible refine (H4.out _ (hR3.setO _ _ _ n1)).mono ?_); rintro e w4 ⟨rfl, hR4, hF4⟩; have hA4 := (hA3.setO _ 2 (.bool x) n4).fr hF4 n2; have hB4 := (hB3.s2 x).fr hF4 n3; have HG4 : Hid _ := HG3.out.one HS.out _ _ hF4; clear hA3 hB3 g2 f3 hF4 HG3 hR3 H4; have g4 := hB4.c0; have g5 := hB4.c1; have g6 := hB4.c2; have g7 := hB4.c3; have f4 := hB4.f; have k0 := hA4.c0; have k1 := hA4.c1; have k2 := hA4.c2; have k3 := hA4.c3; have f5 := hA4.f))
  refine bodyPost_ret (kret Tryd.results32 _ _ w.heap.size rfl (((((hA4.setO _ 0 (.int .i64 (r : Int)) n4).s0 (r : Int)).s1 (c : Int)).s2 x).s3 y)) rfl ⟨rfl, ?_, ?_⟩
  · exact ((((hR4.setO _ _ _ n1).setO _ _ _ n0).setO _ _ _ n0).setO _ _ _ n0).setO _ _ _ n0
  · exact ((((HG4.out.setCell _ (Or.inr HS.out) _).setCell _ (Or.inr (Nat.le_refl _)) _).setCell _ (Or.inr (Nat.le_refl _)) _).setCell _ (Or.inr (Nat.le_refl _)) _).setCell _ (Or.inr (Nat.le_refl _)) _
#print axioms corner_ok
set_option maxRecDepth 100000 in
set_option maxHeartbeats 4000000 in
theorem corner_no (rb : Nat) (s : ByteArray) (p a : Nat) (d : Int) (w : World) (h : RdAt w rb s p) (hE : ETab w) (hb1 : ¬ rb = 2) (hb2 : ¬ rb = 3) (hp : p ≤ s.size) (hz : s.size ≤ 140737488355328) (hs : crA s p = .error (a, d)) :
    Calls Tryd.prog 32 #[.pointer (some ⟨rb, 0, none⟩)] w fun e w' => e = thr a d ∧ Fr (oneB rb) w w' := by
  have hp1 := past_le s 36 p hp
  have hlt := h.lt
  have hg1 : 2 < w.heap.size := by obtain ⟨⟨_, _, e⟩, _⟩ := hE; exact lt_of_cell e
  have hg2 : 3 < w.heap.size := by obtain ⟨_, ⟨_, _, e⟩⟩ := hE; exact lt_of_cell e
  obtain ⟨W0, hW0⟩ : ∃ W0, (w.alloc (.cells #[.int .i64 0, .int .i64 0, .bool false, .bool false] 23 (0, 0))).alloc (.cells #[.int .i64 0, .int .i64 0, .bool false, .bool false] 23 (0, 0)) = W0 := ⟨_, rfl⟩
  have hF0 : Fr noB w W0 := by rw [← hW0]; exact ((Fr.refl noB w).alloc _).alloc _
  have hR0 : RdAt W0 rb s p := h.fr hF0 id
  have hB0 : KAt W0 (w.heap.size + 1) 0 0 false false := ⟨by
    rw [← hW0]
    have e := heap_alloc_new (w.alloc (.cells #[.int .i64 0, .int .i64 0, .bool false, .bool false] 23 (0, 0))) (.cells #[.int .i64 0, .int .i64 0, .bool false, .bool false] 23 (0, 0))
    rwa [World.size_alloc] at e⟩
  have n1 : rb ≠ w.heap.size + 1 := by omega
  have n3 : ¬ oneB rb (w.heap.size + 1) := fun e => by unfold oneB at e; omega
  have H1 := skip36 rb s p W0 hR0 hp hz
  have HE : Hid (∀ W, Fr (oneB rb) w W → ETab W) := fun W hF => hE.fr hF (fun e => hb1 e.symm) (fun e => hb2 e.symm)
  have HF0 : Hid (Fr (oneB rb) w W0) := hF0.weak
  have HS : Hid (w.heap.size ≤ w.heap.size + 1) := Nat.le_succ _
  unfold crA at hs
  split at hs
  · rename_i e he
    cases hs
    have H2 : Hid (∀ W, RdAt W rb s (past s 36 p) → _) := fun W hW => rcol_no rb s _ a d W hW hp1.2 hz he
    clear h hF0 hR0 hp1 he hE hb1 hb2
    generalize isAt s 36 p = y at *
    generalize past s 36 p = p1 at *
    go_enter Tryd.func32, Tryd.ntmps32
    go_wp2_with (first
      | (go_at_call 28; (with_reducible refine H1.mono ?_); rintro e w1 ⟨rfl, hR1, hF1⟩; have hB1 := hB0.fr hF1 n3; have g3 := hB1.c3; have f1 := hB1.f; have HG1 : Hid _ := HF0.out.trans hF1; clear hB0 hF1 H1)
      | (go_at_call 45; (with_reducible refine (H2.out _ (hR1.setO _ _ _ n1)).mono ?_); rintro e w2 ⟨rfl, hF2⟩; exact ⟨rfl, rfl, HG1.out.one HS.out _ _ hF2⟩))
  · rename_i c q he
    have hc1 := coA_le hp1.2 he
    have hp2 := past_le s 36 q hc1.2.1
    split at hs
    · rename_i e hr
      cases hs
      have H2 : Hid (∀ W, RdAt W rb s (past s 36 p) → _) := fun W hW => rcol_ok rb s _ c q W hW hp1.2 hz he
      have H3 : Hid (∀ W, RdAt W rb s q → _) := fun W hW => skip36 rb s q W hW hc1.2.1 hz
      have H4 : Hid (∀ W, RdAt W rb s (past s 36 q) → ETab W → _) := fun W hW hEE => rrow_no rb s _ a d W hW hEE hb1 hb2 hp2.2 hz hr
      clear h hF0 hR0 hp1 hc1 hp2 he hr hE hb1 hb2
      generalize isAt s 36 p = y at *
      generalize isAt s 36 q = x at *
      generalize past s 36 p = p1 at *
      generalize past s 36 q = p2 at *
      go_enter Tryd.func32, Tryd.ntmps32
      go_wp2_with (first
        | (go_at_call 28; (with_reducible refine H1.mono ?_); rintro e w1 ⟨rfl, hR1, hF1⟩; have hB1 := hB0.fr hF1 n3; have g3 := hB1.c3; have f1 := hB1.f; have HG1 : Hid _ := HF0.out.trans hF1; clear hB0 hF1 H1)
        | (go_at_call 45; (with_reducible refine (H2.out _ (hR1.setO _ _ _ n1)).mono ?_); rintro e w2 ⟨rfl, hR2, hF2⟩; have hB2 := (hB1.s3 y).fr hF2 n3; have HG2 : Hid _ := HG1.out.one HS.out _ _ hF2; clear hB1 g3 f1 hF2 HG1 hR1 H2; have g1 := hB2.c1; have f2 := hB2.f)
        | (go_at_call 28; (with_reducible refine (H3.out _ (hR2.setO _ _ _ n1)).mono ?_); rintro e w3 ⟨rfl, hR3, hF3⟩; have hB3 := (hB2.s1 (c : Int)).fr hF3 n3; have HG3 : Hid _ := HG2.out.one HS.out _ _ hF3; clear hB2 g1 f2 hF3 HG2 hR2 H3; have g2 := hB3.c2; have f3 := hB3.f)
        | (go_at_call 46; (with_reducible refine (H4.out _ (hR3.setO _ _ _ n1) (HE.out _ (HG3.out.setCell _ (Or.inr HS.out) _))).mono ?_); rintro e w4 ⟨rfl, hF4⟩; exact ⟨rfl, rfl, HG3.out.one HS.out _ _ hF4⟩))
    · cases hs
#print axioms corner_no
end Go.Proofs.YtiokbpknaldbaaaDoor
