/- Where a cell lies behind a shift: the program's isCell, cellMoved, Cell. -/
import Derived.Test.YthokhnbecgkpbaaDoorHCel
namespace Go.Proofs.YthokhnbecgkpbaaDoor
open Go.RowKit

/-- Is it a cell of one of so many sheets? -/
def inB (l : Nat) (s r c : Int) : Bool := decide (0 ≤ s ∧ s < (l : Int) ∧ 0 ≤ r ∧ r < 1048576 ∧ 0 ≤ c ∧ c < 1024)
set_option maxRecDepth 100000 in
set_option maxHeartbeats 1000000 in
theorem isCell_any (l : Nat) (s r c : Int) (w : World) : Calls Tryd.prog 36 #[.agg #[.int .i64 s, .int .i64 r, .int .i64 c], .int .i64 (l : Int)] w fun e w' => e = .returned (.bool (inB l s r c)) ∧ Fr noB w w' := by
  unfold inB
  go_enter Tryd.func36, Tryd.ntmps36
  go_wp2_with fail
  all_goals
    go_ret
    exact ⟨ret_bool (by rw [Bool.eq_iff_iff]; simp; try omega), (Fr.refl noB w).alloc _⟩
set_option maxRecDepth 100000 in
set_option maxHeartbeats 1000000 in
theorem cellMoved_5 (ao : Option Addr) (cap : Nat) (L : List ByteArray) (sh : ByteArray) (At N : Int) (nm : ByteArray) (s r c : Int) (w : World) (h : SsAt w ao L) (hl : L.length ≤ 140737488355328) (h0 : 0 ≤ s) (h1 : s ≤ 140737488355328) :
    Calls Tryd.prog 37 #[.slice ao L.length cap, .agg #[.int .i64 5, .string sh, .int .i64 At, .int .i64 N, .string nm], .agg #[.int .i64 s, .int .i64 r, .int .i64 c]] w fun e w' => e = .returned (.tuple #[.agg #[.int .i64 (comI At s), .int .i64 r, .int .i64 c], .bool (true)]) ∧ Fr noB w w' := by
  have HF : Hid (∀ W, Fr noB w W → Calls Tryd.prog 9 #[.slice ao L.length cap, .string sh] W fun e w' => e = .returned (.tuple #[.int .i64 (fndN L sh : Int), .bool (fndB L sh)]) ∧ Fr noB W w') := fun W hF => find_any ao cap L sh W (h.keep hF) hl
  have HB := bandOf_5 sh At N nm
  obtain ⟨W0, hW0⟩ : ∃ W0, ((w.alloc (.cells #[.int .i64 5, .string sh, .int .i64 At, .int .i64 N, .string nm] 24 (0, 0))).alloc (.cells #[.int .i64 s, .int .i64 r, .int .i64 c] 38 (0, 0))).alloc (.cells #[.int .i64 0, .int .i64 0, .int .i64 0] 38 (0, 0)) = W0 := ⟨_, rfl⟩
  have hX : XAt W0 w.heap.size 5 sh At N nm := by rw [← hW0]; exact ⟨old1 (old1 (heap_alloc_new w _))⟩
  have hA : AAt W0 (w.heap.size + 1) s r c := by rw [← hW0]; exact ⟨old1 (new1 _ _ _ (by simp))⟩
  have hO : AAt W0 (w.heap.size + 1 + 1) 0 0 0 := by rw [← hW0]; exact ⟨new1 _ _ _ (by simp)⟩
  have hF0 : Fr noB w W0 := by rw [← hW0]; exact (((Fr.refl noB w).alloc _).alloc _).alloc _
  have a0 := hX.c0; have a1 := hX.c1; have a2 := hX.c2; have a3 := hX.c3; have a4 := hX.c4
  have HH : Hid _ := And.intro hX (And.intro hA (And.intro hO hF0))
  clear hX hA hO hF0 h hl
  generalize fndB L sh = bs at *
  generalize L.length = l at *
  have HM : Hid (∀ w, Calls Tryd.prog 50 #[.int .i64 (fndN L sh : Int), .agg #[.int .i64 5, .string sh, .int .i64 At, .int .i64 N, .string nm], .int .i64 s] w fun e w' => e = .returned (.tuple #[.int .i64 (comI At s), .bool (true)]) ∧ Fr noB w w') := fun w => sheetMoved_5 _ sh At N nm s w h0 h1
  generalize (comI At s) = q at *
  go_enter Tryd.func37, Tryd.ntmps37
  go_wp2_with (first
    | (go_at_call 9; refine (HF.out _ HH.out.2.2.2).mono ?_; rintro e w1 ⟨rfl, hF1⟩; have hX1 := HH.out.1.fr hF1; have b0 := hX1.c0; have b1 := hX1.c1; have b2 := hX1.c2; have b3 := hX1.c3; have b4 := hX1.c4; have HF1 : Hid _ := hF1; clear hF1 hX1)
    | (go_at_call 30; refine (HB _).mono ?_; rintro e w2 ⟨rfl, hF2⟩; have hF3 : Fr noB W0 (w2.alloc (.cells #[.int .i64 0, .int .i64 0, .int .i64 0, .bool false, .bool false] 60 (0, 0))) := (HF1.out.trans hF2).alloc _; have hX3 := HH.out.1.fr hF3; have d0 := hX3.c0; have d1 := hX3.c1; have d2 := hX3.c2; have d3 := hX3.c3; have d4 := hX3.c4; have hA3 := HH.out.2.1.fr hF3; have d5 := hA3.c0; have d6 := hA3.c1; have d7 := hA3.c2; have hB3 : BAt (w2.alloc (.cells #[.int .i64 0, .int .i64 0, .int .i64 0, .bool false, .bool false] 60 (0, 0))) w2.heap.size 0 0 0 false false := ⟨heap_alloc_new w2 _⟩; have d8 := hB3.c0; have d9 := hB3.c1; have d10 := hB3.c2; have d11 := hB3.c3; have d12 := hB3.c4; have HF3 : Hid _ := hF3; clear hF3 hX3 hA3 hB3 hF2)
    | (go_at_call 50; refine (HM.out _).mono ?_; rintro e w4 ⟨rfl, hF4⟩; have hF5 := HF3.out.trans hF4; have hA4 := HH.out.2.1.fr hF5; have e0 := hA4.c0; have e1 := hA4.c1; have e2 := hA4.c2; have e3 := hA4.f 0; have e4 := hA4.f 1; have e5 := hA4.f 2; have hO4 := HH.out.2.2.1.fr hF5; have e6 := hO4.c0; have e7 := hO4.c1; have e8 := hO4.c2; have e9 := hO4.f 0; have e10 := hO4.f 1; have e11 := hO4.f 2; have HA4 : Hid _ := And.intro hO4 hF5; clear hA4 hF5 hF4 hO4))
  obtain ⟨W, hW⟩ : ∃ W, (((w4.setCell ⟨w.heap.size + 1, 0, none⟩ (.int .i64 q)).setCell ⟨w.heap.size + 1 + 1, 0, none⟩ (.int .i64 q)).setCell ⟨w.heap.size + 1 + 1, 1, none⟩ (.int .i64 r)).setCell ⟨w.heap.size + 1 + 1, 2, none⟩ (.int .i64 c) = W := ⟨_, rfl⟩
  have p : W.heap[w.heap.size + 1 + 1]? = some (.cells #[.int .i64 q, .int .i64 r, .int .i64 c] 38 (0, 0)) := by
    rw [← hW]
    exact setOf 2 _ (setOf 1 _ (setOf 0 _ ((Below.heap_setCell _ _ _ _ (by show w.heap.size + 1 + 1 ≠ w.heap.size + 1; omega)).trans HA4.out.1.o)))
  have p0 := cellOf (o := 0) p rfl
  have p1 := cellOf (o := 1) p rfl
  have p2 := cellOf (o := 2) p rfl
  have hFW : Fr noB w W := by
    rw [← hW]
    have hG : Fr noB w w4 := HH.out.2.2.2.trans HA4.out.2
    exact (((hG.setCell ⟨w.heap.size + 1, 0, none⟩ (Or.inr (Nat.le_succ _)) _).setCell ⟨w.heap.size + 1 + 1, 0, none⟩ (Or.inr (by show w.heap.size ≤ w.heap.size + 1 + 1; omega)) _).setCell ⟨w.heap.size + 1 + 1, 1, none⟩ (Or.inr (by show w.heap.size ≤ w.heap.size + 1 + 1; omega)) _).setCell ⟨w.heap.size + 1 + 1, 2, none⟩ (Or.inr (by show w.heap.size ≤ w.heap.size + 1 + 1; omega)) _
  try rw [hW]
  refine bodyPost_ret ?_ rfl ⟨rfl, hFW⟩
  simp [results, Tryd.results37, go_sem, p0, p1, p2]
set_option maxRecDepth 100000 in
set_option maxHeartbeats 1000000 in
theorem cellMoved_6 (ao : Option Addr) (cap : Nat) (L : List ByteArray) (sh : ByteArray) (At N : Int) (nm : ByteArray) (s r c : Int) (w : World) (h : SsAt w ao L) (hl : L.length ≤ 140737488355328) (h0 : 0 ≤ s) (h1 : s ≤ 140737488355328) :
    Calls Tryd.prog 37 #[.slice ao L.length cap, .agg #[.int .i64 6, .string sh, .int .i64 At, .int .i64 N, .string nm], .agg #[.int .i64 s, .int .i64 r, .int .i64 c]] w fun e w' => e = .returned (.tuple #[.agg #[.int .i64 (gonI (fndN L sh : Int) s), .int .i64 r, .int .i64 c], .bool (!decide (s = (fndN L sh : Int)))]) ∧ Fr noB w w' := by
  have HF : Hid (∀ W, Fr noB w W → Calls Tryd.prog 9 #[.slice ao L.length cap, .string sh] W fun e w' => e = .returned (.tuple #[.int .i64 (fndN L sh : Int), .bool (fndB L sh)]) ∧ Fr noB W w') := fun W hF => find_any ao cap L sh W (h.keep hF) hl
  have HB := bandOf_6 sh At N nm
  obtain ⟨W0, hW0⟩ : ∃ W0, ((w.alloc (.cells #[.int .i64 6, .string sh, .int .i64 At, .int .i64 N, .string nm] 24 (0, 0))).alloc (.cells #[.int .i64 s, .int .i64 r, .int .i64 c] 38 (0, 0))).alloc (.cells #[.int .i64 0, .int .i64 0, .int .i64 0] 38 (0, 0)) = W0 := ⟨_, rfl⟩
  have hX : XAt W0 w.heap.size 6 sh At N nm := by rw [← hW0]; exact ⟨old1 (old1 (heap_alloc_new w _))⟩
  have hA : AAt W0 (w.heap.size + 1) s r c := by rw [← hW0]; exact ⟨old1 (new1 _ _ _ (by simp))⟩
  have hO : AAt W0 (w.heap.size + 1 + 1) 0 0 0 := by rw [← hW0]; exact ⟨new1 _ _ _ (by simp)⟩
  have hF0 : Fr noB w W0 := by rw [← hW0]; exact (((Fr.refl noB w).alloc _).alloc _).alloc _
  have a0 := hX.c0; have a1 := hX.c1; have a2 := hX.c2; have a3 := hX.c3; have a4 := hX.c4
  have HH : Hid _ := And.intro hX (And.intro hA (And.intro hO hF0))
  clear hX hA hO hF0 h hl
  generalize fndB L sh = bs at *
  generalize L.length = l at *
  have HM : Hid (∀ w, Calls Tryd.prog 50 #[.int .i64 (fndN L sh : Int), .agg #[.int .i64 6, .string sh, .int .i64 At, .int .i64 N, .string nm], .int .i64 s] w fun e w' => e = .returned (.tuple #[.int .i64 (gonI (fndN L sh : Int) s), .bool (!decide (s = (fndN L sh : Int)))]) ∧ Fr noB w w') := fun w => sheetMoved_6 _ sh At N nm s w h0 h1
  generalize (gonI (fndN L sh : Int) s) = q at *
  generalize (!decide (s = (fndN L sh : Int))) = bq at *
  go_enter Tryd.func37, Tryd.ntmps37
  go_wp2_with (first
    | (go_at_call 9; refine (HF.out _ HH.out.2.2.2).mono ?_; rintro e w1 ⟨rfl, hF1⟩; have hX1 := HH.out.1.fr hF1; have b0 := hX1.c0; have b1 := hX1.c1; have b2 := hX1.c2; have b3 := hX1.c3; have b4 := hX1.c4; have HF1 : Hid _ := hF1; clear hF1 hX1)
    | (go_at_call 30; refine (HB _).mono ?_; rintro e w2 ⟨rfl, hF2⟩; have hF3 : Fr noB W0 (w2.alloc (.cells #[.int .i64 0, .int .i64 0, .int .i64 0, .bool false, .bool false] 60 (0, 0))) := (HF1.out.trans hF2).alloc _; have hX3 := HH.out.1.fr hF3; have d0 := hX3.c0; have d1 := hX3.c1; have d2 := hX3.c2; have d3 := hX3.c3; have d4 := hX3.c4; have hA3 := HH.out.2.1.fr hF3; have d5 := hA3.c0; have d6 := hA3.c1; have d7 := hA3.c2; have hB3 : BAt (w2.alloc (.cells #[.int .i64 0, .int .i64 0, .int .i64 0, .bool false, .bool false] 60 (0, 0))) w2.heap.size 0 0 0 false false := ⟨heap_alloc_new w2 _⟩; have d8 := hB3.c0; have d9 := hB3.c1; have d10 := hB3.c2; have d11 := hB3.c3; have d12 := hB3.c4; have HF3 : Hid _ := hF3; clear hF3 hX3 hA3 hB3 hF2)
    | (go_at_call 50; refine (HM.out _).mono ?_; rintro e w4 ⟨rfl, hF4⟩; have hF5 := HF3.out.trans hF4; have hA4 := HH.out.2.1.fr hF5; have e0 := hA4.c0; have e1 := hA4.c1; have e2 := hA4.c2; have e3 := hA4.f 0; have e4 := hA4.f 1; have e5 := hA4.f 2; have hO4 := HH.out.2.2.1.fr hF5; have e6 := hO4.c0; have e7 := hO4.c1; have e8 := hO4.c2; have e9 := hO4.f 0; have e10 := hO4.f 1; have e11 := hO4.f 2; have HA4 : Hid _ := And.intro hO4 hF5; clear hA4 hF5 hF4 hO4))
  obtain ⟨W, hW⟩ : ∃ W, (((w4.setCell ⟨w.heap.size + 1, 0, none⟩ (.int .i64 q)).setCell ⟨w.heap.size + 1 + 1, 0, none⟩ (.int .i64 q)).setCell ⟨w.heap.size + 1 + 1, 1, none⟩ (.int .i64 r)).setCell ⟨w.heap.size + 1 + 1, 2, none⟩ (.int .i64 c) = W := ⟨_, rfl⟩
  have p : W.heap[w.heap.size + 1 + 1]? = some (.cells #[.int .i64 q, .int .i64 r, .int .i64 c] 38 (0, 0)) := by
    rw [← hW]
    exact setOf 2 _ (setOf 1 _ (setOf 0 _ ((Below.heap_setCell _ _ _ _ (by show w.heap.size + 1 + 1 ≠ w.heap.size + 1; omega)).trans HA4.out.1.o)))
  have p0 := cellOf (o := 0) p rfl
  have p1 := cellOf (o := 1) p rfl
  have p2 := cellOf (o := 2) p rfl
  have hFW : Fr noB w W := by
    rw [← hW]
    have hG : Fr noB w w4 := HH.out.2.2.2.trans HA4.out.2
    exact (((hG.setCell ⟨w.heap.size + 1, 0, none⟩ (Or.inr (Nat.le_succ _)) _).setCell ⟨w.heap.size + 1 + 1, 0, none⟩ (Or.inr (by show w.heap.size ≤ w.heap.size + 1 + 1; omega)) _).setCell ⟨w.heap.size + 1 + 1, 1, none⟩ (Or.inr (by show w.heap.size ≤ w.heap.size + 1 + 1; omega)) _).setCell ⟨w.heap.size + 1 + 1, 2, none⟩ (Or.inr (by show w.heap.size ≤ w.heap.size + 1 + 1; omega)) _
  try rw [hW]
  refine bodyPost_ret ?_ rfl ⟨rfl, hFW⟩
  simp [results, Tryd.results37, go_sem, p0, p1, p2]
set_option maxRecDepth 100000 in
set_option maxHeartbeats 1000000 in
theorem cellMoved_7 (ao : Option Addr) (cap : Nat) (L : List ByteArray) (sh : ByteArray) (At N : Int) (nm : ByteArray) (s r c : Int) (w : World) (h : SsAt w ao L) (hl : L.length ≤ 140737488355328) (h0 : 0 ≤ s) (h1 : s ≤ 140737488355328) :
    Calls Tryd.prog 37 #[.slice ao L.length cap, .agg #[.int .i64 7, .string sh, .int .i64 At, .int .i64 N, .string nm], .agg #[.int .i64 s, .int .i64 r, .int .i64 c]] w fun e w' => e = .returned (.tuple #[.agg #[.int .i64 (if s = (fndN L sh : Int) then At else comI At (gonI (fndN L sh : Int) s)), .int .i64 r, .int .i64 c], .bool (true)]) ∧ Fr noB w w' := by
  have HF : Hid (∀ W, Fr noB w W → Calls Tryd.prog 9 #[.slice ao L.length cap, .string sh] W fun e w' => e = .returned (.tuple #[.int .i64 (fndN L sh : Int), .bool (fndB L sh)]) ∧ Fr noB W w') := fun W hF => find_any ao cap L sh W (h.keep hF) hl
  have HB := bandOf_7 sh At N nm
  obtain ⟨W0, hW0⟩ : ∃ W0, ((w.alloc (.cells #[.int .i64 7, .string sh, .int .i64 At, .int .i64 N, .string nm] 24 (0, 0))).alloc (.cells #[.int .i64 s, .int .i64 r, .int .i64 c] 38 (0, 0))).alloc (.cells #[.int .i64 0, .int .i64 0, .int .i64 0] 38 (0, 0)) = W0 := ⟨_, rfl⟩
  have hX : XAt W0 w.heap.size 7 sh At N nm := by rw [← hW0]; exact ⟨old1 (old1 (heap_alloc_new w _))⟩
  have hA : AAt W0 (w.heap.size + 1) s r c := by rw [← hW0]; exact ⟨old1 (new1 _ _ _ (by simp))⟩
  have hO : AAt W0 (w.heap.size + 1 + 1) 0 0 0 := by rw [← hW0]; exact ⟨new1 _ _ _ (by simp)⟩
  have hF0 : Fr noB w W0 := by rw [← hW0]; exact (((Fr.refl noB w).alloc _).alloc _).alloc _
  have a0 := hX.c0; have a1 := hX.c1; have a2 := hX.c2; have a3 := hX.c3; have a4 := hX.c4
  have HH : Hid _ := And.intro hX (And.intro hA (And.intro hO hF0))
  clear hX hA hO hF0 h hl
  generalize fndB L sh = bs at *
  generalize L.length = l at *
  have HM : Hid (∀ w, Calls Tryd.prog 50 #[.int .i64 (fndN L sh : Int), .agg #[.int .i64 7, .string sh, .int .i64 At, .int .i64 N, .string nm], .int .i64 s] w fun e w' => e = .returned (.tuple #[.int .i64 (if s = (fndN L sh : Int) then At else comI At (gonI (fndN L sh : Int) s)), .bool (true)]) ∧ Fr noB w w') := fun w => sheetMoved_7 _ sh At N nm s w h0 h1
  generalize (if s = (fndN L sh : Int) then At else comI At (gonI (fndN L sh : Int) s)) = q at *
  go_enter Tryd.func37, Tryd.ntmps37
  go_wp2_with (first
    | (go_at_call 9; refine (HF.out _ HH.out.2.2.2).mono ?_; rintro e w1 ⟨rfl, hF1⟩; have hX1 := HH.out.1.fr hF1; have b0 := hX1.c0; have b1 := hX1.c1; have b2 := hX1.c2; have b3 := hX1.c3; have b4 := hX1.c4; have HF1 : Hid _ := hF1; clear hF1 hX1)
    | (go_at_call 30; refine (HB _).mono ?_; rintro e w2 ⟨rfl, hF2⟩; have hF3 : Fr noB W0 (w2.alloc (.cells #[.int .i64 0, .int .i64 0, .int .i64 0, .bool false, .bool false] 60 (0, 0))) := (HF1.out.trans hF2).alloc _; have hX3 := HH.out.1.fr hF3; have d0 := hX3.c0; have d1 := hX3.c1; have d2 := hX3.c2; have d3 := hX3.c3; have d4 := hX3.c4; have hA3 := HH.out.2.1.fr hF3; have d5 := hA3.c0; have d6 := hA3.c1; have d7 := hA3.c2; have hB3 : BAt (w2.alloc (.cells #[.int .i64 0, .int .i64 0, .int .i64 0, .bool false, .bool false] 60 (0, 0))) w2.heap.size 0 0 0 false false := ⟨heap_alloc_new w2 _⟩; have d8 := hB3.c0; have d9 := hB3.c1; have d10 := hB3.c2; have d11 := hB3.c3; have d12 := hB3.c4; have HF3 : Hid _ := hF3; clear hF3 hX3 hA3 hB3 hF2)
    | (go_at_call 50; refine (HM.out _).mono ?_; rintro e w4 ⟨rfl, hF4⟩; have hF5 := HF3.out.trans hF4; have hA4 := HH.out.2.1.fr hF5; have e0 := hA4.c0; have e1 := hA4.c1; have e2 := hA4.c2; have e3 := hA4.f 0; have e4 := hA4.f 1; have e5 := hA4.f 2; have hO4 := HH.out.2.2.1.fr hF5; have e6 := hO4.c0; have e7 := hO4.c1; have e8 := hO4.c2; have e9 := hO4.f 0; have e10 := hO4.f 1; have e11 := hO4.f 2; have HA4 : Hid _ := And.intro hO4 hF5; clear hA4 hF5 hF4 hO4))
  obtain ⟨W, hW⟩ : ∃ W, (((w4.setCell ⟨w.heap.size + 1, 0, none⟩ (.int .i64 q)).setCell ⟨w.heap.size + 1 + 1, 0, none⟩ (.int .i64 q)).setCell ⟨w.heap.size + 1 + 1, 1, none⟩ (.int .i64 r)).setCell ⟨w.heap.size + 1 + 1, 2, none⟩ (.int .i64 c) = W := ⟨_, rfl⟩
  have p : W.heap[w.heap.size + 1 + 1]? = some (.cells #[.int .i64 q, .int .i64 r, .int .i64 c] 38 (0, 0)) := by
    rw [← hW]
    exact setOf 2 _ (setOf 1 _ (setOf 0 _ ((Below.heap_setCell _ _ _ _ (by show w.heap.size + 1 + 1 ≠ w.heap.size + 1; omega)).trans HA4.out.1.o)))
  have p0 := cellOf (o := 0) p rfl
  have p1 := cellOf (o := 1) p rfl
  have p2 := cellOf (o := 2) p rfl
  have hFW : Fr noB w W := by
    rw [← hW]
    have hG : Fr noB w w4 := HH.out.2.2.2.trans HA4.out.2
    exact (((hG.setCell ⟨w.heap.size + 1, 0, none⟩ (Or.inr (Nat.le_succ _)) _).setCell ⟨w.heap.size + 1 + 1, 0, none⟩ (Or.inr (by show w.heap.size ≤ w.heap.size + 1 + 1; omega)) _).setCell ⟨w.heap.size + 1 + 1, 1, none⟩ (Or.inr (by show w.heap.size ≤ w.heap.size + 1 + 1; omega)) _).setCell ⟨w.heap.size + 1 + 1, 2, none⟩ (Or.inr (by show w.heap.size ≤ w.heap.size + 1 + 1; omega)) _
  try rw [hW]
  refine bodyPost_ret ?_ rfl ⟨rfl, hFW⟩
  simp [results, Tryd.results37, go_sem, p0, p1, p2]
set_option maxRecDepth 100000 in
set_option maxHeartbeats 1000000 in
theorem cellMoved_8 (ao : Option Addr) (cap : Nat) (L : List ByteArray) (sh : ByteArray) (At N : Int) (nm : ByteArray) (s r c : Int) (w : World) (h : SsAt w ao L) (hl : L.length ≤ 140737488355328) (h0 : 0 ≤ s) (h1 : s ≤ 140737488355328) :
    Calls Tryd.prog 37 #[.slice ao L.length cap, .agg #[.int .i64 8, .string sh, .int .i64 At, .int .i64 N, .string nm], .agg #[.int .i64 s, .int .i64 r, .int .i64 c]] w fun e w' => e = .returned (.tuple #[.agg #[.int .i64 (s), .int .i64 r, .int .i64 c], .bool (true)]) ∧ Fr noB w w' := by
  have HF : Hid (∀ W, Fr noB w W → Calls Tryd.prog 9 #[.slice ao L.length cap, .string sh] W fun e w' => e = .returned (.tuple #[.int .i64 (fndN L sh : Int), .bool (fndB L sh)]) ∧ Fr noB W w') := fun W hF => find_any ao cap L sh W (h.keep hF) hl
  have HB := bandOf_8 sh At N nm
  obtain ⟨W0, hW0⟩ : ∃ W0, ((w.alloc (.cells #[.int .i64 8, .string sh, .int .i64 At, .int .i64 N, .string nm] 24 (0, 0))).alloc (.cells #[.int .i64 s, .int .i64 r, .int .i64 c] 38 (0, 0))).alloc (.cells #[.int .i64 0, .int .i64 0, .int .i64 0] 38 (0, 0)) = W0 := ⟨_, rfl⟩
  have hX : XAt W0 w.heap.size 8 sh At N nm := by rw [← hW0]; exact ⟨old1 (old1 (heap_alloc_new w _))⟩
  have hA : AAt W0 (w.heap.size + 1) s r c := by rw [← hW0]; exact ⟨old1 (new1 _ _ _ (by simp))⟩
  have hO : AAt W0 (w.heap.size + 1 + 1) 0 0 0 := by rw [← hW0]; exact ⟨new1 _ _ _ (by simp)⟩
  have hF0 : Fr noB w W0 := by rw [← hW0]; exact (((Fr.refl noB w).alloc _).alloc _).alloc _
  have a0 := hX.c0; have a1 := hX.c1; have a2 := hX.c2; have a3 := hX.c3; have a4 := hX.c4
  have HH : Hid _ := And.intro hX (And.intro hA (And.intro hO hF0))
  clear hX hA hO hF0 h hl
  generalize fndB L sh = bs at *
  generalize L.length = l at *
  have HM : Hid (∀ w, Calls Tryd.prog 50 #[.int .i64 (fndN L sh : Int), .agg #[.int .i64 8, .string sh, .int .i64 At, .int .i64 N, .string nm], .int .i64 s] w fun e w' => e = .returned (.tuple #[.int .i64 (s), .bool (true)]) ∧ Fr noB w w') := fun w => sheetMoved_8 _ sh At N nm s w h0 h1
  go_enter Tryd.func37, Tryd.ntmps37
  go_wp2_with (first
    | (go_at_call 9; refine (HF.out _ HH.out.2.2.2).mono ?_; rintro e w1 ⟨rfl, hF1⟩; have hX1 := HH.out.1.fr hF1; have b0 := hX1.c0; have b1 := hX1.c1; have b2 := hX1.c2; have b3 := hX1.c3; have b4 := hX1.c4; have HF1 : Hid _ := hF1; clear hF1 hX1)
    | (go_at_call 30; refine (HB _).mono ?_; rintro e w2 ⟨rfl, hF2⟩; have hF3 : Fr noB W0 (w2.alloc (.cells #[.int .i64 0, .int .i64 0, .int .i64 0, .bool false, .bool false] 60 (0, 0))) := (HF1.out.trans hF2).alloc _; have hX3 := HH.out.1.fr hF3; have d0 := hX3.c0; have d1 := hX3.c1; have d2 := hX3.c2; have d3 := hX3.c3; have d4 := hX3.c4; have hA3 := HH.out.2.1.fr hF3; have d5 := hA3.c0; have d6 := hA3.c1; have d7 := hA3.c2; have hB3 : BAt (w2.alloc (.cells #[.int .i64 0, .int .i64 0, .int .i64 0, .bool false, .bool false] 60 (0, 0))) w2.heap.size 0 0 0 false false := ⟨heap_alloc_new w2 _⟩; have d8 := hB3.c0; have d9 := hB3.c1; have d10 := hB3.c2; have d11 := hB3.c3; have d12 := hB3.c4; have HF3 : Hid _ := hF3; clear hF3 hX3 hA3 hB3 hF2)
    | (go_at_call 50; refine (HM.out _).mono ?_; rintro e w4 ⟨rfl, hF4⟩; have hF5 := HF3.out.trans hF4; have hA4 := HH.out.2.1.fr hF5; have e0 := hA4.c0; have e1 := hA4.c1; have e2 := hA4.c2; have e3 := hA4.f 0; have e4 := hA4.f 1; have e5 := hA4.f 2; have hO4 := HH.out.2.2.1.fr hF5; have e6 := hO4.c0; have e7 := hO4.c1; have e8 := hO4.c2; have e9 := hO4.f 0; have e10 := hO4.f 1; have e11 := hO4.f 2; have HA4 : Hid _ := And.intro hO4 hF5; clear hA4 hF5 hF4 hO4))
  obtain ⟨W, hW⟩ : ∃ W, (((w4.setCell ⟨w.heap.size + 1, 0, none⟩ (.int .i64 s)).setCell ⟨w.heap.size + 1 + 1, 0, none⟩ (.int .i64 s)).setCell ⟨w.heap.size + 1 + 1, 1, none⟩ (.int .i64 r)).setCell ⟨w.heap.size + 1 + 1, 2, none⟩ (.int .i64 c) = W := ⟨_, rfl⟩
  have p : W.heap[w.heap.size + 1 + 1]? = some (.cells #[.int .i64 s, .int .i64 r, .int .i64 c] 38 (0, 0)) := by
    rw [← hW]
    exact setOf 2 _ (setOf 1 _ (setOf 0 _ ((Below.heap_setCell _ _ _ _ (by show w.heap.size + 1 + 1 ≠ w.heap.size + 1; omega)).trans HA4.out.1.o)))
  have p0 := cellOf (o := 0) p rfl
  have p1 := cellOf (o := 1) p rfl
  have p2 := cellOf (o := 2) p rfl
  have hFW : Fr noB w W := by
    rw [← hW]
    have hG : Fr noB w w4 := HH.out.2.2.2.trans HA4.out.2
    exact (((hG.setCell ⟨w.heap.size + 1, 0, none⟩ (Or.inr (Nat.le_succ _)) _).setCell ⟨w.heap.size + 1 + 1, 0, none⟩ (Or.inr (by show w.heap.size ≤ w.heap.size + 1 + 1; omega)) _).setCell ⟨w.heap.size + 1 + 1, 1, none⟩ (Or.inr (by show w.heap.size ≤ w.heap.size + 1 + 1; omega)) _).setCell ⟨w.heap.size + 1 + 1, 2, none⟩ (Or.inr (by show w.heap.size ≤ w.heap.size + 1 + 1; omega)) _
  try rw [hW]
  refine bodyPost_ret ?_ rfl ⟨rfl, hFW⟩
  simp [results, Tryd.results37, go_sem, p0, p1, p2]
set_option maxRecDepth 100000 in
set_option maxHeartbeats 1000000 in
theorem cellMoved_1off (ao : Option Addr) (cap : Nat) (L : List ByteArray) (sh : ByteArray) (At N : Int) (nm : ByteArray) (s r c : Int) (w : World) (h : SsAt w ao L) (hl : L.length ≤ 140737488355328) (hs : ¬ s = (fndN L sh : Int)) :
    Calls Tryd.prog 37 #[.slice ao L.length cap, .agg #[.int .i64 1, .string sh, .int .i64 At, .int .i64 N, .string nm], .agg #[.int .i64 s, .int .i64 r, .int .i64 c]] w fun e w' => e = .returned (.tuple #[.agg #[.int .i64 s, .int .i64 r, .int .i64 c], .bool true]) ∧ Fr noB w w' := by
  have HF : Hid (∀ W, Fr noB w W → Calls Tryd.prog 9 #[.slice ao L.length cap, .string sh] W fun e w' => e = .returned (.tuple #[.int .i64 (fndN L sh : Int), .bool (fndB L sh)]) ∧ Fr noB W w') := fun W hF => find_any ao cap L sh W (h.keep hF) hl
  have HB := bandOf_1 sh At N nm
  obtain ⟨W0, hW0⟩ : ∃ W0, ((w.alloc (.cells #[.int .i64 1, .string sh, .int .i64 At, .int .i64 N, .string nm] 24 (0, 0))).alloc (.cells #[.int .i64 s, .int .i64 r, .int .i64 c] 38 (0, 0))).alloc (.cells #[.int .i64 0, .int .i64 0, .int .i64 0] 38 (0, 0)) = W0 := ⟨_, rfl⟩
  have hX : XAt W0 w.heap.size 1 sh At N nm := by rw [← hW0]; exact ⟨old1 (old1 (heap_alloc_new w _))⟩
  have hA : AAt W0 (w.heap.size + 1) s r c := by rw [← hW0]; exact ⟨old1 (new1 _ _ _ (by simp))⟩
  have hO : AAt W0 (w.heap.size + 1 + 1) 0 0 0 := by rw [← hW0]; exact ⟨new1 _ _ _ (by simp)⟩
  have hF0 : Fr noB w W0 := by rw [← hW0]; exact (((Fr.refl noB w).alloc _).alloc _).alloc _
  have a0 := hX.c0; have a1 := hX.c1; have a2 := hX.c2; have a3 := hX.c3; have a4 := hX.c4
  have HH : Hid _ := And.intro hX (And.intro hA (And.intro hO hF0))
  clear hX hA hO hF0 h hl
  generalize fndB L sh = bs at *
  generalize L.length = l at *
  generalize (fndN L sh : Int) = k at *
  have hne : (s != k) = true := by simpa using hs
  clear hs
  go_enter Tryd.func37, Tryd.ntmps37
  go_wp2_with (first
    | (go_at_call 9; refine (HF.out _ HH.out.2.2.2).mono ?_; rintro e w1 ⟨rfl, hF1⟩; have hX1 := HH.out.1.fr hF1; have b0 := hX1.c0; have b1 := hX1.c1; have b2 := hX1.c2; have b3 := hX1.c3; have b4 := hX1.c4; have HF1 : Hid _ := hF1; clear hF1 hX1)
    | (go_at_call 30; refine (HB _).mono ?_; rintro e w2 ⟨rfl, hF2⟩; have hF3 : Fr noB W0 (w2.alloc (.cells #[.int .i64 At, .int .i64 N, .int .i64 1048576, .bool true, .bool false] 60 (0, 0))) := (HF1.out.trans hF2).alloc _; have hX3 := HH.out.1.fr hF3; have d0 := hX3.c0; have d1 := hX3.c1; have d2 := hX3.c2; have d3 := hX3.c3; have d4 := hX3.c4; have hA3 := HH.out.2.1.fr hF3; have d5 := hA3.c0; have d6 := hA3.c1; have d7 := hA3.c2; have hB3 : BAt (w2.alloc (.cells #[.int .i64 At, .int .i64 N, .int .i64 1048576, .bool true, .bool false] 60 (0, 0))) w2.heap.size At N 1048576 true false := ⟨heap_alloc_new w2 _⟩; have d8 := hB3.c0; have d9 := hB3.c1; have d10 := hB3.c2; have d11 := hB3.c3; have d12 := hB3.c4; have hO3 := HH.out.2.2.1.fr hF3; have d13 := hO3.c0; have d14 := hO3.c1; have d15 := hO3.c2; have d16 := hO3.f 0; have d17 := hO3.f 1; have d18 := hO3.f 2; have HF3 : Hid _ := hF3; clear hO3 hF3 hX3 hA3 hB3 hF2))
  obtain ⟨W, hW⟩ : ∃ W, (((w2.alloc (.cells #[.int .i64 At, .int .i64 N, .int .i64 1048576, .bool true, .bool false] 60 (0, 0))).setCell ⟨w.heap.size + 1 + 1, 0, none⟩ (.int .i64 s)).setCell ⟨w.heap.size + 1 + 1, 1, none⟩ (.int .i64 r)).setCell ⟨w.heap.size + 1 + 1, 2, none⟩ (.int .i64 c) = W := ⟨_, rfl⟩
  have p : W.heap[w.heap.size + 1 + 1]? = some (.cells #[.int .i64 s, .int .i64 r, .int .i64 c] 38 (0, 0)) := by
    rw [← hW]
    exact setOf 2 _ (setOf 1 _ (setOf 0 _ (HH.out.2.2.1.fr HF3.out).o))
  have p0 := cellOf (o := 0) p rfl
  have p1 := cellOf (o := 1) p rfl
  have p2 := cellOf (o := 2) p rfl
  have hFW : Fr noB w W := by
    rw [← hW]
    exact (((HH.out.2.2.2.trans HF3.out).setCell ⟨w.heap.size + 1 + 1, 0, none⟩ (Or.inr (by show w.heap.size ≤ w.heap.size + 1 + 1; omega)) _).setCell ⟨w.heap.size + 1 + 1, 1, none⟩ (Or.inr (by show w.heap.size ≤ w.heap.size + 1 + 1; omega)) _).setCell ⟨w.heap.size + 1 + 1, 2, none⟩ (Or.inr (by show w.heap.size ≤ w.heap.size + 1 + 1; omega)) _
  try rw [hW]
  refine bodyPost_ret ?_ rfl ⟨rfl, hFW⟩
  simp [results, Tryd.results37, go_sem, p0, p1, p2]
set_option maxRecDepth 100000 in
set_option maxHeartbeats 1000000 in
theorem cellMoved_1on (ao : Option Addr) (cap : Nat) (L : List ByteArray) (sh : ByteArray) (At N : Int) (nm : ByteArray) (s r c : Int) (w : World) (h : SsAt w ao L) (hl : L.length ≤ 140737488355328) (hs : s = (fndN L sh : Int)) (h1 : 0 ≤ At) (h2 : At ≤ 1048576) (h3 : 0 ≤ N) (h4 : N ≤ 1048576) (h5 : 0 ≤ r) (h6 : r ≤ 1048576) :
    Calls Tryd.prog 37 #[.slice ao L.length cap, .agg #[.int .i64 1, .string sh, .int .i64 At, .int .i64 N, .string nm], .agg #[.int .i64 s, .int .i64 r, .int .i64 c]] w fun e w' => e = .returned (.tuple #[.agg #[.int .i64 s, .int .i64 (movI At N true r), .int .i64 c], .bool (movB At N 1048576 true r)]) ∧ Fr noB w w' := by
  have HF : Hid (∀ W, Fr noB w W → Calls Tryd.prog 9 #[.slice ao L.length cap, .string sh] W fun e w' => e = .returned (.tuple #[.int .i64 (fndN L sh : Int), .bool (fndB L sh)]) ∧ Fr noB W w') := fun W hF => find_any ao cap L sh W (h.keep hF) hl
  have HB := bandOf_1 sh At N nm
  obtain ⟨W0, hW0⟩ : ∃ W0, ((w.alloc (.cells #[.int .i64 1, .string sh, .int .i64 At, .int .i64 N, .string nm] 24 (0, 0))).alloc (.cells #[.int .i64 s, .int .i64 r, .int .i64 c] 38 (0, 0))).alloc (.cells #[.int .i64 0, .int .i64 0, .int .i64 0] 38 (0, 0)) = W0 := ⟨_, rfl⟩
  have hX : XAt W0 w.heap.size 1 sh At N nm := by rw [← hW0]; exact ⟨old1 (old1 (heap_alloc_new w _))⟩
  have hA : AAt W0 (w.heap.size + 1) s r c := by rw [← hW0]; exact ⟨old1 (new1 _ _ _ (by simp))⟩
  have hO : AAt W0 (w.heap.size + 1 + 1) 0 0 0 := by rw [← hW0]; exact ⟨new1 _ _ _ (by simp)⟩
  have hF0 : Fr noB w W0 := by rw [← hW0]; exact (((Fr.refl noB w).alloc _).alloc _).alloc _
  have a0 := hX.c0; have a1 := hX.c1; have a2 := hX.c2; have a3 := hX.c3; have a4 := hX.c4
  have HH : Hid _ := And.intro hX (And.intro hA (And.intro hO hF0))
  clear hX hA hO hF0 h hl
  generalize fndB L sh = bs at *
  generalize L.length = l at *
  have HM : Hid (∀ w, Calls Tryd.prog 51 #[.agg #[.int .i64 At, .int .i64 N, .int .i64 1048576, .bool true, .bool false], .int .i64 r] w fun e w' => e = .returned (.tuple #[.int .i64 (movI At N true r), .bool (movB At N 1048576 true r)]) ∧ Fr noB w w') := fun w => bmoved_any At N 1048576 true false r w h1 h2 h3 h4 h5 h6
  generalize movI At N true r = q at *
  generalize movB At N 1048576 true r = bq at *
  rw [← hs] at HF
  have hne : (s != s) = false := by simp
  clear hs h1 h2 h3 h4 h5 h6
  go_enter Tryd.func37, Tryd.ntmps37
  go_wp2_with (first
    | (go_at_call 9; refine (HF.out _ HH.out.2.2.2).mono ?_; rintro e w1 ⟨rfl, hF1⟩; have hX1 := HH.out.1.fr hF1; have b0 := hX1.c0; have b1 := hX1.c1; have b2 := hX1.c2; have b3 := hX1.c3; have b4 := hX1.c4; have HF1 : Hid _ := hF1; clear hF1 hX1)
    | (go_at_call 30; refine (HB _).mono ?_; rintro e w2 ⟨rfl, hF2⟩; have hF3 : Fr noB W0 (w2.alloc (.cells #[.int .i64 At, .int .i64 N, .int .i64 1048576, .bool true, .bool false] 60 (0, 0))) := (HF1.out.trans hF2).alloc _; have hX3 := HH.out.1.fr hF3; have d0 := hX3.c0; have d1 := hX3.c1; have d2 := hX3.c2; have d3 := hX3.c3; have d4 := hX3.c4; have hA3 := HH.out.2.1.fr hF3; have d5 := hA3.c0; have d6 := hA3.c1; have d7 := hA3.c2; have hB3 : BAt (w2.alloc (.cells #[.int .i64 At, .int .i64 N, .int .i64 1048576, .bool true, .bool false] 60 (0, 0))) w2.heap.size At N 1048576 true false := ⟨heap_alloc_new w2 _⟩; have d8 := hB3.c0; have d9 := hB3.c1; have d10 := hB3.c2; have d11 := hB3.c3; have d12 := hB3.c4; have HF3 : Hid _ := hF3; clear hF3 hX3 hA3 hB3 hF2)
    | (go_at_call 51; refine (HM.out _).mono ?_; rintro e w4 ⟨rfl, hF4⟩; have hF5 := HF3.out.trans hF4; have hA4 := HH.out.2.1.fr hF5; have e0 := hA4.c0; have e1 := hA4.c1; have e2 := hA4.c2; have e3 := hA4.f 0; have e4 := hA4.f 1; have e5 := hA4.f 2; have hO4 := HH.out.2.2.1.fr hF5; have e6 := hO4.c0; have e7 := hO4.c1; have e8 := hO4.c2; have e9 := hO4.f 0; have e10 := hO4.f 1; have e11 := hO4.f 2; have HA4 : Hid _ := And.intro hO4 hF5; clear hA4 hF5 hF4 hO4))
  obtain ⟨W, hW⟩ : ∃ W, (((w4.setCell ⟨w.heap.size + 1, 1, none⟩ (.int .i64 q)).setCell ⟨w.heap.size + 1 + 1, 0, none⟩ (.int .i64 s)).setCell ⟨w.heap.size + 1 + 1, 1, none⟩ (.int .i64 q)).setCell ⟨w.heap.size + 1 + 1, 2, none⟩ (.int .i64 c) = W := ⟨_, rfl⟩
  have p : W.heap[w.heap.size + 1 + 1]? = some (.cells #[.int .i64 s, .int .i64 q, .int .i64 c] 38 (0, 0)) := by
    rw [← hW]
    exact setOf 2 _ (setOf 1 _ (setOf 0 _ ((Below.heap_setCell _ _ _ _ (by show w.heap.size + 1 + 1 ≠ w.heap.size + 1; omega)).trans HA4.out.1.o)))
  have p0 := cellOf (o := 0) p rfl
  have p1 := cellOf (o := 1) p rfl
  have p2 := cellOf (o := 2) p rfl
  have hFW : Fr noB w W := by
    rw [← hW]
    have hG : Fr noB w w4 := HH.out.2.2.2.trans HA4.out.2
    exact (((hG.setCell ⟨w.heap.size + 1, 1, none⟩ (Or.inr (Nat.le_succ _)) _).setCell ⟨w.heap.size + 1 + 1, 0, none⟩ (Or.inr (by show w.heap.size ≤ w.heap.size + 1 + 1; omega)) _).setCell ⟨w.heap.size + 1 + 1, 1, none⟩ (Or.inr (by show w.heap.size ≤ w.heap.size + 1 + 1; omega)) _).setCell ⟨w.heap.size + 1 + 1, 2, none⟩ (Or.inr (by show w.heap.size ≤ w.heap.size + 1 + 1; omega)) _
  try rw [hW]
  refine bodyPost_ret ?_ rfl ⟨rfl, hFW⟩
  simp [results, Tryd.results37, go_sem, p0, p1, p2]
set_option maxRecDepth 100000 in
set_option maxHeartbeats 1000000 in
theorem cellMoved_2off (ao : Option Addr) (cap : Nat) (L : List ByteArray) (sh : ByteArray) (At N : Int) (nm : ByteArray) (s r c : Int) (w : World) (h : SsAt w ao L) (hl : L.length ≤ 140737488355328) (hs : ¬ s = (fndN L sh : Int)) :
    Calls Tryd.prog 37 #[.slice ao L.length cap, .agg #[.int .i64 2, .string sh, .int .i64 At, .int .i64 N, .string nm], .agg #[.int .i64 s, .int .i64 r, .int .i64 c]] w fun e w' => e = .returned (.tuple #[.agg #[.int .i64 s, .int .i64 r, .int .i64 c], .bool true]) ∧ Fr noB w w' := by
  have HF : Hid (∀ W, Fr noB w W → Calls Tryd.prog 9 #[.slice ao L.length cap, .string sh] W fun e w' => e = .returned (.tuple #[.int .i64 (fndN L sh : Int), .bool (fndB L sh)]) ∧ Fr noB W w') := fun W hF => find_any ao cap L sh W (h.keep hF) hl
  have HB := bandOf_2 sh At N nm
  obtain ⟨W0, hW0⟩ : ∃ W0, ((w.alloc (.cells #[.int .i64 2, .string sh, .int .i64 At, .int .i64 N, .string nm] 24 (0, 0))).alloc (.cells #[.int .i64 s, .int .i64 r, .int .i64 c] 38 (0, 0))).alloc (.cells #[.int .i64 0, .int .i64 0, .int .i64 0] 38 (0, 0)) = W0 := ⟨_, rfl⟩
  have hX : XAt W0 w.heap.size 2 sh At N nm := by rw [← hW0]; exact ⟨old1 (old1 (heap_alloc_new w _))⟩
  have hA : AAt W0 (w.heap.size + 1) s r c := by rw [← hW0]; exact ⟨old1 (new1 _ _ _ (by simp))⟩
  have hO : AAt W0 (w.heap.size + 1 + 1) 0 0 0 := by rw [← hW0]; exact ⟨new1 _ _ _ (by simp)⟩
  have hF0 : Fr noB w W0 := by rw [← hW0]; exact (((Fr.refl noB w).alloc _).alloc _).alloc _
  have a0 := hX.c0; have a1 := hX.c1; have a2 := hX.c2; have a3 := hX.c3; have a4 := hX.c4
  have HH : Hid _ := And.intro hX (And.intro hA (And.intro hO hF0))
  clear hX hA hO hF0 h hl
  generalize fndB L sh = bs at *
  generalize L.length = l at *
  generalize (fndN L sh : Int) = k at *
  have hne : (s != k) = true := by simpa using hs
  clear hs
  go_enter Tryd.func37, Tryd.ntmps37
  go_wp2_with (first
    | (go_at_call 9; refine (HF.out _ HH.out.2.2.2).mono ?_; rintro e w1 ⟨rfl, hF1⟩; have hX1 := HH.out.1.fr hF1; have b0 := hX1.c0; have b1 := hX1.c1; have b2 := hX1.c2; have b3 := hX1.c3; have b4 := hX1.c4; have HF1 : Hid _ := hF1; clear hF1 hX1)
    | (go_at_call 30; refine (HB _).mono ?_; rintro e w2 ⟨rfl, hF2⟩; have hF3 : Fr noB W0 (w2.alloc (.cells #[.int .i64 At, .int .i64 N, .int .i64 1048576, .bool false, .bool false] 60 (0, 0))) := (HF1.out.trans hF2).alloc _; have hX3 := HH.out.1.fr hF3; have d0 := hX3.c0; have d1 := hX3.c1; have d2 := hX3.c2; have d3 := hX3.c3; have d4 := hX3.c4; have hA3 := HH.out.2.1.fr hF3; have d5 := hA3.c0; have d6 := hA3.c1; have d7 := hA3.c2; have hB3 : BAt (w2.alloc (.cells #[.int .i64 At, .int .i64 N, .int .i64 1048576, .bool false, .bool false] 60 (0, 0))) w2.heap.size At N 1048576 false false := ⟨heap_alloc_new w2 _⟩; have d8 := hB3.c0; have d9 := hB3.c1; have d10 := hB3.c2; have d11 := hB3.c3; have d12 := hB3.c4; have hO3 := HH.out.2.2.1.fr hF3; have d13 := hO3.c0; have d14 := hO3.c1; have d15 := hO3.c2; have d16 := hO3.f 0; have d17 := hO3.f 1; have d18 := hO3.f 2; have HF3 : Hid _ := hF3; clear hO3 hF3 hX3 hA3 hB3 hF2))
  obtain ⟨W, hW⟩ : ∃ W, (((w2.alloc (.cells #[.int .i64 At, .int .i64 N, .int .i64 1048576, .bool false, .bool false] 60 (0, 0))).setCell ⟨w.heap.size + 1 + 1, 0, none⟩ (.int .i64 s)).setCell ⟨w.heap.size + 1 + 1, 1, none⟩ (.int .i64 r)).setCell ⟨w.heap.size + 1 + 1, 2, none⟩ (.int .i64 c) = W := ⟨_, rfl⟩
  have p : W.heap[w.heap.size + 1 + 1]? = some (.cells #[.int .i64 s, .int .i64 r, .int .i64 c] 38 (0, 0)) := by
    rw [← hW]
    exact setOf 2 _ (setOf 1 _ (setOf 0 _ (HH.out.2.2.1.fr HF3.out).o))
  have p0 := cellOf (o := 0) p rfl
  have p1 := cellOf (o := 1) p rfl
  have p2 := cellOf (o := 2) p rfl
  have hFW : Fr noB w W := by
    rw [← hW]
    exact (((HH.out.2.2.2.trans HF3.out).setCell ⟨w.heap.size + 1 + 1, 0, none⟩ (Or.inr (by show w.heap.size ≤ w.heap.size + 1 + 1; omega)) _).setCell ⟨w.heap.size + 1 + 1, 1, none⟩ (Or.inr (by show w.heap.size ≤ w.heap.size + 1 + 1; omega)) _).setCell ⟨w.heap.size + 1 + 1, 2, none⟩ (Or.inr (by show w.heap.size ≤ w.heap.size + 1 + 1; omega)) _
  try rw [hW]
  refine bodyPost_ret ?_ rfl ⟨rfl, hFW⟩
  simp [results, Tryd.results37, go_sem, p0, p1, p2]
set_option maxRecDepth 100000 in
set_option maxHeartbeats 1000000 in
theorem cellMoved_2on (ao : Option Addr) (cap : Nat) (L : List ByteArray) (sh : ByteArray) (At N : Int) (nm : ByteArray) (s r c : Int) (w : World) (h : SsAt w ao L) (hl : L.length ≤ 140737488355328) (hs : s = (fndN L sh : Int)) (h1 : 0 ≤ At) (h2 : At ≤ 1048576) (h3 : 0 ≤ N) (h4 : N ≤ 1048576) (h5 : 0 ≤ r) (h6 : r ≤ 1048576) :
    Calls Tryd.prog 37 #[.slice ao L.length cap, .agg #[.int .i64 2, .string sh, .int .i64 At, .int .i64 N, .string nm], .agg #[.int .i64 s, .int .i64 r, .int .i64 c]] w fun e w' => e = .returned (.tuple #[.agg #[.int .i64 s, .int .i64 (movI At N false r), .int .i64 c], .bool (movB At N 1048576 false r)]) ∧ Fr noB w w' := by
  have HF : Hid (∀ W, Fr noB w W → Calls Tryd.prog 9 #[.slice ao L.length cap, .string sh] W fun e w' => e = .returned (.tuple #[.int .i64 (fndN L sh : Int), .bool (fndB L sh)]) ∧ Fr noB W w') := fun W hF => find_any ao cap L sh W (h.keep hF) hl
  have HB := bandOf_2 sh At N nm
  obtain ⟨W0, hW0⟩ : ∃ W0, ((w.alloc (.cells #[.int .i64 2, .string sh, .int .i64 At, .int .i64 N, .string nm] 24 (0, 0))).alloc (.cells #[.int .i64 s, .int .i64 r, .int .i64 c] 38 (0, 0))).alloc (.cells #[.int .i64 0, .int .i64 0, .int .i64 0] 38 (0, 0)) = W0 := ⟨_, rfl⟩
  have hX : XAt W0 w.heap.size 2 sh At N nm := by rw [← hW0]; exact ⟨old1 (old1 (heap_alloc_new w _))⟩
  have hA : AAt W0 (w.heap.size + 1) s r c := by rw [← hW0]; exact ⟨old1 (new1 _ _ _ (by simp))⟩
  have hO : AAt W0 (w.heap.size + 1 + 1) 0 0 0 := by rw [← hW0]; exact ⟨new1 _ _ _ (by simp)⟩
  have hF0 : Fr noB w W0 := by rw [← hW0]; exact (((Fr.refl noB w).alloc _).alloc _).alloc _
  have a0 := hX.c0; have a1 := hX.c1; have a2 := hX.c2; have a3 := hX.c3; have a4 := hX.c4
  have HH : Hid _ := And.intro hX (And.intro hA (And.intro hO hF0))
  clear hX hA hO hF0 h hl
  generalize fndB L sh = bs at *
  generalize L.length = l at *
  have HM : Hid (∀ w, Calls Tryd.prog 51 #[.agg #[.int .i64 At, .int .i64 N, .int .i64 1048576, .bool false, .bool false], .int .i64 r] w fun e w' => e = .returned (.tuple #[.int .i64 (movI At N false r), .bool (movB At N 1048576 false r)]) ∧ Fr noB w w') := fun w => bmoved_any At N 1048576 false false r w h1 h2 h3 h4 h5 h6
  generalize movI At N false r = q at *
  generalize movB At N 1048576 false r = bq at *
  rw [← hs] at HF
  have hne : (s != s) = false := by simp
  clear hs h1 h2 h3 h4 h5 h6
  go_enter Tryd.func37, Tryd.ntmps37
  go_wp2_with (first
    | (go_at_call 9; refine (HF.out _ HH.out.2.2.2).mono ?_; rintro e w1 ⟨rfl, hF1⟩; have hX1 := HH.out.1.fr hF1; have b0 := hX1.c0; have b1 := hX1.c1; have b2 := hX1.c2; have b3 := hX1.c3; have b4 := hX1.c4; have HF1 : Hid _ := hF1; clear hF1 hX1)
    | (go_at_call 30; refine (HB _).mono ?_; rintro e w2 ⟨rfl, hF2⟩; have hF3 : Fr noB W0 (w2.alloc (.cells #[.int .i64 At, .int .i64 N, .int .i64 1048576, .bool false, .bool false] 60 (0, 0))) := (HF1.out.trans hF2).alloc _; have hX3 := HH.out.1.fr hF3; have d0 := hX3.c0; have d1 := hX3.c1; have d2 := hX3.c2; have d3 := hX3.c3; have d4 := hX3.c4; have hA3 := HH.out.2.1.fr hF3; have d5 := hA3.c0; have d6 := hA3.c1; have d7 := hA3.c2; have hB3 : BAt (w2.alloc (.cells #[.int .i64 At, .int .i64 N, .int .i64 1048576, .bool false, .bool false] 60 (0, 0))) w2.heap.size At N 1048576 false false := ⟨heap_alloc_new w2 _⟩; have d8 := hB3.c0; have d9 := hB3.c1; have d10 := hB3.c2; have d11 := hB3.c3; have d12 := hB3.c4; have HF3 : Hid _ := hF3; clear hF3 hX3 hA3 hB3 hF2)
    | (go_at_call 51; refine (HM.out _).mono ?_; rintro e w4 ⟨rfl, hF4⟩; have hF5 := HF3.out.trans hF4; have hA4 := HH.out.2.1.fr hF5; have e0 := hA4.c0; have e1 := hA4.c1; have e2 := hA4.c2; have e3 := hA4.f 0; have e4 := hA4.f 1; have e5 := hA4.f 2; have hO4 := HH.out.2.2.1.fr hF5; have e6 := hO4.c0; have e7 := hO4.c1; have e8 := hO4.c2; have e9 := hO4.f 0; have e10 := hO4.f 1; have e11 := hO4.f 2; have HA4 : Hid _ := And.intro hO4 hF5; clear hA4 hF5 hF4 hO4))
  obtain ⟨W, hW⟩ : ∃ W, (((w4.setCell ⟨w.heap.size + 1, 1, none⟩ (.int .i64 q)).setCell ⟨w.heap.size + 1 + 1, 0, none⟩ (.int .i64 s)).setCell ⟨w.heap.size + 1 + 1, 1, none⟩ (.int .i64 q)).setCell ⟨w.heap.size + 1 + 1, 2, none⟩ (.int .i64 c) = W := ⟨_, rfl⟩
  have p : W.heap[w.heap.size + 1 + 1]? = some (.cells #[.int .i64 s, .int .i64 q, .int .i64 c] 38 (0, 0)) := by
    rw [← hW]
    exact setOf 2 _ (setOf 1 _ (setOf 0 _ ((Below.heap_setCell _ _ _ _ (by show w.heap.size + 1 + 1 ≠ w.heap.size + 1; omega)).trans HA4.out.1.o)))
  have p0 := cellOf (o := 0) p rfl
  have p1 := cellOf (o := 1) p rfl
  have p2 := cellOf (o := 2) p rfl
  have hFW : Fr noB w W := by
    rw [← hW]
    have hG : Fr noB w w4 := HH.out.2.2.2.trans HA4.out.2
    exact (((hG.setCell ⟨w.heap.size + 1, 1, none⟩ (Or.inr (Nat.le_succ _)) _).setCell ⟨w.heap.size + 1 + 1, 0, none⟩ (Or.inr (by show w.heap.size ≤ w.heap.size + 1 + 1; omega)) _).setCell ⟨w.heap.size + 1 + 1, 1, none⟩ (Or.inr (by show w.heap.size ≤ w.heap.size + 1 + 1; omega)) _).setCell ⟨w.heap.size + 1 + 1, 2, none⟩ (Or.inr (by show w.heap.size ≤ w.heap.size + 1 + 1; omega)) _
  try rw [hW]
  refine bodyPost_ret ?_ rfl ⟨rfl, hFW⟩
  simp [results, Tryd.results37, go_sem, p0, p1, p2]
set_option maxRecDepth 100000 in
set_option maxHeartbeats 1000000 in
theorem cellMoved_3off (ao : Option Addr) (cap : Nat) (L : List ByteArray) (sh : ByteArray) (At N : Int) (nm : ByteArray) (s r c : Int) (w : World) (h : SsAt w ao L) (hl : L.length ≤ 140737488355328) (hs : ¬ s = (fndN L sh : Int)) :
    Calls Tryd.prog 37 #[.slice ao L.length cap, .agg #[.int .i64 3, .string sh, .int .i64 At, .int .i64 N, .string nm], .agg #[.int .i64 s, .int .i64 r, .int .i64 c]] w fun e w' => e = .returned (.tuple #[.agg #[.int .i64 s, .int .i64 r, .int .i64 c], .bool true]) ∧ Fr noB w w' := by
  have HF : Hid (∀ W, Fr noB w W → Calls Tryd.prog 9 #[.slice ao L.length cap, .string sh] W fun e w' => e = .returned (.tuple #[.int .i64 (fndN L sh : Int), .bool (fndB L sh)]) ∧ Fr noB W w') := fun W hF => find_any ao cap L sh W (h.keep hF) hl
  have HB := bandOf_3 sh At N nm
  obtain ⟨W0, hW0⟩ : ∃ W0, ((w.alloc (.cells #[.int .i64 3, .string sh, .int .i64 At, .int .i64 N, .string nm] 24 (0, 0))).alloc (.cells #[.int .i64 s, .int .i64 r, .int .i64 c] 38 (0, 0))).alloc (.cells #[.int .i64 0, .int .i64 0, .int .i64 0] 38 (0, 0)) = W0 := ⟨_, rfl⟩
  have hX : XAt W0 w.heap.size 3 sh At N nm := by rw [← hW0]; exact ⟨old1 (old1 (heap_alloc_new w _))⟩
  have hA : AAt W0 (w.heap.size + 1) s r c := by rw [← hW0]; exact ⟨old1 (new1 _ _ _ (by simp))⟩
  have hO : AAt W0 (w.heap.size + 1 + 1) 0 0 0 := by rw [← hW0]; exact ⟨new1 _ _ _ (by simp)⟩
  have hF0 : Fr noB w W0 := by rw [← hW0]; exact (((Fr.refl noB w).alloc _).alloc _).alloc _
  have a0 := hX.c0; have a1 := hX.c1; have a2 := hX.c2; have a3 := hX.c3; have a4 := hX.c4
  have HH : Hid _ := And.intro hX (And.intro hA (And.intro hO hF0))
  clear hX hA hO hF0 h hl
  generalize fndB L sh = bs at *
  generalize L.length = l at *
  generalize (fndN L sh : Int) = k at *
  have hne : (s != k) = true := by simpa using hs
  clear hs
  go_enter Tryd.func37, Tryd.ntmps37
  go_wp2_with (first
    | (go_at_call 9; refine (HF.out _ HH.out.2.2.2).mono ?_; rintro e w1 ⟨rfl, hF1⟩; have hX1 := HH.out.1.fr hF1; have b0 := hX1.c0; have b1 := hX1.c1; have b2 := hX1.c2; have b3 := hX1.c3; have b4 := hX1.c4; have HF1 : Hid _ := hF1; clear hF1 hX1)
    | (go_at_call 30; refine (HB _).mono ?_; rintro e w2 ⟨rfl, hF2⟩; have hF3 : Fr noB W0 (w2.alloc (.cells #[.int .i64 At, .int .i64 N, .int .i64 1024, .bool true, .bool true] 60 (0, 0))) := (HF1.out.trans hF2).alloc _; have hX3 := HH.out.1.fr hF3; have d0 := hX3.c0; have d1 := hX3.c1; have d2 := hX3.c2; have d3 := hX3.c3; have d4 := hX3.c4; have hA3 := HH.out.2.1.fr hF3; have d5 := hA3.c0; have d6 := hA3.c1; have d7 := hA3.c2; have hB3 : BAt (w2.alloc (.cells #[.int .i64 At, .int .i64 N, .int .i64 1024, .bool true, .bool true] 60 (0, 0))) w2.heap.size At N 1024 true true := ⟨heap_alloc_new w2 _⟩; have d8 := hB3.c0; have d9 := hB3.c1; have d10 := hB3.c2; have d11 := hB3.c3; have d12 := hB3.c4; have hO3 := HH.out.2.2.1.fr hF3; have d13 := hO3.c0; have d14 := hO3.c1; have d15 := hO3.c2; have d16 := hO3.f 0; have d17 := hO3.f 1; have d18 := hO3.f 2; have HF3 : Hid _ := hF3; clear hO3 hF3 hX3 hA3 hB3 hF2))
  obtain ⟨W, hW⟩ : ∃ W, (((w2.alloc (.cells #[.int .i64 At, .int .i64 N, .int .i64 1024, .bool true, .bool true] 60 (0, 0))).setCell ⟨w.heap.size + 1 + 1, 0, none⟩ (.int .i64 s)).setCell ⟨w.heap.size + 1 + 1, 1, none⟩ (.int .i64 r)).setCell ⟨w.heap.size + 1 + 1, 2, none⟩ (.int .i64 c) = W := ⟨_, rfl⟩
  have p : W.heap[w.heap.size + 1 + 1]? = some (.cells #[.int .i64 s, .int .i64 r, .int .i64 c] 38 (0, 0)) := by
    rw [← hW]
    exact setOf 2 _ (setOf 1 _ (setOf 0 _ (HH.out.2.2.1.fr HF3.out).o))
  have p0 := cellOf (o := 0) p rfl
  have p1 := cellOf (o := 1) p rfl
  have p2 := cellOf (o := 2) p rfl
  have hFW : Fr noB w W := by
    rw [← hW]
    exact (((HH.out.2.2.2.trans HF3.out).setCell ⟨w.heap.size + 1 + 1, 0, none⟩ (Or.inr (by show w.heap.size ≤ w.heap.size + 1 + 1; omega)) _).setCell ⟨w.heap.size + 1 + 1, 1, none⟩ (Or.inr (by show w.heap.size ≤ w.heap.size + 1 + 1; omega)) _).setCell ⟨w.heap.size + 1 + 1, 2, none⟩ (Or.inr (by show w.heap.size ≤ w.heap.size + 1 + 1; omega)) _
  try rw [hW]
  refine bodyPost_ret ?_ rfl ⟨rfl, hFW⟩
  simp [results, Tryd.results37, go_sem, p0, p1, p2]
set_option maxRecDepth 100000 in
set_option maxHeartbeats 1000000 in
theorem cellMoved_3on (ao : Option Addr) (cap : Nat) (L : List ByteArray) (sh : ByteArray) (At N : Int) (nm : ByteArray) (s r c : Int) (w : World) (h : SsAt w ao L) (hl : L.length ≤ 140737488355328) (hs : s = (fndN L sh : Int)) (h1 : 0 ≤ At) (h2 : At ≤ 1048576) (h3 : 0 ≤ N) (h4 : N ≤ 1048576) (h5 : 0 ≤ c) (h6 : c ≤ 1048576) :
    Calls Tryd.prog 37 #[.slice ao L.length cap, .agg #[.int .i64 3, .string sh, .int .i64 At, .int .i64 N, .string nm], .agg #[.int .i64 s, .int .i64 r, .int .i64 c]] w fun e w' => e = .returned (.tuple #[.agg #[.int .i64 s, .int .i64 r, .int .i64 (movI At N true c)], .bool (movB At N 1024 true c)]) ∧ Fr noB w w' := by
  have HF : Hid (∀ W, Fr noB w W → Calls Tryd.prog 9 #[.slice ao L.length cap, .string sh] W fun e w' => e = .returned (.tuple #[.int .i64 (fndN L sh : Int), .bool (fndB L sh)]) ∧ Fr noB W w') := fun W hF => find_any ao cap L sh W (h.keep hF) hl
  have HB := bandOf_3 sh At N nm
  obtain ⟨W0, hW0⟩ : ∃ W0, ((w.alloc (.cells #[.int .i64 3, .string sh, .int .i64 At, .int .i64 N, .string nm] 24 (0, 0))).alloc (.cells #[.int .i64 s, .int .i64 r, .int .i64 c] 38 (0, 0))).alloc (.cells #[.int .i64 0, .int .i64 0, .int .i64 0] 38 (0, 0)) = W0 := ⟨_, rfl⟩
  have hX : XAt W0 w.heap.size 3 sh At N nm := by rw [← hW0]; exact ⟨old1 (old1 (heap_alloc_new w _))⟩
  have hA : AAt W0 (w.heap.size + 1) s r c := by rw [← hW0]; exact ⟨old1 (new1 _ _ _ (by simp))⟩
  have hO : AAt W0 (w.heap.size + 1 + 1) 0 0 0 := by rw [← hW0]; exact ⟨new1 _ _ _ (by simp)⟩
  have hF0 : Fr noB w W0 := by rw [← hW0]; exact (((Fr.refl noB w).alloc _).alloc _).alloc _
  have a0 := hX.c0; have a1 := hX.c1; have a2 := hX.c2; have a3 := hX.c3; have a4 := hX.c4
  have HH : Hid _ := And.intro hX (And.intro hA (And.intro hO hF0))
  clear hX hA hO hF0 h hl
  generalize fndB L sh = bs at *
  generalize L.length = l at *
  have HM : Hid (∀ w, Calls Tryd.prog 51 #[.agg #[.int .i64 At, .int .i64 N, .int .i64 1024, .bool true, .bool true], .int .i64 c] w fun e w' => e = .returned (.tuple #[.int .i64 (movI At N true c), .bool (movB At N 1024 true c)]) ∧ Fr noB w w') := fun w => bmoved_any At N 1024 true true c w h1 h2 h3 h4 h5 h6
  generalize movI At N true c = q at *
  generalize movB At N 1024 true c = bq at *
  rw [← hs] at HF
  have hne : (s != s) = false := by simp
  clear hs h1 h2 h3 h4 h5 h6
  go_enter Tryd.func37, Tryd.ntmps37
  go_wp2_with (first
    | (go_at_call 9; refine (HF.out _ HH.out.2.2.2).mono ?_; rintro e w1 ⟨rfl, hF1⟩; have hX1 := HH.out.1.fr hF1; have b0 := hX1.c0; have b1 := hX1.c1; have b2 := hX1.c2; have b3 := hX1.c3; have b4 := hX1.c4; have HF1 : Hid _ := hF1; clear hF1 hX1)
    | (go_at_call 30; refine (HB _).mono ?_; rintro e w2 ⟨rfl, hF2⟩; have hF3 : Fr noB W0 (w2.alloc (.cells #[.int .i64 At, .int .i64 N, .int .i64 1024, .bool true, .bool true] 60 (0, 0))) := (HF1.out.trans hF2).alloc _; have hX3 := HH.out.1.fr hF3; have d0 := hX3.c0; have d1 := hX3.c1; have d2 := hX3.c2; have d3 := hX3.c3; have d4 := hX3.c4; have hA3 := HH.out.2.1.fr hF3; have d5 := hA3.c0; have d6 := hA3.c1; have d7 := hA3.c2; have hB3 : BAt (w2.alloc (.cells #[.int .i64 At, .int .i64 N, .int .i64 1024, .bool true, .bool true] 60 (0, 0))) w2.heap.size At N 1024 true true := ⟨heap_alloc_new w2 _⟩; have d8 := hB3.c0; have d9 := hB3.c1; have d10 := hB3.c2; have d11 := hB3.c3; have d12 := hB3.c4; have HF3 : Hid _ := hF3; clear hF3 hX3 hA3 hB3 hF2)
    | (go_at_call 51; refine (HM.out _).mono ?_; rintro e w4 ⟨rfl, hF4⟩; have hF5 := HF3.out.trans hF4; have hA4 := HH.out.2.1.fr hF5; have e0 := hA4.c0; have e1 := hA4.c1; have e2 := hA4.c2; have e3 := hA4.f 0; have e4 := hA4.f 1; have e5 := hA4.f 2; have hO4 := HH.out.2.2.1.fr hF5; have e6 := hO4.c0; have e7 := hO4.c1; have e8 := hO4.c2; have e9 := hO4.f 0; have e10 := hO4.f 1; have e11 := hO4.f 2; have HA4 : Hid _ := And.intro hO4 hF5; clear hA4 hF5 hF4 hO4))
  obtain ⟨W, hW⟩ : ∃ W, (((w4.setCell ⟨w.heap.size + 1, 2, none⟩ (.int .i64 q)).setCell ⟨w.heap.size + 1 + 1, 0, none⟩ (.int .i64 s)).setCell ⟨w.heap.size + 1 + 1, 1, none⟩ (.int .i64 r)).setCell ⟨w.heap.size + 1 + 1, 2, none⟩ (.int .i64 q) = W := ⟨_, rfl⟩
  have p : W.heap[w.heap.size + 1 + 1]? = some (.cells #[.int .i64 s, .int .i64 r, .int .i64 q] 38 (0, 0)) := by
    rw [← hW]
    exact setOf 2 _ (setOf 1 _ (setOf 0 _ ((Below.heap_setCell _ _ _ _ (by show w.heap.size + 1 + 1 ≠ w.heap.size + 1; omega)).trans HA4.out.1.o)))
  have p0 := cellOf (o := 0) p rfl
  have p1 := cellOf (o := 1) p rfl
  have p2 := cellOf (o := 2) p rfl
  have hFW : Fr noB w W := by
    rw [← hW]
    have hG : Fr noB w w4 := HH.out.2.2.2.trans HA4.out.2
    exact (((hG.setCell ⟨w.heap.size + 1, 2, none⟩ (Or.inr (Nat.le_succ _)) _).setCell ⟨w.heap.size + 1 + 1, 0, none⟩ (Or.inr (by show w.heap.size ≤ w.heap.size + 1 + 1; omega)) _).setCell ⟨w.heap.size + 1 + 1, 1, none⟩ (Or.inr (by show w.heap.size ≤ w.heap.size + 1 + 1; omega)) _).setCell ⟨w.heap.size + 1 + 1, 2, none⟩ (Or.inr (by show w.heap.size ≤ w.heap.size + 1 + 1; omega)) _
  try rw [hW]
  refine bodyPost_ret ?_ rfl ⟨rfl, hFW⟩
  simp [results, Tryd.results37, go_sem, p0, p1, p2]
set_option maxRecDepth 100000 in
set_option maxHeartbeats 1000000 in
theorem cellMoved_4off (ao : Option Addr) (cap : Nat) (L : List ByteArray) (sh : ByteArray) (At N : Int) (nm : ByteArray) (s r c : Int) (w : World) (h : SsAt w ao L) (hl : L.length ≤ 140737488355328) (hs : ¬ s = (fndN L sh : Int)) :
    Calls Tryd.prog 37 #[.slice ao L.length cap, .agg #[.int .i64 4, .string sh, .int .i64 At, .int .i64 N, .string nm], .agg #[.int .i64 s, .int .i64 r, .int .i64 c]] w fun e w' => e = .returned (.tuple #[.agg #[.int .i64 s, .int .i64 r, .int .i64 c], .bool true]) ∧ Fr noB w w' := by
  have HF : Hid (∀ W, Fr noB w W → Calls Tryd.prog 9 #[.slice ao L.length cap, .string sh] W fun e w' => e = .returned (.tuple #[.int .i64 (fndN L sh : Int), .bool (fndB L sh)]) ∧ Fr noB W w') := fun W hF => find_any ao cap L sh W (h.keep hF) hl
  have HB := bandOf_4 sh At N nm
  obtain ⟨W0, hW0⟩ : ∃ W0, ((w.alloc (.cells #[.int .i64 4, .string sh, .int .i64 At, .int .i64 N, .string nm] 24 (0, 0))).alloc (.cells #[.int .i64 s, .int .i64 r, .int .i64 c] 38 (0, 0))).alloc (.cells #[.int .i64 0, .int .i64 0, .int .i64 0] 38 (0, 0)) = W0 := ⟨_, rfl⟩
  have hX : XAt W0 w.heap.size 4 sh At N nm := by rw [← hW0]; exact ⟨old1 (old1 (heap_alloc_new w _))⟩
  have hA : AAt W0 (w.heap.size + 1) s r c := by rw [← hW0]; exact ⟨old1 (new1 _ _ _ (by simp))⟩
  have hO : AAt W0 (w.heap.size + 1 + 1) 0 0 0 := by rw [← hW0]; exact ⟨new1 _ _ _ (by simp)⟩
  have hF0 : Fr noB w W0 := by rw [← hW0]; exact (((Fr.refl noB w).alloc _).alloc _).alloc _
  have a0 := hX.c0; have a1 := hX.c1; have a2 := hX.c2; have a3 := hX.c3; have a4 := hX.c4
  have HH : Hid _ := And.intro hX (And.intro hA (And.intro hO hF0))
  clear hX hA hO hF0 h hl
  generalize fndB L sh = bs at *
  generalize L.length = l at *
  generalize (fndN L sh : Int) = k at *
  have hne : (s != k) = true := by simpa using hs
  clear hs
  go_enter Tryd.func37, Tryd.ntmps37
  go_wp2_with (first
    | (go_at_call 9; refine (HF.out _ HH.out.2.2.2).mono ?_; rintro e w1 ⟨rfl, hF1⟩; have hX1 := HH.out.1.fr hF1; have b0 := hX1.c0; have b1 := hX1.c1; have b2 := hX1.c2; have b3 := hX1.c3; have b4 := hX1.c4; have HF1 : Hid _ := hF1; clear hF1 hX1)
    | (go_at_call 30; refine (HB _).mono ?_; rintro e w2 ⟨rfl, hF2⟩; have hF3 : Fr noB W0 (w2.alloc (.cells #[.int .i64 At, .int .i64 N, .int .i64 1024, .bool false, .bool true] 60 (0, 0))) := (HF1.out.trans hF2).alloc _; have hX3 := HH.out.1.fr hF3; have d0 := hX3.c0; have d1 := hX3.c1; have d2 := hX3.c2; have d3 := hX3.c3; have d4 := hX3.c4; have hA3 := HH.out.2.1.fr hF3; have d5 := hA3.c0; have d6 := hA3.c1; have d7 := hA3.c2; have hB3 : BAt (w2.alloc (.cells #[.int .i64 At, .int .i64 N, .int .i64 1024, .bool false, .bool true] 60 (0, 0))) w2.heap.size At N 1024 false true := ⟨heap_alloc_new w2 _⟩; have d8 := hB3.c0; have d9 := hB3.c1; have d10 := hB3.c2; have d11 := hB3.c3; have d12 := hB3.c4; have hO3 := HH.out.2.2.1.fr hF3; have d13 := hO3.c0; have d14 := hO3.c1; have d15 := hO3.c2; have d16 := hO3.f 0; have d17 := hO3.f 1; have d18 := hO3.f 2; have HF3 : Hid _ := hF3; clear hO3 hF3 hX3 hA3 hB3 hF2))
  obtain ⟨W, hW⟩ : ∃ W, (((w2.alloc (.cells #[.int .i64 At, .int .i64 N, .int .i64 1024, .bool false, .bool true] 60 (0, 0))).setCell ⟨w.heap.size + 1 + 1, 0, none⟩ (.int .i64 s)).setCell ⟨w.heap.size + 1 + 1, 1, none⟩ (.int .i64 r)).setCell ⟨w.heap.size + 1 + 1, 2, none⟩ (.int .i64 c) = W := ⟨_, rfl⟩
  have p : W.heap[w.heap.size + 1 + 1]? = some (.cells #[.int .i64 s, .int .i64 r, .int .i64 c] 38 (0, 0)) := by
    rw [← hW]
    exact setOf 2 _ (setOf 1 _ (setOf 0 _ (HH.out.2.2.1.fr HF3.out).o))
  have p0 := cellOf (o := 0) p rfl
  have p1 := cellOf (o := 1) p rfl
  have p2 := cellOf (o := 2) p rfl
  have hFW : Fr noB w W := by
    rw [← hW]
    exact (((HH.out.2.2.2.trans HF3.out).setCell ⟨w.heap.size + 1 + 1, 0, none⟩ (Or.inr (by show w.heap.size ≤ w.heap.size + 1 + 1; omega)) _).setCell ⟨w.heap.size + 1 + 1, 1, none⟩ (Or.inr (by show w.heap.size ≤ w.heap.size + 1 + 1; omega)) _).setCell ⟨w.heap.size + 1 + 1, 2, none⟩ (Or.inr (by show w.heap.size ≤ w.heap.size + 1 + 1; omega)) _
  try rw [hW]
  refine bodyPost_ret ?_ rfl ⟨rfl, hFW⟩
  simp [results, Tryd.results37, go_sem, p0, p1, p2]
set_option maxRecDepth 100000 in
set_option maxHeartbeats 1000000 in
theorem cellMoved_4on (ao : Option Addr) (cap : Nat) (L : List ByteArray) (sh : ByteArray) (At N : Int) (nm : ByteArray) (s r c : Int) (w : World) (h : SsAt w ao L) (hl : L.length ≤ 140737488355328) (hs : s = (fndN L sh : Int)) (h1 : 0 ≤ At) (h2 : At ≤ 1048576) (h3 : 0 ≤ N) (h4 : N ≤ 1048576) (h5 : 0 ≤ c) (h6 : c ≤ 1048576) :
    Calls Tryd.prog 37 #[.slice ao L.length cap, .agg #[.int .i64 4, .string sh, .int .i64 At, .int .i64 N, .string nm], .agg #[.int .i64 s, .int .i64 r, .int .i64 c]] w fun e w' => e = .returned (.tuple #[.agg #[.int .i64 s, .int .i64 r, .int .i64 (movI At N false c)], .bool (movB At N 1024 false c)]) ∧ Fr noB w w' := by
  have HF : Hid (∀ W, Fr noB w W → Calls Tryd.prog 9 #[.slice ao L.length cap, .string sh] W fun e w' => e = .returned (.tuple #[.int .i64 (fndN L sh : Int), .bool (fndB L sh)]) ∧ Fr noB W w') := fun W hF => find_any ao cap L sh W (h.keep hF) hl
  have HB := bandOf_4 sh At N nm
  obtain ⟨W0, hW0⟩ : ∃ W0, ((w.alloc (.cells #[.int .i64 4, .string sh, .int .i64 At, .int .i64 N, .string nm] 24 (0, 0))).alloc (.cells #[.int .i64 s, .int .i64 r, .int .i64 c] 38 (0, 0))).alloc (.cells #[.int .i64 0, .int .i64 0, .int .i64 0] 38 (0, 0)) = W0 := ⟨_, rfl⟩
  have hX : XAt W0 w.heap.size 4 sh At N nm := by rw [← hW0]; exact ⟨old1 (old1 (heap_alloc_new w _))⟩
  have hA : AAt W0 (w.heap.size + 1) s r c := by rw [← hW0]; exact ⟨old1 (new1 _ _ _ (by simp))⟩
  have hO : AAt W0 (w.heap.size + 1 + 1) 0 0 0 := by rw [← hW0]; exact ⟨new1 _ _ _ (by simp)⟩
  have hF0 : Fr noB w W0 := by rw [← hW0]; exact (((Fr.refl noB w).alloc _).alloc _).alloc _
  have a0 := hX.c0; have a1 := hX.c1; have a2 := hX.c2; have a3 := hX.c3; have a4 := hX.c4
  have HH : Hid _ := And.intro hX (And.intro hA (And.intro hO hF0))
  clear hX hA hO hF0 h hl
  generalize fndB L sh = bs at *
  generalize L.length = l at *
  have HM : Hid (∀ w, Calls Tryd.prog 51 #[.agg #[.int .i64 At, .int .i64 N, .int .i64 1024, .bool false, .bool true], .int .i64 c] w fun e w' => e = .returned (.tuple #[.int .i64 (movI At N false c), .bool (movB At N 1024 false c)]) ∧ Fr noB w w') := fun w => bmoved_any At N 1024 false true c w h1 h2 h3 h4 h5 h6
  generalize movI At N false c = q at *
  generalize movB At N 1024 false c = bq at *
  rw [← hs] at HF
  have hne : (s != s) = false := by simp
  clear hs h1 h2 h3 h4 h5 h6
  go_enter Tryd.func37, Tryd.ntmps37
  go_wp2_with (first
    | (go_at_call 9; refine (HF.out _ HH.out.2.2.2).mono ?_; rintro e w1 ⟨rfl, hF1⟩; have hX1 := HH.out.1.fr hF1; have b0 := hX1.c0; have b1 := hX1.c1; have b2 := hX1.c2; have b3 := hX1.c3; have b4 := hX1.c4; have HF1 : Hid _ := hF1; clear hF1 hX1)
    | (go_at_call 30; refine (HB _).mono ?_; rintro e w2 ⟨rfl, hF2⟩; have hF3 : Fr noB W0 (w2.alloc (.cells #[.int .i64 At, .int .i64 N, .int .i64 1024, .bool false, .bool true] 60 (0, 0))) := (HF1.out.trans hF2).alloc _; have hX3 := HH.out.1.fr hF3; have d0 := hX3.c0; have d1 := hX3.c1; have d2 := hX3.c2; have d3 := hX3.c3; have d4 := hX3.c4; have hA3 := HH.out.2.1.fr hF3; have d5 := hA3.c0; have d6 := hA3.c1; have d7 := hA3.c2; have hB3 : BAt (w2.alloc (.cells #[.int .i64 At, .int .i64 N, .int .i64 1024, .bool false, .bool true] 60 (0, 0))) w2.heap.size At N 1024 false true := ⟨heap_alloc_new w2 _⟩; have d8 := hB3.c0; have d9 := hB3.c1; have d10 := hB3.c2; have d11 := hB3.c3; have d12 := hB3.c4; have HF3 : Hid _ := hF3; clear hF3 hX3 hA3 hB3 hF2)
    | (go_at_call 51; refine (HM.out _).mono ?_; rintro e w4 ⟨rfl, hF4⟩; have hF5 := HF3.out.trans hF4; have hA4 := HH.out.2.1.fr hF5; have e0 := hA4.c0; have e1 := hA4.c1; have e2 := hA4.c2; have e3 := hA4.f 0; have e4 := hA4.f 1; have e5 := hA4.f 2; have hO4 := HH.out.2.2.1.fr hF5; have e6 := hO4.c0; have e7 := hO4.c1; have e8 := hO4.c2; have e9 := hO4.f 0; have e10 := hO4.f 1; have e11 := hO4.f 2; have HA4 : Hid _ := And.intro hO4 hF5; clear hA4 hF5 hF4 hO4))
  obtain ⟨W, hW⟩ : ∃ W, (((w4.setCell ⟨w.heap.size + 1, 2, none⟩ (.int .i64 q)).setCell ⟨w.heap.size + 1 + 1, 0, none⟩ (.int .i64 s)).setCell ⟨w.heap.size + 1 + 1, 1, none⟩ (.int .i64 r)).setCell ⟨w.heap.size + 1 + 1, 2, none⟩ (.int .i64 q) = W := ⟨_, rfl⟩
  have p : W.heap[w.heap.size + 1 + 1]? = some (.cells #[.int .i64 s, .int .i64 r, .int .i64 q] 38 (0, 0)) := by
    rw [← hW]
    exact setOf 2 _ (setOf 1 _ (setOf 0 _ ((Below.heap_setCell _ _ _ _ (by show w.heap.size + 1 + 1 ≠ w.heap.size + 1; omega)).trans HA4.out.1.o)))
  have p0 := cellOf (o := 0) p rfl
  have p1 := cellOf (o := 1) p rfl
  have p2 := cellOf (o := 2) p rfl
  have hFW : Fr noB w W := by
    rw [← hW]
    have hG : Fr noB w w4 := HH.out.2.2.2.trans HA4.out.2
    exact (((hG.setCell ⟨w.heap.size + 1, 2, none⟩ (Or.inr (Nat.le_succ _)) _).setCell ⟨w.heap.size + 1 + 1, 0, none⟩ (Or.inr (by show w.heap.size ≤ w.heap.size + 1 + 1; omega)) _).setCell ⟨w.heap.size + 1 + 1, 1, none⟩ (Or.inr (by show w.heap.size ≤ w.heap.size + 1 + 1; omega)) _).setCell ⟨w.heap.size + 1 + 1, 2, none⟩ (Or.inr (by show w.heap.size ≤ w.heap.size + 1 + 1; omega)) _
  try rw [hW]
  refine bodyPost_ret ?_ rfl ⟨rfl, hFW⟩
  simp [results, Tryd.results37, go_sem, p0, p1, p2]
end Go.Proofs.YthokhnbecgkpbaaDoor
