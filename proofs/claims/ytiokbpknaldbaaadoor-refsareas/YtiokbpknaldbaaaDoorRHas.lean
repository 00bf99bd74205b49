/- Has and Size: the program's contracts. -/
import Derived.Test.YtiokbpknaldbaaaDoorREnd
namespace Go.Proofs.YtiokbpknaldbaaaDoor
open Go.RowKit Go.Shelf

/-- Does a cell lie in a reference? -/
def hasF (ar : Bool) (r1 c1 r2 c2 r c : Int) : Bool := (decide (loI ar r1 r2 ≤ r) && decide (loI ar c1 c2 ≤ c)) && (decide (r ≤ hiI ar r1 r2) && decide (c ≤ hiI ar c1 c2))
set_option maxRecDepth 100000 in
set_option maxHeartbeats 2000000 in
theorem has_any (t u : ByteArray) (fx ar : Bool) (r1 c1 : Int) (x1 y1 : Bool) (r2 c2 : Int) (x2 y2 : Bool) (r c : Int) (w : World) :
    Calls Tryd.prog 14 #[(.agg #[.string t, .string u, .bool fx, .bool ar, .int .i64 r1, .int .i64 c1, .bool x1, .bool y1, .int .i64 r2, .int .i64 c2, .bool x2, .bool y2]), .agg #[.int .i64 r, .int .i64 c]] w fun e w' => e = .returned (.bool (hasF ar r1 c1 r2 c2 r c)) ∧ Fr noB w w' := by
  have HE := ends_any t u fx ar r1 c1 x1 y1 r2 c2 x2 y2
  have hC0 : CAt ((w.alloc (.cells #[.string t, .string u, .bool fx, .bool ar, .int .i64 r1, .int .i64 c1, .bool x1, .bool y1, .int .i64 r2, .int .i64 c2, .bool x2, .bool y2] 25 (0, 0))).alloc (.cells #[.int .i64 r, .int .i64 c] 32 (0, 0))) (w.heap.size + 1) r c := ⟨alloc_last _ _ _ (by simp)⟩
  have hF0 : Fr noB w ((w.alloc (.cells #[.string t, .string u, .bool fx, .bool ar, .int .i64 r1, .int .i64 c1, .bool x1, .bool y1, .int .i64 r2, .int .i64 c2, .bool x2, .bool y2] 25 (0, 0))).alloc (.cells #[.int .i64 r, .int .i64 c] 32 (0, 0))) := ((Fr.refl noB w).alloc _).alloc _
  have HH : Hid _ := And.intro hC0 hF0
  clear hC0 hF0
  unfold hasF
  generalize loI ar r1 r2 = lr at *
  generalize loI ar c1 c2 = lc at *
  generalize hiI ar r1 r2 = hr at *
  generalize hiI ar c1 c2 = hc at *
  have HK : Hid (∀ w1 w2 : World, CAt w1 (w.heap.size + 1) r c → Fr noB ((w1.alloc (.cells #[.int .i64 lr, .int .i64 lc] 32 (0, 0))).alloc (.cells #[.int .i64 hr, .int .i64 hc] 32 (0, 0))) w2 → CAt w2 (w1.heap.size + 1) hr hc ∧ CAt w2 (w.heap.size + 1) r c ∧ Fr noB w1 w2) := fun w1 w2 hC hF =>
    ⟨(show CAt ((w1.alloc (.cells #[.int .i64 lr, .int .i64 lc] 32 (0, 0))).alloc (.cells #[.int .i64 hr, .int .i64 hc] 32 (0, 0))) (w1.heap.size + 1) hr hc from ⟨alloc_last _ _ _ (by simp)⟩).fr hF id, (hC.fr (((Fr.refl noB w1).alloc _).alloc _) id).fr hF id, (((Fr.refl noB w1).alloc _).alloc _).trans hF⟩
  have HZ : Hid (∀ w1 : World, CAt w1 (w.heap.size + 1) r c → CAt ((w1.alloc (.cells #[.int .i64 lr, .int .i64 lc] 32 (0, 0))).alloc (.cells #[.int .i64 hr, .int .i64 hc] 32 (0, 0))) (w.heap.size + 1) r c) := fun w1 hC => hC.fr (((Fr.refl noB w1).alloc _).alloc _) id
  have HA := ahead_any lr lc r c
  have HB := ahead_any r c hr hc
  have fin : ∀ (A B : Bool), (decide (lr ≤ r) && decide (lc ≤ c)) = A → (decide (r ≤ hr) && decide (c ≤ hc)) = B → (A && B) = ((decide (lr ≤ r) && decide (lc ≤ c)) && (decide (r ≤ hr) && decide (c ≤ hc))) := fun A B a b => by rw [a, b]
  have FIN : Hid _ := fin
  clear fin
  obtain ⟨A, hA⟩ : ∃ A, (decide (lr ≤ r) && decide (lc ≤ c)) = A := ⟨_, rfl⟩
  obtain ⟨B, hB⟩ : ∃ B, (decide (r ≤ hr) && decide (c ≤ hc)) = B := ⟨_, rfl⟩
  rw [hA] at HA
  rw [hB] at HB
  have HAB : Hid _ := And.intro hA hB
  rw [hA, hB]
  clear hA hB
  cases A with
  | true =>
    go_enter Tryd.func14, Tryd.ntmps14
    go_wp2_with (first
      | (go_at_call 23; refine (HE _).mono ?_; rintro e w1 ⟨rfl, hF1⟩; have hC1 := HH.out.1.fr hF1 id; have k0 := (HZ.out _ hC1).c0; have k1 := (HZ.out _ hC1).c1; have HC1 : Hid _ := hC1; clear hC1)
      | (go_at_call 25; (with_reducible refine (HA _).mono ?_); rintro e w2 ⟨rfl, hF2⟩; obtain ⟨hL, hM, hF2'⟩ := HK.out _ _ HC1.out hF2; have m0 := hL.c0; have m1 := hL.c1; have m2 := hM.c0; have m3 := hM.c1)
      | (go_at_call 25; (with_reducible refine (HB _).mono ?_); rintro e w3 ⟨rfl, hF3⟩))
    go_ret
    exact ⟨ret_bool (by simp), HH.out.2.trans (hF1.trans (hF2'.trans hF3))⟩
  | false =>
    go_enter Tryd.func14, Tryd.ntmps14
    go_wp2_with (first
      | (go_at_call 23; refine (HE _).mono ?_; rintro e w1 ⟨rfl, hF1⟩; have hC1 := HH.out.1.fr hF1 id; have k0 := (HZ.out _ hC1).c0; have k1 := (HZ.out _ hC1).c1; have HC1 : Hid _ := hC1; clear hC1)
      | (go_at_call 25; (with_reducible refine (HA _).mono ?_); rintro e w2 ⟨rfl, hF2⟩))
    go_ret
    exact ⟨ret_bool (by simp), HH.out.2.trans (hF1.trans (HK.out _ _ HC1.out hF2).2.2)⟩
/-- How many there are, as an int holds it. -/
def szI (ar : Bool) (a b : Int) : Int := wrap64 (wrap64 (hiI ar a b - loI ar a b) + 1)
set_option maxRecDepth 100000 in
set_option maxHeartbeats 2000000 in
theorem size_any (t u : ByteArray) (fx ar : Bool) (r1 c1 : Int) (x1 y1 : Bool) (r2 c2 : Int) (x2 y2 : Bool) (w : World) :
    Calls Tryd.prog 8 #[(.agg #[.string t, .string u, .bool fx, .bool ar, .int .i64 r1, .int .i64 c1, .bool x1, .bool y1, .int .i64 r2, .int .i64 c2, .bool x2, .bool y2])] w fun e w' => e = .returned (.tuple #[.int .i64 (szI ar r1 r2), .int .i64 (szI ar c1 c2)]) ∧ Fr noB w w' := by
  have HE := ends_any t u fx ar r1 c1 x1 y1 r2 c2 x2 y2
  unfold szI
  generalize loI ar r1 r2 = lr at *
  generalize loI ar c1 c2 = lc at *
  generalize hiI ar r1 r2 = hr at *
  generalize hiI ar c1 c2 = hc at *
  have hF0 : Fr noB w (w.alloc (.cells #[.string t, .string u, .bool fx, .bool ar, .int .i64 r1, .int .i64 c1, .bool x1, .bool y1, .int .i64 r2, .int .i64 c2, .bool x2, .bool y2] 25 (0, 0))) := (Fr.refl noB w).alloc _
  have HF0 : Hid _ := hF0
  clear hF0
  go_enter Tryd.func8, Tryd.ntmps8
  go_wp2_with (go_at_call 23; refine (HE _).mono ?_; rintro e w1 ⟨rfl, hF1⟩)
  obtain ⟨W2, hW2⟩ : ∃ W2, (w1.alloc (.cells #[.int .i64 lr, .int .i64 lc] 32 (0, 0))).alloc (.cells #[.int .i64 hr, .int .i64 hc] 32 (0, 0)) = W2 := ⟨_, rfl⟩
  have hL : CAt W2 w1.heap.size lr lc := by rw [← hW2]; exact ⟨alloc_old (alloc_last _ _ _ rfl)⟩
  have hH : CAt W2 (w1.heap.size + 1) hr hc := by rw [← hW2]; exact ⟨alloc_last _ _ _ (by simp)⟩
  have hF2 : Fr noB w1 W2 := by rw [← hW2]; exact ((Fr.refl noB w1).alloc _).alloc _
  rw [hW2]
  have k0 := hL.c0; have k1 := hL.c1; have k2 := hH.c0; have k3 := hH.c1
  clear hW2 hL hH
  go_quiet (fail)
  go_wp2_with fail
  go_ret2
  exact ⟨rfl, HF0.out.trans (hF1.trans (hF2.drewN _))⟩
#print axioms size_any
#print axioms has_any
end Go.Proofs.YtiokbpknaldbaaaDoor
