/- ShiftOrder: the law's walk. -/
import Derived.Test.YthokhnbecgkpbaaDoorHClW
namespace Go.Proofs.YthokhnbecgkpbaaDoor
open Go.RowKit

theorem mov_lt {At N lim : Int} {cm : Bool} {a b : Int} (hN : 1 ≤ N) (ha : movB At N lim cm a = true) (hb : movB At N lim cm b = true) : (movI At N cm a < movI At N cm b ↔ a < b) ∧ (movI At N cm a = movI At N cm b ↔ a = b) := by
  unfold movB at ha hb
  unfold movI
  by_cases h1 : a < At
  · by_cases h2 : b < At
    · simp [h1, h2]
    · rw [if_pos h1, if_neg h2]
      rw [if_neg h2] at hb
      cases cm <;> simp at hb ⊢ <;> omega
  · by_cases h2 : b < At
    · rw [if_neg h1, if_pos h2]
      rw [if_neg h1] at ha
      cases cm <;> simp at ha ⊢ <;> omega
    · rw [if_neg h1, if_neg h2]
      cases cm <;> simp <;> omega
/-- Of two cells of one sheet that remain: how they stand to each other. -/
theorem stand {L : List ByteArray} {K : Int} {sh : ByteArray} {At N : Int} {nm : ByteArray} {s r1 c1 r2 c2 : Int} (h1 : remB L K sh At N nm s r1 c1 = true) (h2 : remB L K sh At N nm s r2 c2 = true) :
    ((ceR (fndN L sh : Int) K At N s r1 < ceR (fndN L sh : Int) K At N s r2 ↔ r1 < r2) ∧ (ceR (fndN L sh : Int) K At N s r1 = ceR (fndN L sh : Int) K At N s r2 ↔ r1 = r2)) ∧
    ((ceC (fndN L sh : Int) K At N s c1 < ceC (fndN L sh : Int) K At N s c2 ↔ c1 < c2) ∧ (ceC (fndN L sh : Int) K At N s c1 = ceC (fndN L sh : Int) K At N s c2 ↔ c1 = c2)) := by
  unfold remB at h1 h2
  simp only [Bool.and_eq_true, decide_eq_true_eq] at h1 h2
  obtain ⟨hc, _, b1⟩ := h1
  obtain ⟨_, _, b2⟩ := h2
  generalize (fndN L sh : Int) = k at *
  unfold ceB at b1 b2
  unfold ceR ceC
  by_cases g1 : K ≤ 2 ∧ s = k
  · have hs := chk_span hc (by omega)
    rw [if_pos g1] at b1 b2
    rw [if_pos g1, if_pos g1, if_neg (by omega), if_neg (by omega)]
    exact ⟨mov_lt hs.1 b1 b2, Iff.rfl, Iff.rfl⟩
  · rw [if_neg g1] at b1 b2
    rw [if_neg g1, if_neg g1]
    by_cases g2 : 3 ≤ K ∧ K ≤ 4 ∧ s = k
    · have hs := chk_span hc (by omega)
      rw [if_pos g2] at b1 b2
      rw [if_pos g2, if_pos g2]
      exact ⟨⟨Iff.rfl, Iff.rfl⟩, mov_lt hs.1 b1 b2⟩
    · rw [if_neg g2, if_neg g2]
      exact ⟨⟨Iff.rfl, Iff.rfl⟩, Iff.rfl, Iff.rfl⟩
set_option maxRecDepth 100000 in
set_option maxHeartbeats 4000000 in
theorem order_no (ao : Option Addr) (cap : Nat) (L : List ByteArray) (K : Int) (sh : ByteArray) (At N : Int) (nm own : ByteArray) (s r1 c1 s2 r2 c2 : Int) (w : World) (h : SsAt w ao L) (hl : L.length ≤ 140737488355328) (hN : N ≤ 9223372036854775807) (hsh : sh.size ≤ 140737488355328) (hnm : nm.size ≤ 140737488355328) (hL : ∀ x ∈ L, x.size ≤ 140737488355328) (hT : Tabs w) (hb : (remB L K sh At N nm s r1 c1 && remB L K sh At N nm s r2 c2) = false) :
    Calls Tryd.prog 5 #[.agg #[.slice ao L.length cap, .int .i64 K, .string sh, .int .i64 At, .int .i64 N, .string nm, .string own], .agg #[.int .i64 s, .int .i64 r1, .int .i64 c1], .agg #[.int .i64 s2, .int .i64 r2, .int .i64 c2]] w fun e w' => e = .returned (.bool true) ∧ Below w.heap.size w w' := by
  obtain ⟨W0, hW0⟩ : ∃ W0, (((w.alloc (.cells #[.slice ao L.length cap, .int .i64 K, .string sh, .int .i64 At, .int .i64 N, .string nm, .string own] 26 (0, 0))).alloc (.cells #[.int .i64 s, .int .i64 r1, .int .i64 c1] 38 (0, 0))).alloc (.cells #[.int .i64 s2, .int .i64 r2, .int .i64 c2] 38 (0, 0))).setCell ⟨w.heap.size + 1 + 1, 0, none⟩ (.int .i64 s) = W0 := ⟨_, rfl⟩
  have hK : KAt W0 w.heap.size ao L.length cap K sh At N nm own := by
    rw [← hW0]
    exact ⟨(Below.heap_setCell _ _ _ _ (by show w.heap.size ≠ w.heap.size + 1 + 1; omega)).trans (old1 (old1 (heap_alloc_new w _)))⟩
  have hA : AAt W0 (w.heap.size + 1) s r1 c1 := by
    rw [← hW0]
    exact ⟨(Below.heap_setCell _ _ _ _ (by show w.heap.size + 1 ≠ w.heap.size + 1 + 1; omega)).trans (old1 (new1 _ _ _ (by simp)))⟩
  have hB : AAt W0 (w.heap.size + 1 + 1) s r2 c2 := by
    rw [← hW0]
    exact ⟨setOf 0 _ (new1 _ _ _ (by simp))⟩
  have hF0 : Fr noB w W0 := by
    rw [← hW0]
    exact ((((Fr.refl noB w).alloc _).alloc _).alloc _).setCell ⟨w.heap.size + 1 + 1, 0, none⟩ (Or.inr (by show w.heap.size ≤ w.heap.size + 1 + 1; omega)) _
  obtain ⟨x1, x2, x3, bx, hv1, hx⟩ : ∃ x1 x2 x3 bx, celV L K sh At N nm s r1 c1 = .tuple #[.agg #[.int .i64 x1, .int .i64 x2, .int .i64 x3], .bool bx] ∧ bx = remB L K sh At N nm s r1 c1 := by
    unfold celV
    cases remB L K sh At N nm s r1 c1
    · exact ⟨_, _, _, _, rfl, rfl⟩
    · exact ⟨_, _, _, _, rfl, rfl⟩
  obtain ⟨y1, y2, y3, bv, hv2, hy⟩ : ∃ x1 x2 x3 bx, celV L K sh At N nm s r2 c2 = .tuple #[.agg #[.int .i64 x1, .int .i64 x2, .int .i64 x3], .bool bx] ∧ bx = remB L K sh At N nm s r2 c2 := by
    unfold celV
    cases remB L K sh At N nm s r2 c2
    · exact ⟨_, _, _, _, rfl, rfl⟩
    · exact ⟨_, _, _, _, rfl, rfl⟩
  rw [← hx, ← hy] at hb
  clear hx hy
  have HP : Hid (∀ W, Fr noB w W → Calls Tryd.prog 17 #[.slice ao L.length cap, .agg #[.int .i64 K, .string sh, .int .i64 At, .int .i64 N, .string nm], .agg #[.int .i64 s, .int .i64 r1, .int .i64 c1]] W fun e w' => e = .returned (.tuple #[.agg #[.int .i64 x1, .int .i64 x2, .int .i64 x3], .bool bx]) ∧ Fr noB W w') := fun W hF => by have := pcell_any ao cap L K sh At N nm s r1 c1 W (h.keep hF) hl hN; rw [hv1] at this; exact this
  have HQ : Hid (∀ W, Fr noB w W → Calls Tryd.prog 17 #[.slice ao L.length cap, .agg #[.int .i64 K, .string sh, .int .i64 At, .int .i64 N, .string nm], .agg #[.int .i64 s, .int .i64 r2, .int .i64 c2]] W fun e w' => e = .returned (.tuple #[.agg #[.int .i64 y1, .int .i64 y2, .int .i64 y3], .bool bv]) ∧ Fr noB W w') := fun W hF => by have := pcell_any ao cap L K sh At N nm s r2 c2 W (h.keep hF) hl hN; rw [hv2] at this; exact this
  have HR : Hid (∀ W, Fr noB w W → Calls Tryd.prog 18 #[.slice ao L.length cap, .agg #[.int .i64 K, .string sh, .int .i64 At, .int .i64 N, .string nm], .agg #[.int .i64 s, .int .i64 r1, .int .i64 c1]] W fun e w' => e = .returned (.tuple #[.agg #[.int .i64 x1, .int .i64 x2, .int .i64 x3], .bool bx]) ∧ Fr noB W w') := fun W hF => by have := rcell_any ao cap L K sh At N nm s r1 c1 W (h.keep hF) hl hsh hnm hL (hT.keep hF); rw [hv1] at this; exact this
  have HL : Hid (∀ W, Calls Tryd.prog 11 #[] W fun e w' => e = .returned (.bool true) ∧ Fr noB W w') := fun W => live_true W
  have HH : Hid _ := And.intro hK (And.intro hA (And.intro hB hF0))
  have k0 := hK.c0; have k1 := hK.c1; have k2 := hK.c2; have k3 := hK.c3; have k4 := hK.c4; have k5 := hK.c5
  have a0 := hA.c0; have a1 := hA.c1; have a2 := hA.c2; have b0 := hB.c0; have b1 := hB.c1; have b2 := hB.c2
  have z0 := new1 ((w.alloc (.cells #[.slice ao L.length cap, .int .i64 K, .string sh, .int .i64 At, .int .i64 N, .string nm, .string own] 26 (0, 0))).alloc (.cells #[.int .i64 s, .int .i64 r1, .int .i64 c1] 38 (0, 0))) (.cells #[.int .i64 s2, .int .i64 r2, .int .i64 c2] 38 (0, 0)) (w.heap.size + 1 + 1) (by simp)
  have z1 : (((w.alloc (.cells #[.slice ao L.length cap, .int .i64 K, .string sh, .int .i64 At, .int .i64 N, .string nm, .string own] 26 (0, 0))).alloc (.cells #[.int .i64 s, .int .i64 r1, .int .i64 c1] 38 (0, 0))).alloc (.cells #[.int .i64 s2, .int .i64 r2, .int .i64 c2] 38 (0, 0))).heap[w.heap.size + 1]? = some (.cells #[.int .i64 s, .int .i64 r1, .int .i64 c1] 38 (0, 0)) := old1 (new1 _ _ _ (by simp))
  have z2 := cellOf (o := 0) z1 rfl
  have z3 := cellOf (o := 0) z0 rfl
  have z4 := freeOf 0 z0
  clear z0 z1 hK hA hB hF0 h hl hN hsh hnm hL hT hv1 hv2
  generalize L.length = l at *
  cases bx
  all_goals cases bv
  all_goals first | (exfalso; revert hb; decide) | skip
  all_goals clear hb
  all_goals
    go_enter Tryd.func5, Tryd.ntmps5
    go_wp2_with (first
      | (go_at_call 17; (with_reducible refine (HP.out _ HH.out.2.2.2).mono ?_); rintro e w1 ⟨rfl, hF1⟩; have hF2 : Fr noB W0 (w1.alloc (.cells #[.int .i64 x1, .int .i64 x2, .int .i64 x3] 38 (0, 0))) := hF1.alloc _; have mK := HH.out.1.fr hF2; have mk0 := mK.c0; have mk1 := mK.c1; have mk2 := mK.c2; have mk3 := mK.c3; have mk4 := mK.c4; have mk5 := mK.c5; have mA := HH.out.2.1.fr hF2; have ma0 := mA.c0; have ma1 := mA.c1; have ma2 := mA.c2; have mB := HH.out.2.2.1.fr hF2; have mb0 := mB.c0; have mb1 := mB.c1; have mb2 := mB.c2; clear mK mA mB; have hP2 : AAt (w1.alloc (.cells #[.int .i64 x1, .int .i64 x2, .int .i64 x3] 38 (0, 0))) w1.heap.size x1 x2 x3 := ⟨heap_alloc_new w1 _⟩; have HF2 : Hid _ := And.intro hP2 hF2; clear hF1 hF2 hP2)
      | (go_at_call 17; (with_reducible refine (HQ.out _ (HH.out.2.2.2.trans HF2.out.2)).mono ?_); rintro e w2 ⟨rfl, hF3⟩; have hF4 : Fr noB W0 (w2.alloc (.cells #[.int .i64 y1, .int .i64 y2, .int .i64 y3] 38 (0, 0))) := (HF2.out.2.trans hF3).alloc _; have nK := HH.out.1.fr hF4; have nk0 := nK.c0; have nk1 := nK.c1; have nk2 := nK.c2; have nk3 := nK.c3; have nk4 := nK.c4; have nk5 := nK.c5; have nA := HH.out.2.1.fr hF4; have na0 := nA.c0; have na1 := nA.c1; have na2 := nA.c2; have nB := HH.out.2.2.1.fr hF4; have nb0 := nB.c0; have nb1 := nB.c1; have nb2 := nB.c2; clear nK nA nB; have hP4 : AAt (w2.alloc (.cells #[.int .i64 y1, .int .i64 y2, .int .i64 y3] 38 (0, 0))) w1.heap.size x1 x2 x3 := (HF2.out.1.fr hF3).fr (fr_alloc w2 _); have hQ4 : AAt (w2.alloc (.cells #[.int .i64 y1, .int .i64 y2, .int .i64 y3] 38 (0, 0))) w2.heap.size y1 y2 y3 := ⟨heap_alloc_new w2 _⟩; have HF4 : Hid _ := And.intro hP4 (And.intro hQ4 hF4); clear hF3 hF4 hP4 hQ4)
      | (go_at_call 18; (with_reducible refine (HR.out _ (HH.out.2.2.2.trans HF4.out.2.2)).mono ?_); rintro e w3 ⟨rfl, hF5⟩; have hF6 : Fr noB W0 (w3.alloc (.cells #[.int .i64 x1, .int .i64 x2, .int .i64 x3] 38 (0, 0))) := (HF4.out.2.2.trans hF5).alloc _; have hP6 : AAt (w3.alloc (.cells #[.int .i64 x1, .int .i64 x2, .int .i64 x3] 38 (0, 0))) w1.heap.size x1 x2 x3 := (HF4.out.1.fr hF5).fr (fr_alloc w3 _); have hQ6 : AAt (w3.alloc (.cells #[.int .i64 x1, .int .i64 x2, .int .i64 x3] 38 (0, 0))) w2.heap.size y1 y2 y3 := (HF4.out.2.1.fr hF5).fr (fr_alloc w3 _); have HF6 : Hid _ := And.intro hP6 (And.intro hQ6 hF6); clear hF5 hF6 hP6 hQ6)
      | (go_at_call 11; refine (HL.out _).mono ?_; rintro e w4 ⟨rfl, hF7⟩; have hF8 := HF6.out.2.2.trans hF7; have oK := HH.out.1.fr hF8; have ok0 := oK.c0; have ok1 := oK.c1; have ok2 := oK.c2; have ok3 := oK.c3; have ok4 := oK.c4; have ok5 := oK.c5; have oA := HH.out.2.1.fr hF8; have oa0 := oA.c0; have oa1 := oA.c1; have oa2 := oA.c2; have oB := HH.out.2.2.1.fr hF8; have ob0 := oB.c0; have ob1 := oB.c1; have ob2 := oB.c2; clear oK oA oB; have hP8 := HF6.out.1.fr hF7; have hQ8 := HF6.out.2.1.fr hF7; have p0 := hP8.c0; have p1 := hP8.c1; have p2 := hP8.c2; have q0 := hQ8.c0; have q1 := hQ8.c1; have q2 := hQ8.c2; have HF8 : Hid _ := HH.out.2.2.2.trans hF8; clear hF7 hF8 hP8 hQ8))
    go_ret
    exact ⟨rfl, HF8.out.below (Nat.le_refl _) (fun _ h => h.elim)⟩
set_option maxRecDepth 100000 in
set_option maxHeartbeats 4000000 in
theorem order_yes (ao : Option Addr) (cap : Nat) (L : List ByteArray) (K : Int) (sh : ByteArray) (At N : Int) (nm own : ByteArray) (s r1 c1 s2 r2 c2 : Int) (w : World) (h : SsAt w ao L) (hl : L.length ≤ 140737488355328) (hN : N ≤ 9223372036854775807) (hsh : sh.size ≤ 140737488355328) (hnm : nm.size ≤ 140737488355328) (hL : ∀ x ∈ L, x.size ≤ 140737488355328) (hT : Tabs w) (g1 : remB L K sh At N nm s r1 c1 = true) (g2 : remB L K sh At N nm s r2 c2 = true) :
    Calls Tryd.prog 5 #[.agg #[.slice ao L.length cap, .int .i64 K, .string sh, .int .i64 At, .int .i64 N, .string nm, .string own], .agg #[.int .i64 s, .int .i64 r1, .int .i64 c1], .agg #[.int .i64 s2, .int .i64 r2, .int .i64 c2]] w fun e w' => e = .returned (.bool true) ∧ Below w.heap.size w w' := by
  obtain ⟨W0, hW0⟩ : ∃ W0, (((w.alloc (.cells #[.slice ao L.length cap, .int .i64 K, .string sh, .int .i64 At, .int .i64 N, .string nm, .string own] 26 (0, 0))).alloc (.cells #[.int .i64 s, .int .i64 r1, .int .i64 c1] 38 (0, 0))).alloc (.cells #[.int .i64 s2, .int .i64 r2, .int .i64 c2] 38 (0, 0))).setCell ⟨w.heap.size + 1 + 1, 0, none⟩ (.int .i64 s) = W0 := ⟨_, rfl⟩
  have hK : KAt W0 w.heap.size ao L.length cap K sh At N nm own := by
    rw [← hW0]
    exact ⟨(Below.heap_setCell _ _ _ _ (by show w.heap.size ≠ w.heap.size + 1 + 1; omega)).trans (old1 (old1 (heap_alloc_new w _)))⟩
  have hA : AAt W0 (w.heap.size + 1) s r1 c1 := by
    rw [← hW0]
    exact ⟨(Below.heap_setCell _ _ _ _ (by show w.heap.size + 1 ≠ w.heap.size + 1 + 1; omega)).trans (old1 (new1 _ _ _ (by simp)))⟩
  have hB : AAt W0 (w.heap.size + 1 + 1) s r2 c2 := by
    rw [← hW0]
    exact ⟨setOf 0 _ (new1 _ _ _ (by simp))⟩
  have hF0 : Fr noB w W0 := by
    rw [← hW0]
    exact ((((Fr.refl noB w).alloc _).alloc _).alloc _).setCell ⟨w.heap.size + 1 + 1, 0, none⟩ (Or.inr (by show w.heap.size ≤ w.heap.size + 1 + 1; omega)) _
  have hst := stand g1 g2
  have hv1 : celV L K sh At N nm s r1 c1 = .tuple #[.agg #[.int .i64 (ceS (fndN L sh : Int) K At s), .int .i64 (ceR (fndN L sh : Int) K At N s r1), .int .i64 (ceC (fndN L sh : Int) K At N s c1)], .bool true] := by unfold celV; rw [if_pos g1]
  have hv2 : celV L K sh At N nm s r2 c2 = .tuple #[.agg #[.int .i64 (ceS (fndN L sh : Int) K At s), .int .i64 (ceR (fndN L sh : Int) K At N s r2), .int .i64 (ceC (fndN L sh : Int) K At N s c2)], .bool true] := by unfold celV; rw [if_pos g2]
  clear g1 g2
  generalize ceS (fndN L sh : Int) K At s = x1 at *
  generalize ceR (fndN L sh : Int) K At N s r1 = x2 at *
  generalize ceC (fndN L sh : Int) K At N s c1 = x3 at *
  generalize ceR (fndN L sh : Int) K At N s r2 = y2 at *
  generalize ceC (fndN L sh : Int) K At N s c2 = y3 at *
  have HP : Hid (∀ W, Fr noB w W → Calls Tryd.prog 17 #[.slice ao L.length cap, .agg #[.int .i64 K, .string sh, .int .i64 At, .int .i64 N, .string nm], .agg #[.int .i64 s, .int .i64 r1, .int .i64 c1]] W fun e w' => e = .returned (.tuple #[.agg #[.int .i64 x1, .int .i64 x2, .int .i64 x3], .bool true]) ∧ Fr noB W w') := fun W hF => by have := pcell_any ao cap L K sh At N nm s r1 c1 W (h.keep hF) hl hN; rw [hv1] at this; exact this
  have HQ : Hid (∀ W, Fr noB w W → Calls Tryd.prog 17 #[.slice ao L.length cap, .agg #[.int .i64 K, .string sh, .int .i64 At, .int .i64 N, .string nm], .agg #[.int .i64 s, .int .i64 r2, .int .i64 c2]] W fun e w' => e = .returned (.tuple #[.agg #[.int .i64 x1, .int .i64 y2, .int .i64 y3], .bool true]) ∧ Fr noB W w') := fun W hF => by have := pcell_any ao cap L K sh At N nm s r2 c2 W (h.keep hF) hl hN; rw [hv2] at this; exact this
  have HR : Hid (∀ W, Fr noB w W → Calls Tryd.prog 18 #[.slice ao L.length cap, .agg #[.int .i64 K, .string sh, .int .i64 At, .int .i64 N, .string nm], .agg #[.int .i64 s, .int .i64 r1, .int .i64 c1]] W fun e w' => e = .returned (.tuple #[.agg #[.int .i64 x1, .int .i64 x2, .int .i64 x3], .bool true]) ∧ Fr noB W w') := fun W hF => by have := rcell_any ao cap L K sh At N nm s r1 c1 W (h.keep hF) hl hsh hnm hL (hT.keep hF); rw [hv1] at this; exact this
  have HL : Hid (∀ W, Calls Tryd.prog 11 #[] W fun e w' => e = .returned (.bool true) ∧ Fr noB W w') := fun W => live_true W
  have HH : Hid _ := And.intro hK (And.intro hA (And.intro hB hF0))
  have k0 := hK.c0; have k1 := hK.c1; have k2 := hK.c2; have k3 := hK.c3; have k4 := hK.c4; have k5 := hK.c5
  have a0 := hA.c0; have a1 := hA.c1; have a2 := hA.c2; have b0 := hB.c0; have b1 := hB.c1; have b2 := hB.c2
  have z0 := new1 ((w.alloc (.cells #[.slice ao L.length cap, .int .i64 K, .string sh, .int .i64 At, .int .i64 N, .string nm, .string own] 26 (0, 0))).alloc (.cells #[.int .i64 s, .int .i64 r1, .int .i64 c1] 38 (0, 0))) (.cells #[.int .i64 s2, .int .i64 r2, .int .i64 c2] 38 (0, 0)) (w.heap.size + 1 + 1) (by simp)
  have z1 : (((w.alloc (.cells #[.slice ao L.length cap, .int .i64 K, .string sh, .int .i64 At, .int .i64 N, .string nm, .string own] 26 (0, 0))).alloc (.cells #[.int .i64 s, .int .i64 r1, .int .i64 c1] 38 (0, 0))).alloc (.cells #[.int .i64 s2, .int .i64 r2, .int .i64 c2] 38 (0, 0))).heap[w.heap.size + 1]? = some (.cells #[.int .i64 s, .int .i64 r1, .int .i64 c1] 38 (0, 0)) := old1 (new1 _ _ _ (by simp))
  have z2 := cellOf (o := 0) z1 rfl
  have z3 := cellOf (o := 0) z0 rfl
  have z4 := freeOf 0 z0
  clear z0 z1 hK hA hB hF0 h hl hN hsh hnm hL hT hv1 hv2
  generalize L.length = l at *
  have HST : Hid _ := hst
  clear hst
  go_enter Tryd.func5, Tryd.ntmps5
  go_wp2_with (first
    | (go_at_call 17; (with_reducible refine (HP.out _ HH.out.2.2.2).mono ?_); rintro e w1 ⟨rfl, hF1⟩; have hF2 : Fr noB W0 (w1.alloc (.cells #[.int .i64 x1, .int .i64 x2, .int .i64 x3] 38 (0, 0))) := hF1.alloc _; have mK := HH.out.1.fr hF2; have mk0 := mK.c0; have mk1 := mK.c1; have mk2 := mK.c2; have mk3 := mK.c3; have mk4 := mK.c4; have mk5 := mK.c5; have mA := HH.out.2.1.fr hF2; have ma0 := mA.c0; have ma1 := mA.c1; have ma2 := mA.c2; have mB := HH.out.2.2.1.fr hF2; have mb0 := mB.c0; have mb1 := mB.c1; have mb2 := mB.c2; clear mK mA mB; have hP2 : AAt (w1.alloc (.cells #[.int .i64 x1, .int .i64 x2, .int .i64 x3] 38 (0, 0))) w1.heap.size x1 x2 x3 := ⟨heap_alloc_new w1 _⟩; have HF2 : Hid _ := And.intro hP2 hF2; clear hF1 hF2 hP2)
    | (go_at_call 17; (with_reducible refine (HQ.out _ (HH.out.2.2.2.trans HF2.out.2)).mono ?_); rintro e w2 ⟨rfl, hF3⟩; have hF4 : Fr noB W0 (w2.alloc (.cells #[.int .i64 x1, .int .i64 y2, .int .i64 y3] 38 (0, 0))) := (HF2.out.2.trans hF3).alloc _; have nK := HH.out.1.fr hF4; have nk0 := nK.c0; have nk1 := nK.c1; have nk2 := nK.c2; have nk3 := nK.c3; have nk4 := nK.c4; have nk5 := nK.c5; have nA := HH.out.2.1.fr hF4; have na0 := nA.c0; have na1 := nA.c1; have na2 := nA.c2; have nB := HH.out.2.2.1.fr hF4; have nb0 := nB.c0; have nb1 := nB.c1; have nb2 := nB.c2; clear nK nA nB; have hP4 : AAt (w2.alloc (.cells #[.int .i64 x1, .int .i64 y2, .int .i64 y3] 38 (0, 0))) w1.heap.size x1 x2 x3 := (HF2.out.1.fr hF3).fr (fr_alloc w2 _); have hQ4 : AAt (w2.alloc (.cells #[.int .i64 x1, .int .i64 y2, .int .i64 y3] 38 (0, 0))) w2.heap.size x1 y2 y3 := ⟨heap_alloc_new w2 _⟩; have HF4 : Hid _ := And.intro hP4 (And.intro hQ4 hF4); clear hF3 hF4 hP4 hQ4)
    | (go_at_call 18; (with_reducible refine (HR.out _ (HH.out.2.2.2.trans HF4.out.2.2)).mono ?_); rintro e w3 ⟨rfl, hF5⟩; have hF6 : Fr noB W0 (w3.alloc (.cells #[.int .i64 x1, .int .i64 x2, .int .i64 x3] 38 (0, 0))) := (HF4.out.2.2.trans hF5).alloc _; have hP6 : AAt (w3.alloc (.cells #[.int .i64 x1, .int .i64 x2, .int .i64 x3] 38 (0, 0))) w1.heap.size x1 x2 x3 := (HF4.out.1.fr hF5).fr (fr_alloc w3 _); have hQ6 : AAt (w3.alloc (.cells #[.int .i64 x1, .int .i64 x2, .int .i64 x3] 38 (0, 0))) w2.heap.size x1 y2 y3 := (HF4.out.2.1.fr hF5).fr (fr_alloc w3 _); have HF6 : Hid _ := And.intro hP6 (And.intro hQ6 hF6); clear hF5 hF6 hP6 hQ6)
    | (go_at_call 11; refine (HL.out _).mono ?_; rintro e w4 ⟨rfl, hF7⟩; have hF8 := HF6.out.2.2.trans hF7; have oK := HH.out.1.fr hF8; have ok0 := oK.c0; have ok1 := oK.c1; have ok2 := oK.c2; have ok3 := oK.c3; have ok4 := oK.c4; have ok5 := oK.c5; have oA := HH.out.2.1.fr hF8; have oa0 := oA.c0; have oa1 := oA.c1; have oa2 := oA.c2; have oB := HH.out.2.2.1.fr hF8; have ob0 := oB.c0; have ob1 := oB.c1; have ob2 := oB.c2; clear oK oA oB; have hP8 := HF6.out.1.fr hF7; have hQ8 := HF6.out.2.1.fr hF7; have p0 := hP8.c0; have p1 := hP8.c1; have p2 := hP8.c2; have q0 := hQ8.c0; have q1 := hQ8.c1; have q2 := hQ8.c2; have HF8 : Hid _ := HH.out.2.2.2.trans hF8; clear hF7 hF8 hP8 hQ8))
  obtain ⟨⟨rl, re⟩, cl, ce⟩ := HST.out
  clear HST
  rcases Int.lt_trichotomy r1 r2 with hcs | hcs | hcs
  · skip
    have rl1 : decide (r1 < r2) = true := decide_eq_true hcs
    have rl2 : decide (x2 < y2) = true := decide_eq_true (rl.2 hcs)
    have rl3 : decide (r1 = r2) = false := decide_eq_false (by omega)
    have rl4 : decide (x2 = y2) = false := decide_eq_false (fun q => by have := re.1 q; omega)
    have rl5 : (r1 == r2) = false := by simp; omega
    have rl6 : (x2 == y2) = false := by simpa using of_decide_eq_false rl4
    have rl7 : ¬ r1 = r2 := by omega
    have rl8 : ¬ x2 = y2 := of_decide_eq_false rl4
    clear rl re hcs
    rcases Int.lt_trichotomy c1 c2 with hcs | hcs | hcs
    · skip
      have cl1 : decide (c1 < c2) = true := decide_eq_true hcs
      have cl2 : decide (x3 < y3) = true := decide_eq_true (cl.2 hcs)
      have cl3 : decide (c1 = c2) = false := decide_eq_false (by omega)
      have cl4 : decide (x3 = y3) = false := decide_eq_false (fun q => by have := ce.1 q; omega)
      have cl5 : (c1 == c2) = false := by simp; omega
      have cl6 : (x3 == y3) = false := by simpa using of_decide_eq_false cl4
      have cl7 : ¬ c1 = c2 := by omega
      have cl8 : ¬ x3 = y3 := of_decide_eq_false cl4
      clear cl ce hcs
      go_quiet (fail)
      go_wp2_with fail
      go_ret
      exact ⟨ret_bool (by simp), (HF8.out.drewN _).below (Nat.le_refl _) (fun _ h => h.elim)⟩
    · skip
      have cl9 : x3 = y3 := ce.2 hcs
      clear cl ce
      subst hcs
      subst cl9
      go_quiet (fail)
      go_wp2_with fail
      go_ret
      exact ⟨ret_bool (by simp), (HF8.out.drewN _).below (Nat.le_refl _) (fun _ h => h.elim)⟩
    · skip
      have cl1 : decide (c1 < c2) = false := decide_eq_false (by omega)
      have cl2 : decide (x3 < y3) = false := decide_eq_false (fun q => by have := cl.1 q; omega)
      have cl3 : decide (c1 = c2) = false := decide_eq_false (by omega)
      have cl4 : decide (x3 = y3) = false := decide_eq_false (fun q => by have := ce.1 q; omega)
      have cl5 : (c1 == c2) = false := by simp; omega
      have cl6 : (x3 == y3) = false := by simpa using of_decide_eq_false cl4
      have cl7 : ¬ c1 = c2 := by omega
      have cl8 : ¬ x3 = y3 := of_decide_eq_false cl4
      clear cl ce hcs
      go_quiet (fail)
      go_wp2_with fail
      go_ret
      exact ⟨ret_bool (by simp), (HF8.out.drewN _).below (Nat.le_refl _) (fun _ h => h.elim)⟩
  · skip
    have rl9 : x2 = y2 := re.2 hcs
    clear rl re
    subst hcs
    subst rl9
    rcases Int.lt_trichotomy c1 c2 with hcs | hcs | hcs
    · skip
      have cl1 : decide (c1 < c2) = true := decide_eq_true hcs
      have cl2 : decide (x3 < y3) = true := decide_eq_true (cl.2 hcs)
      have cl3 : decide (c1 = c2) = false := decide_eq_false (by omega)
      have cl4 : decide (x3 = y3) = false := decide_eq_false (fun q => by have := ce.1 q; omega)
      have cl5 : (c1 == c2) = false := by simp; omega
      have cl6 : (x3 == y3) = false := by simpa using of_decide_eq_false cl4
      have cl7 : ¬ c1 = c2 := by omega
      have cl8 : ¬ x3 = y3 := of_decide_eq_false cl4
      clear cl ce hcs
      go_quiet (fail)
      go_wp2_with fail
      go_ret
      exact ⟨ret_bool (by simp), (HF8.out.drewN _).below (Nat.le_refl _) (fun _ h => h.elim)⟩
    · skip
      have cl9 : x3 = y3 := ce.2 hcs
      clear cl ce
      subst hcs
      subst cl9
      go_quiet (fail)
      go_wp2_with fail
      go_ret
      exact ⟨ret_bool (by simp), (HF8.out.drewN _).below (Nat.le_refl _) (fun _ h => h.elim)⟩
    · skip
      have cl1 : decide (c1 < c2) = false := decide_eq_false (by omega)
      have cl2 : decide (x3 < y3) = false := decide_eq_false (fun q => by have := cl.1 q; omega)
      have cl3 : decide (c1 = c2) = false := decide_eq_false (by omega)
      have cl4 : decide (x3 = y3) = false := decide_eq_false (fun q => by have := ce.1 q; omega)
      have cl5 : (c1 == c2) = false := by simp; omega
      have cl6 : (x3 == y3) = false := by simpa using of_decide_eq_false cl4
      have cl7 : ¬ c1 = c2 := by omega
      have cl8 : ¬ x3 = y3 := of_decide_eq_false cl4
      clear cl ce hcs
      go_quiet (fail)
      go_wp2_with fail
      go_ret
      exact ⟨ret_bool (by simp), (HF8.out.drewN _).below (Nat.le_refl _) (fun _ h => h.elim)⟩
  · skip
    have rl1 : decide (r1 < r2) = false := decide_eq_false (by omega)
    have rl2 : decide (x2 < y2) = false := decide_eq_false (fun q => by have := rl.1 q; omega)
    have rl3 : decide (r1 = r2) = false := decide_eq_false (by omega)
    have rl4 : decide (x2 = y2) = false := decide_eq_false (fun q => by have := re.1 q; omega)
    have rl5 : (r1 == r2) = false := by simp; omega
    have rl6 : (x2 == y2) = false := by simpa using of_decide_eq_false rl4
    have rl7 : ¬ r1 = r2 := by omega
    have rl8 : ¬ x2 = y2 := of_decide_eq_false rl4
    clear rl re hcs
    rcases Int.lt_trichotomy c1 c2 with hcs | hcs | hcs
    · skip
      have cl1 : decide (c1 < c2) = true := decide_eq_true hcs
      have cl2 : decide (x3 < y3) = true := decide_eq_true (cl.2 hcs)
      have cl3 : decide (c1 = c2) = false := decide_eq_false (by omega)
      have cl4 : decide (x3 = y3) = false := decide_eq_false (fun q => by have := ce.1 q; omega)
      have cl5 : (c1 == c2) = false := by simp; omega
      have cl6 : (x3 == y3) = false := by simpa using of_decide_eq_false cl4
      have cl7 : ¬ c1 = c2 := by omega
      have cl8 : ¬ x3 = y3 := of_decide_eq_false cl4
      clear cl ce hcs
      go_quiet (fail)
      go_wp2_with fail
      go_ret
      exact ⟨ret_bool (by simp), (HF8.out.drewN _).below (Nat.le_refl _) (fun _ h => h.elim)⟩
    · skip
      have cl9 : x3 = y3 := ce.2 hcs
      clear cl ce
      subst hcs
      subst cl9
      go_quiet (fail)
      go_wp2_with fail
      go_ret
      exact ⟨ret_bool (by simp), (HF8.out.drewN _).below (Nat.le_refl _) (fun _ h => h.elim)⟩
    · skip
      have cl1 : decide (c1 < c2) = false := decide_eq_false (by omega)
      have cl2 : decide (x3 < y3) = false := decide_eq_false (fun q => by have := cl.1 q; omega)
      have cl3 : decide (c1 = c2) = false := decide_eq_false (by omega)
      have cl4 : decide (x3 = y3) = false := decide_eq_false (fun q => by have := ce.1 q; omega)
      have cl5 : (c1 == c2) = false := by simp; omega
      have cl6 : (x3 == y3) = false := by simpa using of_decide_eq_false cl4
      have cl7 : ¬ c1 = c2 := by omega
      have cl8 : ¬ x3 = y3 := of_decide_eq_false cl4
      clear cl ce hcs
      go_quiet (fail)
      go_wp2_with fail
      go_ret
      exact ⟨ret_bool (by simp), (HF8.out.drewN _).below (Nat.le_refl _) (fun _ h => h.elim)⟩
theorem order_walk (ao : Option Addr) (cap : Nat) (L : List ByteArray) (K : Int) (sh : ByteArray) (At N : Int) (nm own : ByteArray) (s r1 c1 s2 r2 c2 : Int) (w : World) (h : SsAt w ao L) (hl : L.length ≤ 140737488355328) (hN : N ≤ 9223372036854775807) (hsh : sh.size ≤ 140737488355328) (hnm : nm.size ≤ 140737488355328) (hL : ∀ x ∈ L, x.size ≤ 140737488355328) (hT : Tabs w) :
    Calls Tryd.prog 5 #[.agg #[.slice ao L.length cap, .int .i64 K, .string sh, .int .i64 At, .int .i64 N, .string nm, .string own], .agg #[.int .i64 s, .int .i64 r1, .int .i64 c1], .agg #[.int .i64 s2, .int .i64 r2, .int .i64 c2]] w fun e w' => e = .returned (.bool true) ∧ Below w.heap.size w w' := by
  cases g1 : remB L K sh At N nm s r1 c1 with
  | false => exact order_no ao cap L K sh At N nm own s r1 c1 s2 r2 c2 w h hl hN hsh hnm hL hT (by rw [g1]; rfl)
  | true =>
    cases g2 : remB L K sh At N nm s r2 c2 with
    | false => exact order_no ao cap L K sh At N nm own s r1 c1 s2 r2 c2 w h hl hN hsh hnm hL hT (by rw [g1, g2]; rfl)
    | true => exact order_yes ao cap L K sh At N nm own s r1 c1 s2 r2 c2 w h hl hN hsh hnm hL hT g1 g2
#print axioms order_walk
end Go.Proofs.YthokhnbecgkpbaaDoor
