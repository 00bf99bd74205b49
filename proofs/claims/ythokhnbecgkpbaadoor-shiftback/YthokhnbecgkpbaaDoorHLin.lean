/- A band's line, end, span and ends: the program's. -/
import Derived.Test.YthokhnbecgkpbaaDoorHCel
import Derived.Test.YthokhnbecgkpbaaDoorRChW
import Derived.Deep.RegionHeld3
namespace Go.Proofs.YthokhnbecgkpbaaDoor
open Go.RowKit

/-- The line of a corner: its row, or its column. -/
def lnN (ac : Bool) : Nat := if ac = true then 1 else 0
set_option maxRecDepth 100000 in
theorem line_any (At N lim : Int) (cm ac : Bool) (b o : Nat) (w : World) :
    Calls Tryd.prog 84 #[.agg #[.int .i64 At, .int .i64 N, .int .i64 lim, .bool cm, .bool ac], .pointer (some ⟨b, o, none⟩)] w fun e w' => e = .returned (.pointer (some ⟨b, o + lnN ac, none⟩)) ∧ Fr noB w w' := by
  cases ac <;>
  · go_enter Tryd.func84, Tryd.ntmps84
    go_wp2_with fail
    go_ret
    exact ⟨rfl, (Fr.refl noB w).alloc _⟩
def endI (At lim : Int) (cm : Bool) : Int := if cm = true then lim - 1 else At - 1
set_option maxRecDepth 100000 in
theorem end_any (At N lim : Int) (cm ac : Bool) (w : World) (h1 : 0 ≤ At) (h2 : At ≤ 1048576) (h3 : 0 ≤ lim) (h4 : lim ≤ 1048576) :
    Calls Tryd.prog 85 #[.agg #[.int .i64 At, .int .i64 N, .int .i64 lim, .bool cm, .bool ac]] w fun e w' => e = .returned (.int .i64 (endI At lim cm)) ∧ Fr noB w w' := by
  have hw1 : IntKind.i64.wrap (lim - 1) = lim - 1 := by rw [IntKind.wrap_i64]; omega
  have hw2 : IntKind.i64.wrap (At - 1) = At - 1 := by rw [IntKind.wrap_i64]; omega
  obtain ⟨p, hp⟩ : ∃ p, lim - 1 = p := ⟨_, rfl⟩
  obtain ⟨q, hq⟩ : ∃ q, At - 1 = q := ⟨_, rfl⟩
  unfold endI
  rw [hp] at hw1 ⊢
  rw [hq] at hw2 ⊢
  clear h1 h2 h3 h4
  cases cm <;>
  · go_enter Tryd.func85, Tryd.ntmps85
    go_wp2_with fail
    go_ret
    exact ⟨rfl, (Fr.refl noB w).alloc _⟩
/-- What becomes of all from the first to the last. -/
def spaB (At N lim : Int) (cm : Bool) (f t : Int) : Bool := movB At N lim cm f || movB At N lim cm t
def spaF (At N lim : Int) (cm : Bool) (f : Int) : Int := if movB At N lim cm f = true then movI At N cm f else At
def spaT (At N lim : Int) (cm : Bool) (t : Int) : Int := if movB At N lim cm t = true then movI At N cm t else endI At lim cm
def spaV (At N lim : Int) (cm : Bool) (f t : Int) : Value := if spaB At N lim cm f t = true then .tuple #[.int .i64 (spaF At N lim cm f), .int .i64 (spaT At N lim cm t), .bool true] else .tuple #[.int .i64 0, .int .i64 0, .bool false]
set_option maxRecDepth 100000 in
set_option maxHeartbeats 1000000 in
theorem span_any (At N lim : Int) (cm ac : Bool) (f t : Int) (w : World) (h1 : 0 ≤ At) (h2 : At ≤ 1048576) (h3 : 0 ≤ N) (h4 : N ≤ 1048576) (h5 : 0 ≤ lim) (h6 : lim ≤ 1048576) (h7 : 0 ≤ f) (h8 : f ≤ 1048576) (h9 : 0 ≤ t) (h10 : t ≤ 1048576) :
    Calls Tryd.prog 77 #[.agg #[.int .i64 At, .int .i64 N, .int .i64 lim, .bool cm, .bool ac], .int .i64 f, .int .i64 t] w fun e w' => e = .returned (spaV At N lim cm f t) ∧ Fr noB w w' := by
  have HM : Hid (∀ w, Calls Tryd.prog 51 #[.agg #[.int .i64 At, .int .i64 N, .int .i64 lim, .bool cm, .bool ac], .int .i64 f] w fun e w' => e = .returned (.tuple #[.int .i64 (movI At N cm f), .bool (movB At N lim cm f)]) ∧ Fr noB w w') := fun w => bmoved_any At N lim cm ac f w h1 h2 h3 h4 h7 h8
  have HO : Hid (∀ w, Calls Tryd.prog 51 #[.agg #[.int .i64 At, .int .i64 N, .int .i64 lim, .bool cm, .bool ac], .int .i64 t] w fun e w' => e = .returned (.tuple #[.int .i64 (movI At N cm t), .bool (movB At N lim cm t)]) ∧ Fr noB w w') := fun w => bmoved_any At N lim cm ac t w h1 h2 h3 h4 h9 h10
  have HE : Hid (∀ w, Calls Tryd.prog 85 #[.agg #[.int .i64 At, .int .i64 N, .int .i64 lim, .bool cm, .bool ac]] w fun e w' => e = .returned (.int .i64 (endI At lim cm)) ∧ Fr noB w w') := fun w => end_any At N lim cm ac w h1 h2 h5 h6
  have hB : BAt (w.alloc (.cells #[.int .i64 At, .int .i64 N, .int .i64 lim, .bool cm, .bool ac] 60 (0, 0))) w.heap.size At N lim cm ac := ⟨heap_alloc_new w _⟩
  have k0 := hB.c0; have k1 := hB.c1; have k2 := hB.c2; have k3 := hB.c3; have k4 := hB.c4
  have HB : Hid _ := And.intro hB (fr_alloc w (.cells #[.int .i64 At, .int .i64 N, .int .i64 lim, .bool cm, .bool ac] 60 (0, 0)))
  clear hB h1 h2 h3 h4 h5 h6 h7 h8 h9 h10
  unfold spaV spaB spaF spaT
  generalize endI At lim cm = ee at *
  generalize movI At N cm f = fi at *
  generalize movI At N cm t = ti at *
  generalize movB At N lim cm f = fb at *
  generalize movB At N lim cm t = tb at *
  cases hfb : fb
  all_goals cases htb : tb
  all_goals subst hfb htb
  · skip
    go_enter Tryd.func77, Tryd.ntmps77
    go_wp2_with (first
      | (go_at_call 51; (with_reducible refine (HM.out _).mono ?_); rintro e w1 ⟨rfl, hF1⟩; have hB1 := HB.out.1.fr hF1; have m0 := hB1.c0; have m1 := hB1.c1; have m2 := hB1.c2; have m3 := hB1.c3; have m4 := hB1.c4; have HF1 : Hid _ := hF1; clear hB1 hF1)
      | (go_at_call 51; (with_reducible refine (HO.out _).mono ?_); rintro e w2 ⟨rfl, hF2⟩; have hF3 := HF1.out.trans hF2; have hB2 := HB.out.1.fr hF3; have n0 := hB2.c0; have n1 := hB2.c1; have n2 := hB2.c2; have n3 := hB2.c3; have n4 := hB2.c4; have HF2 : Hid _ := hF3; clear hB2 hF2 hF3))
    go_ret3
    exact ⟨rfl, HB.out.2.trans HF2.out⟩
  · skip
    go_enter Tryd.func77, Tryd.ntmps77
    go_wp2_with (first
      | (go_at_call 51; (with_reducible refine (HM.out _).mono ?_); rintro e w1 ⟨rfl, hF1⟩; have hB1 := HB.out.1.fr hF1; have m0 := hB1.c0; have m1 := hB1.c1; have m2 := hB1.c2; have m3 := hB1.c3; have m4 := hB1.c4; have HF1 : Hid _ := hF1; clear hB1 hF1)
      | (go_at_call 51; (with_reducible refine (HO.out _).mono ?_); rintro e w2 ⟨rfl, hF2⟩; have hF3 := HF1.out.trans hF2; have hB2 := HB.out.1.fr hF3; have n0 := hB2.c0; have n1 := hB2.c1; have n2 := hB2.c2; have n3 := hB2.c3; have n4 := hB2.c4; have HF2 : Hid _ := hF3; clear hB2 hF2 hF3))
    go_ret3
    exact ⟨rfl, HB.out.2.trans HF2.out⟩
  · skip
    go_enter Tryd.func77, Tryd.ntmps77
    go_wp2_with (first
      | (go_at_call 51; (with_reducible refine (HM.out _).mono ?_); rintro e w1 ⟨rfl, hF1⟩; have hB1 := HB.out.1.fr hF1; have m0 := hB1.c0; have m1 := hB1.c1; have m2 := hB1.c2; have m3 := hB1.c3; have m4 := hB1.c4; have HF1 : Hid _ := hF1; clear hB1 hF1)
      | (go_at_call 51; (with_reducible refine (HO.out _).mono ?_); rintro e w2 ⟨rfl, hF2⟩; have hF3 := HF1.out.trans hF2; have hB2 := HB.out.1.fr hF3; have n0 := hB2.c0; have n1 := hB2.c1; have n2 := hB2.c2; have n3 := hB2.c3; have n4 := hB2.c4; have HF2 : Hid _ := hF3; clear hB2 hF2 hF3)
      | (go_at_call 85; (with_reducible refine (HE.out _).mono ?_); rintro e w3 ⟨rfl, hF4⟩))
    go_ret3
    exact ⟨rfl, HB.out.2.trans (HF2.out.trans hF4)⟩
  · skip
    go_enter Tryd.func77, Tryd.ntmps77
    go_wp2_with (first
      | (go_at_call 51; (with_reducible refine (HM.out _).mono ?_); rintro e w1 ⟨rfl, hF1⟩; have hB1 := HB.out.1.fr hF1; have m0 := hB1.c0; have m1 := hB1.c1; have m2 := hB1.c2; have m3 := hB1.c3; have m4 := hB1.c4; have HF1 : Hid _ := hF1; clear hB1 hF1)
      | (go_at_call 51; (with_reducible refine (HO.out _).mono ?_); rintro e w2 ⟨rfl, hF2⟩; have hF3 := HF1.out.trans hF2; have hB2 := HB.out.1.fr hF3; have n0 := hB2.c0; have n1 := hB2.c1; have n2 := hB2.c2; have n3 := hB2.c3; have n4 := hB2.c4; have HF2 : Hid _ := hF3; clear hB2 hF2 hF3))
    go_ret3
    exact ⟨rfl, HB.out.2.trans HF2.out⟩
/-- Where the lesser line of a reference stands, and the greater one. -/
def endA (ar ac : Bool) (r1 c1 r2 c2 : Int) : Nat := if ar = false then 4 + lnN ac else if (if ac = true then c2 else r2) < (if ac = true then c1 else r1) then 8 + lnN ac else 4 + lnN ac
def endZ (ar ac : Bool) (r1 c1 r2 c2 : Int) : Nat := if ar = false then 4 + lnN ac else if (if ac = true then c2 else r2) < (if ac = true then c1 else r1) then 4 + lnN ac else 8 + lnN ac
set_option maxRecDepth 100000 in
set_option maxHeartbeats 2000000 in
theorem bends_false (At N lim : Int) (cm : Bool) (g : Nat) (t u : ByteArray) (fx ar : Bool) (r1 c1 : Int) (x1 y1 : Bool) (r2 c2 : Int) (x2 y2 : Bool) (w : World) (hR : RAt w g t u fx ar r1 c1 x1 y1 r2 c2 x2 y2) :
    Calls Tryd.prog 76 #[.agg #[.int .i64 At, .int .i64 N, .int .i64 lim, .bool cm, .bool false], .pointer (some ⟨g, 0, none⟩)] w fun e w' => e = .returned (.tuple #[.pointer (some ⟨g, endA ar false r1 c1 r2 c2, none⟩), .pointer (some ⟨g, endZ ar false r1 c1 r2 c2, none⟩)]) ∧ Fr noB w w' := by
  have HL1 : ∀ w, Calls Tryd.prog 84 #[.agg #[.int .i64 At, .int .i64 N, .int .i64 lim, .bool cm, .bool false], .pointer (some ⟨g, 4, none⟩)] w fun e w' => e = .returned (.pointer (some ⟨g, 4, none⟩)) ∧ Fr noB w w' := fun w => line_any At N lim cm false g 4 w
  have HL2 : ∀ w, Calls Tryd.prog 84 #[.agg #[.int .i64 At, .int .i64 N, .int .i64 lim, .bool cm, .bool false], .pointer (some ⟨g, 8, none⟩)] w fun e w' => e = .returned (.pointer (some ⟨g, 8, none⟩)) ∧ Fr noB w w' := fun w => line_any At N lim cm false g 8 w
  obtain ⟨EA, hEA⟩ : ∃ EA, endA ar false r1 c1 r2 c2 = EA := ⟨_, rfl⟩
  obtain ⟨EZ, hEZ⟩ : ∃ EZ, endZ ar false r1 c1 r2 c2 = EZ := ⟨_, rfl⟩
  rw [hEA, hEZ]
  have HE : Hid (endA ar false r1 c1 r2 c2 = EA ∧ endZ ar false r1 c1 r2 c2 = EZ) := ⟨hEA, hEZ⟩
  clear hEA hEZ
  obtain ⟨W0, hW0⟩ : ∃ W0, w.alloc (.cells #[.int .i64 At, .int .i64 N, .int .i64 lim, .bool cm, .bool false] 60 (0, 0)) = W0 := ⟨_, rfl⟩
  have hB : BAt W0 w.heap.size At N lim cm false := by rw [← hW0]; exact ⟨heap_alloc_new w _⟩
  have hF0 : Fr noB w W0 := by rw [← hW0]; exact fr_alloc w _
  have hR0 := hR.fr hF0 id
  have HH : Hid _ := And.intro hB (And.intro hR0 hF0)
  have k0 := hB.c0; have k1 := hB.c1; have k2 := hB.c2; have k3 := hB.c3; have k4 := hB.c4
  clear hB hF0 hR0 hR
  go_enter Tryd.func76, Tryd.ntmps76
  go_wp2_with fail
  go_region_held3 (fun w' => w'.cell? ⟨w.heap.size, 0, none⟩ = some (.int .i64 At) ∧ w'.cell? ⟨w.heap.size, 1, none⟩ = some (.int .i64 N) ∧ w'.cell? ⟨w.heap.size, 2, none⟩ = some (.int .i64 lim) ∧ w'.cell? ⟨w.heap.size, 3, none⟩ = some (.bool cm) ∧ w'.cell? ⟨w.heap.size, 4, none⟩ = some (.bool false)) (first | exact ⟨k0, k1, k2, k3, k4⟩ | exact ⟨m0, m1, m2, m3, m4⟩ | exact ⟨n0, n1, n2, n3, n4⟩)
    (first
      | (go_at_call 84; (with_reducible refine (HL1 _).mono ?_); rintro e w1 ⟨rfl, hF0⟩; have hF1 : Fr noB W0 w1 := ((Fr.refl noB W0).drew).trans hF0; have hB1 := HH.out.1.fr hF1; have m0 := hB1.c0; have m1 := hB1.c1; have m2 := hB1.c2; have m3 := hB1.c3; have m4 := hB1.c4; have HF1 : Hid _ := hF1; clear hF1 hB1 hF0)
      | (go_at_call 84; (with_reducible refine (HL2 _).mono ?_); rintro e w2 ⟨rfl, hF2⟩; have hF3 := HF1.out.trans hF2; have hB2 := HH.out.1.fr hF3; have n0 := hB2.c0; have n1 := hB2.c1; have n2 := hB2.c2; have n3 := hB2.c3; have n4 := hB2.c4; have HF2 : Hid _ := hF3; clear hF2 hF3 hB2))
  have hR2 := HH.out.2.1.fr HF2.out id
  have g3 := hR2.g3; have g4 := hR2.g4; have g5 := hR2.g5; have g8 := hR2.g8; have g9 := hR2.g9
  have HF : Hid _ := HH.out.2.2.trans HF2.out
  clear hR2 HF1 HF2 HH hW0 k0 k1 k2 k3 k4 m0 m1 m2 m3 m4 n0 n1 n2 n3 n4
  cases ar with
  | false =>
    go_wp2_with fail
    go_ret2
    obtain ⟨v1, v2⟩ := HE.out
    rw [← v1, ← v2]
    exact ⟨rfl, HF.out⟩
  | true =>
    by_cases hlt : r2 < r1
    · have e1 : endA true false r1 c1 r2 c2 = 8 := by show (if r2 < r1 then 8 else 4) = _; rw [if_pos hlt]
      have e2 : endZ true false r1 c1 r2 c2 = 4 := by show (if r2 < r1 then 4 else 8) = _; rw [if_pos hlt]
      have HX : Hid _ := And.intro e1 e2
      clear e1 e2
      go_wp2_with fail
      go_quiet (fail)
      go_wp2_with fail
      go_ret2
      obtain ⟨v1, v2⟩ := HE.out
      rw [← v1, ← v2, HX.out.1, HX.out.2]
      exact ⟨rfl, HF.out.drewN _⟩
    · have e1 : endA true false r1 c1 r2 c2 = 4 := by show (if r2 < r1 then 8 else 4) = _; rw [if_neg hlt]
      have e2 : endZ true false r1 c1 r2 c2 = 8 := by show (if r2 < r1 then 4 else 8) = _; rw [if_neg hlt]
      have HX : Hid _ := And.intro e1 e2
      clear e1 e2
      go_wp2_with fail
      go_quiet (fail)
      go_wp2_with fail
      go_ret2
      obtain ⟨v1, v2⟩ := HE.out
      rw [← v1, ← v2, HX.out.1, HX.out.2]
      exact ⟨rfl, HF.out.drewN _⟩
set_option maxRecDepth 100000 in
set_option maxHeartbeats 2000000 in
theorem bends_true (At N lim : Int) (cm : Bool) (g : Nat) (t u : ByteArray) (fx ar : Bool) (r1 c1 : Int) (x1 y1 : Bool) (r2 c2 : Int) (x2 y2 : Bool) (w : World) (hR : RAt w g t u fx ar r1 c1 x1 y1 r2 c2 x2 y2) :
    Calls Tryd.prog 76 #[.agg #[.int .i64 At, .int .i64 N, .int .i64 lim, .bool cm, .bool true], .pointer (some ⟨g, 0, none⟩)] w fun e w' => e = .returned (.tuple #[.pointer (some ⟨g, endA ar true r1 c1 r2 c2, none⟩), .pointer (some ⟨g, endZ ar true r1 c1 r2 c2, none⟩)]) ∧ Fr noB w w' := by
  have HL1 : ∀ w, Calls Tryd.prog 84 #[.agg #[.int .i64 At, .int .i64 N, .int .i64 lim, .bool cm, .bool true], .pointer (some ⟨g, 4, none⟩)] w fun e w' => e = .returned (.pointer (some ⟨g, 5, none⟩)) ∧ Fr noB w w' := fun w => line_any At N lim cm true g 4 w
  have HL2 : ∀ w, Calls Tryd.prog 84 #[.agg #[.int .i64 At, .int .i64 N, .int .i64 lim, .bool cm, .bool true], .pointer (some ⟨g, 8, none⟩)] w fun e w' => e = .returned (.pointer (some ⟨g, 9, none⟩)) ∧ Fr noB w w' := fun w => line_any At N lim cm true g 8 w
  obtain ⟨EA, hEA⟩ : ∃ EA, endA ar true r1 c1 r2 c2 = EA := ⟨_, rfl⟩
  obtain ⟨EZ, hEZ⟩ : ∃ EZ, endZ ar true r1 c1 r2 c2 = EZ := ⟨_, rfl⟩
  rw [hEA, hEZ]
  have HE : Hid (endA ar true r1 c1 r2 c2 = EA ∧ endZ ar true r1 c1 r2 c2 = EZ) := ⟨hEA, hEZ⟩
  clear hEA hEZ
  obtain ⟨W0, hW0⟩ : ∃ W0, w.alloc (.cells #[.int .i64 At, .int .i64 N, .int .i64 lim, .bool cm, .bool true] 60 (0, 0)) = W0 := ⟨_, rfl⟩
  have hB : BAt W0 w.heap.size At N lim cm true := by rw [← hW0]; exact ⟨heap_alloc_new w _⟩
  have hF0 : Fr noB w W0 := by rw [← hW0]; exact fr_alloc w _
  have hR0 := hR.fr hF0 id
  have HH : Hid _ := And.intro hB (And.intro hR0 hF0)
  have k0 := hB.c0; have k1 := hB.c1; have k2 := hB.c2; have k3 := hB.c3; have k4 := hB.c4
  clear hB hF0 hR0 hR
  go_enter Tryd.func76, Tryd.ntmps76
  go_wp2_with fail
  go_region_held3 (fun w' => w'.cell? ⟨w.heap.size, 0, none⟩ = some (.int .i64 At) ∧ w'.cell? ⟨w.heap.size, 1, none⟩ = some (.int .i64 N) ∧ w'.cell? ⟨w.heap.size, 2, none⟩ = some (.int .i64 lim) ∧ w'.cell? ⟨w.heap.size, 3, none⟩ = some (.bool cm) ∧ w'.cell? ⟨w.heap.size, 4, none⟩ = some (.bool true)) (first | exact ⟨k0, k1, k2, k3, k4⟩ | exact ⟨m0, m1, m2, m3, m4⟩ | exact ⟨n0, n1, n2, n3, n4⟩)
    (first
      | (go_at_call 84; (with_reducible refine (HL1 _).mono ?_); rintro e w1 ⟨rfl, hF0⟩; have hF1 : Fr noB W0 w1 := ((Fr.refl noB W0).drew).trans hF0; have hB1 := HH.out.1.fr hF1; have m0 := hB1.c0; have m1 := hB1.c1; have m2 := hB1.c2; have m3 := hB1.c3; have m4 := hB1.c4; have HF1 : Hid _ := hF1; clear hF1 hB1 hF0)
      | (go_at_call 84; (with_reducible refine (HL2 _).mono ?_); rintro e w2 ⟨rfl, hF2⟩; have hF3 := HF1.out.trans hF2; have hB2 := HH.out.1.fr hF3; have n0 := hB2.c0; have n1 := hB2.c1; have n2 := hB2.c2; have n3 := hB2.c3; have n4 := hB2.c4; have HF2 : Hid _ := hF3; clear hF2 hF3 hB2))
  have hR2 := HH.out.2.1.fr HF2.out id
  have g3 := hR2.g3; have g4 := hR2.g4; have g5 := hR2.g5; have g8 := hR2.g8; have g9 := hR2.g9
  have HF : Hid _ := HH.out.2.2.trans HF2.out
  clear hR2 HF1 HF2 HH hW0 k0 k1 k2 k3 k4 m0 m1 m2 m3 m4 n0 n1 n2 n3 n4
  cases ar with
  | false =>
    go_wp2_with fail
    go_ret2
    obtain ⟨v1, v2⟩ := HE.out
    rw [← v1, ← v2]
    exact ⟨rfl, HF.out⟩
  | true =>
    by_cases hlt : c2 < c1
    · have e1 : endA true true r1 c1 r2 c2 = 9 := by show (if c2 < c1 then 9 else 5) = _; rw [if_pos hlt]
      have e2 : endZ true true r1 c1 r2 c2 = 5 := by show (if c2 < c1 then 5 else 9) = _; rw [if_pos hlt]
      have HX : Hid _ := And.intro e1 e2
      clear e1 e2
      go_wp2_with fail
      go_quiet (fail)
      go_wp2_with fail
      go_ret2
      obtain ⟨v1, v2⟩ := HE.out
      rw [← v1, ← v2, HX.out.1, HX.out.2]
      exact ⟨rfl, HF.out.drewN _⟩
    · have e1 : endA true true r1 c1 r2 c2 = 5 := by show (if c2 < c1 then 9 else 5) = _; rw [if_neg hlt]
      have e2 : endZ true true r1 c1 r2 c2 = 9 := by show (if c2 < c1 then 5 else 9) = _; rw [if_neg hlt]
      have HX : Hid _ := And.intro e1 e2
      clear e1 e2
      go_wp2_with fail
      go_quiet (fail)
      go_wp2_with fail
      go_ret2
      obtain ⟨v1, v2⟩ := HE.out
      rw [← v1, ← v2, HX.out.1, HX.out.2]
      exact ⟨rfl, HF.out.drewN _⟩
#print axioms span_any
#print axioms bends_true
end Go.Proofs.YthokhnbecgkpbaaDoor
