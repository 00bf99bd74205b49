/- Which arguments may be: the program's laid. -/
import Derived.Test.YtaobnfjkggpdlaaGreatDoorAPck
import Derived.Deep.LoopGhost
namespace Go.Proofs.YtaobnfjkggpdlaaGreatDoor
open Go.RowKit Ieee Go.Shelf
attribute [local go_sem] run_store_float

def laidB (ms : Bool) (r c : Int) (P : List Pl) : Bool :=
  if r < 1 ∨ 1048576 < r ∨ c < 1 ∨ 1024 < c then false else if ms = true ∧ (1 < r ∨ 1 < c ∨ 0 < P.length) then false else laidF r c 0 P
/-- An argument's cells in a block. -/
structure GAt (w : World) (B : Nat) (rf ms : Bool) (r c : Int) (ao : Option Addr) (n cap : Nat) : Prop where
  o : w.heap[B]? = some (.cells #[.bool rf, .bool ms, .int .i64 r, .int .i64 c, .slice ao n cap] 27 (0, 0))
theorem GAt.fr {S : Nat → Prop} {w w' : World} {B : Nat} {rf ms : Bool} {r c : Int} {ao : Option Addr} {n cap : Nat} (h : GAt w B rf ms r c ao n cap) (hF : Fr S w w') (hB : ¬ S B) : GAt w' B rf ms r c ao n cap := ⟨hF.obj h.o hB⟩
section
variable {w : World} {B : Nat} {rf ms : Bool} {r c : Int} {ao : Option Addr} {n cap : Nat} (h : GAt w B rf ms r c ao n cap)
include h
theorem GAt.c0 : w.cell? ⟨B, 0, none⟩ = some (.bool rf) := cellOf (o := 0) h.o rfl
theorem GAt.c1 : w.cell? ⟨B, 1, none⟩ = some (.bool ms) := cellOf (o := 1) h.o rfl
theorem GAt.c2 : w.cell? ⟨B, 2, none⟩ = some (.int .i64 r) := cellOf (o := 2) h.o rfl
theorem GAt.c3 : w.cell? ⟨B, 3, none⟩ = some (.int .i64 c) := cellOf (o := 3) h.o rfl
theorem GAt.c4 : w.cell? ⟨B, 4, none⟩ = some (.slice ao n cap) := cellOf (o := 4) h.o rfl
end
theorem laidF_bad {r c nx : Int} {P : List Pl} {k : Nat} (hk : k < P.length) (h : plOk r c P[k] = false) : laidF r c nx (P.drop k) = false := by
  rw [laidF_drop r c nx P k hk, h]
  rfl
theorem laidF_low {r c nx : Int} {P : List Pl} {k : Nat} (hk : k < P.length) (h : P[k].r * c + P[k].c < nx) : laidF r c nx (P.drop k) = false := by
  rw [laidF_drop r c nx P k hk, decide_eq_false (show ¬ nx ≤ P[k].r * c + P[k].c by omega), Bool.and_false, Bool.false_and]
theorem laidF_on {r c nx : Int} {P : List Pl} {k : Nat} (hk : k < P.length) (h : plOk r c P[k] = true) (h2 : nx ≤ P[k].r * c + P[k].c) : laidF r c nx (P.drop k) = laidF r c (P[k].r * c + P[k].c + 1) (P.drop (k + 1)) := by
  rw [laidF_drop r c nx P k hk, h, decide_eq_true h2]
  rfl
theorem place_range {r c a b : Int} (h1 : 0 ≤ a) (h2 : a < r) (h3 : 0 ≤ b) (h4 : b < c) (h5 : r ≤ 1048576) (h6 : c ≤ 1024) : 0 ≤ a * c ∧ a * c ≤ 1073741824 := by
  refine ⟨Int.mul_nonneg h1 (by omega), ?_⟩
  have k1 := Int.mul_le_mul_of_nonneg_right (show a ≤ 1048576 by omega) (show 0 ≤ c by omega)
  omega
set_option maxRecDepth 100000 in
set_option maxHeartbeats 4000000 in
theorem laid_false (rf : Bool) (r c : Int) (ao : Option Addr) (cap : Nat) (P : List Pl) (w : World) (hA : PsAt w ao P) (hl : P.length ≤ 140737488355328) (h1 : ¬ r < 1) (h2 : ¬ 1048576 < r) (h3 : ¬ c < 1) (h4 : ¬ 1024 < c) :
    Calls Tryz.prog 41 #[.agg #[.bool rf, .bool false, .int .i64 r, .int .i64 c, .slice ao P.length cap]] w fun e w' => e = .returned (.bool (laidF r c 0 P)) ∧ Fr noB w w' := by
  have hA0 : GAt (w.alloc (.cells #[.bool rf, .bool false, .int .i64 r, .int .i64 c, .slice ao P.length cap] 27 (0, 0))) w.heap.size rf false r c ao P.length cap := ⟨new1 _ _ _ rfl⟩
  have HA : Hid (PsAt w ao P) := hA
  have HB : Hid (∀ W, Fr noB (w.alloc (.cells #[.bool rf, .bool false, .int .i64 r, .int .i64 c, .slice ao P.length cap] 27 (0, 0))) W → GAt W w.heap.size rf false r c ao P.length cap) := fun W h => hA0.fr h id
  have HF0 : Hid (Fr noB w (w.alloc (.cells #[.bool rf, .bool false, .int .i64 r, .int .i64 c, .slice ao P.length cap] 27 (0, 0)))) := (Fr.refl noB w).alloc _
  clear hA hA0
  obtain ⟨n, hn⟩ : ∃ n, P.length = n := ⟨_, rfl⟩
  have HN : Hid (P.length = n) := hn
  rw [hn] at hl HB HF0 ⊢
  clear hn
  go_enter Tryz.func41, Tryz.ntmps41
  go_wp2_with fail
  generalize w.alloc (.cells #[.bool rf, .bool false, .int .i64 r, .int .i64 c, .slice ao n cap] 27 (0, 0)) = W0 at HB HF0 ⊢
  go_loopg [3, 46] n (fun gh nv iv wr => ∃ (k : Nat) (nx : Int), k ≤ n ∧ gh = n - k ∧ nv = .int .i64 nx ∧ iv = .int .i64 (k : Int) ∧ Hid (laidF r c 0 P = laidF r c nx (P.drop k)) ∧ 0 ≤ nx ∧ nx ≤ 1073750000 ∧ Fr noB W0 wr)
  case atStart => exact ⟨0, 0, Nat.zero_le _, rfl, rfl, rfl, rfl, by decide, by decide, Fr.refl _ _⟩
  case round =>
    obtain ⟨k, nx, hk, rfl, rfl, rfl, HL, hn0, hn1, hF⟩ := hrel
    by_cases hlt : k < n
    · obtain ⟨b, off, rfl, hb, c0, c1, c2, c3, c4, c5, c6⟩ := (HA.out.keep (HF0.out.trans hF)).get k (by rw [HN.out]; exact hlt)
      obtain ⟨p, hp⟩ : ∃ p, P[k]'(by rw [HN.out]; exact hlt) = p := ⟨_, rfl⟩
      have HP : Hid (∃ h : k < P.length, P[k] = p) := ⟨by rw [HN.out]; exact hlt, hp⟩
      rw [hp] at c0 c1 c2 c3 c4 c5 c6
      clear hp
      obtain ⟨pr, pc, ⟨vk, vn, vs, vy, ve⟩⟩ := p
      simp only at c0 c1 c2 c3 c4 c5 c6
      have HF : Hid (Fr noB W0 wr) := hF
      have HBad : Hid (plOk r c ⟨pr, pc, ⟨vk, vn, vs, vy, ve⟩⟩ = false → laidF r c 0 P = false) := fun h => by
        obtain ⟨h1, h2⟩ := HP.out
        rw [HL.out]
        exact laidF_bad h1 (by rw [h2]; exact h)
      have z1 : (wr.alloc (.cells #[.int .i64 pr, .int .i64 pc, .int .i64 vk, .float .f64 vn, .string vs, .bool vy, .int .i64 ve] 69 (0, 0))).cell? ⟨w.heap.size, 2, none⟩ = some (.int .i64 r) := (HB.out _ (hF.alloc _)).c2
      have z2 : (wr.alloc (.cells #[.int .i64 pr, .int .i64 pc, .int .i64 vk, .float .f64 vn, .string vs, .bool vy, .int .i64 ve] 69 (0, 0))).cell? ⟨w.heap.size, 3, none⟩ = some (.int .i64 c) := (HB.out _ (hF.alloc _)).c3
      clear hF
      by_cases q1 : pr < 0
      · have E1 : Hid (laidF r c 0 P = false) := HBad.out (by simp only [plOk, decide_eq_false_iff_not]; omega)
        skip
        go_wp2_with fail
        go_ret
        rw [E1.out]
        exact ⟨rfl, HF0.out.trans (HF.out.alloc _)⟩
      by_cases q2 : r ≤ pr
      · have E1 : Hid (laidF r c 0 P = false) := HBad.out (by simp only [plOk, decide_eq_false_iff_not]; omega)
        skip
        go_wp2_with fail
        go_ret
        rw [E1.out]
        exact ⟨rfl, HF0.out.trans (HF.out.alloc _)⟩
      by_cases q3 : pc < 0
      · have E1 : Hid (laidF r c 0 P = false) := HBad.out (by simp only [plOk, decide_eq_false_iff_not]; omega)
        skip
        go_wp2_with fail
        go_ret
        rw [E1.out]
        exact ⟨rfl, HF0.out.trans (HF.out.alloc _)⟩
      by_cases q4 : c ≤ pc
      · have E1 : Hid (laidF r c 0 P = false) := HBad.out (by simp only [plOk, decide_eq_false_iff_not]; omega)
        skip
        go_wp2_with fail
        go_ret
        rw [E1.out]
        exact ⟨rfl, HF0.out.trans (HF.out.alloc _)⟩
      by_cases q5 : vk = 0
      · have E1 : Hid (laidF r c 0 P = false) := HBad.out (by simp only [plOk, decide_eq_false_iff_not]; omega)
        subst q5
        go_wp2_with fail
        go_ret
        rw [E1.out]
        exact ⟨rfl, HF0.out.trans (HF.out.alloc _)⟩
      have hok : plOk r c ⟨pr, pc, ⟨vk, vn, vs, vy, ve⟩⟩ = true := by simp only [plOk, decide_eq_true_eq]; omega
      have q5b : (vk == 0) = false := by simp [q5]
      obtain ⟨g1, g2⟩ := place_range (show 0 ≤ pr by omega) (show pr < r by omega) (show 0 ≤ pc by omega) (show pc < c by omega) (show r ≤ 1048576 by omega) (show c ≤ 1024 by omega)
      have HOn : Hid (nx ≤ pr * c + pc → laidF r c 0 P = laidF r c (pr * c + pc + 1) (P.drop (k + 1))) := fun h => by
        obtain ⟨h1, h2⟩ := HP.out
        rw [HL.out, laidF_on h1 (by rw [h2]; exact hok) (by rw [h2]; exact h), h2]
      have HLow : Hid (pr * c + pc < nx → laidF r c 0 P = false) := fun h => by
        obtain ⟨h1, h2⟩ := HP.out
        rw [HL.out]
        exact laidF_low h1 (by rw [h2]; exact h)
      obtain ⟨mm, hmm⟩ : ∃ mm, pr * c = mm := ⟨_, rfl⟩
      have HO2 : Hid (nx ≤ mm + pc → laidF r c 0 P = laidF r c (mm + pc + 1) (P.drop (k + 1))) := by rw [← hmm]; exact HOn.out
      have HL2 : Hid (mm + pc < nx → laidF r c 0 P = false) := by rw [← hmm]; exact HLow.out
      rw [hmm] at g1 g2
      clear hok HOn HLow
      by_cases q6 : mm + pc < nx
      · have E1 : Hid (laidF r c 0 P = false) := HL2.out q6
        go_wp2_with fail
        go_ret
        rw [E1.out]
        exact ⟨rfl, HF0.out.trans (HF.out.alloc _)⟩
      · have E1 : Hid (laidF r c 0 P = laidF r c (mm + pc + 1) (P.drop (k + 1))) := HO2.out (by omega)
        go_wp2_with fail
        go_roundg (n - (k + 1))
        case measure => omega
        case rel => exact ⟨k + 1, mm + pc + 1, by omega, rfl, by go_num, by go_num, E1, by omega, by omega, HF.out.alloc _⟩
    · obtain rfl : k = n := by omega
      go_wp2_with fail
      go_ret
      have he : laidF r c 0 P = true := by rw [HL.out, ← HN.out, List.drop_length]; rfl
      rw [he]
      exact ⟨rfl, HF0.out.trans hF⟩
set_option maxRecDepth 100000 in
set_option maxHeartbeats 4000000 in
theorem laid_true (rf : Bool) (r c : Int) (ao : Option Addr) (cap : Nat) (P : List Pl) (w : World) (hA : PsAt w ao P) (hl : P.length ≤ 140737488355328) (h1 : ¬ r < 1) (h2 : ¬ 1048576 < r) (h3 : ¬ c < 1) (h4 : ¬ 1024 < c) (m1 : ¬ 1 < r) (m2 : ¬ 1 < c) (m3 : ¬ 0 < P.length) :
    Calls Tryz.prog 41 #[.agg #[.bool rf, .bool true, .int .i64 r, .int .i64 c, .slice ao P.length cap]] w fun e w' => e = .returned (.bool (laidF r c 0 P)) ∧ Fr noB w w' := by
  have hA0 : GAt (w.alloc (.cells #[.bool rf, .bool true, .int .i64 r, .int .i64 c, .slice ao P.length cap] 27 (0, 0))) w.heap.size rf true r c ao P.length cap := ⟨new1 _ _ _ rfl⟩
  have HA : Hid (PsAt w ao P) := hA
  have HB : Hid (∀ W, Fr noB (w.alloc (.cells #[.bool rf, .bool true, .int .i64 r, .int .i64 c, .slice ao P.length cap] 27 (0, 0))) W → GAt W w.heap.size rf true r c ao P.length cap) := fun W h => hA0.fr h id
  have HF0 : Hid (Fr noB w (w.alloc (.cells #[.bool rf, .bool true, .int .i64 r, .int .i64 c, .slice ao P.length cap] 27 (0, 0)))) := (Fr.refl noB w).alloc _
  clear hA hA0
  obtain ⟨n, hn⟩ : ∃ n, P.length = n := ⟨_, rfl⟩
  have HN : Hid (P.length = n) := hn
  rw [hn] at hl HB HF0 m3 ⊢
  clear hn
  have m4 : ¬ 0 < (n : Int) := by omega
  go_enter Tryz.func41, Tryz.ntmps41
  go_wp2_with fail
  generalize w.alloc (.cells #[.bool rf, .bool true, .int .i64 r, .int .i64 c, .slice ao n cap] 27 (0, 0)) = W0 at HB HF0 ⊢
  go_loopg [3, 46] n (fun gh nv iv wr => ∃ (k : Nat) (nx : Int), k ≤ n ∧ gh = n - k ∧ nv = .int .i64 nx ∧ iv = .int .i64 (k : Int) ∧ Hid (laidF r c 0 P = laidF r c nx (P.drop k)) ∧ 0 ≤ nx ∧ nx ≤ 1073750000 ∧ Fr noB W0 wr)
  case atStart => exact ⟨0, 0, Nat.zero_le _, rfl, rfl, rfl, rfl, by decide, by decide, Fr.refl _ _⟩
  case round =>
    obtain ⟨k, nx, hk, rfl, rfl, rfl, HL, hn0, hn1, hF⟩ := hrel
    by_cases hlt : k < n
    · exfalso; omega
    · obtain rfl : k = n := by omega
      go_wp2_with fail
      go_ret
      have he : laidF r c 0 P = true := by rw [HL.out, ← HN.out, List.drop_length]; rfl
      rw [he]
      exact ⟨rfl, HF0.out.trans hF⟩
set_option maxRecDepth 100000 in
set_option maxHeartbeats 4000000 in
theorem laid_any (rf ms : Bool) (r c : Int) (ao : Option Addr) (cap : Nat) (P : List Pl) (w : World) (hA : PsAt w ao P) (hl : P.length ≤ 140737488355328) :
    Calls Tryz.prog 41 #[.agg #[.bool rf, .bool ms, .int .i64 r, .int .i64 c, .slice ao P.length cap]] w fun e w' => e = .returned (.bool (laidB ms r c P)) ∧ Fr noB w w' := by
  have hF0 : Fr noB w (w.alloc (.cells #[.bool rf, .bool ms, .int .i64 r, .int .i64 c, .slice ao P.length cap] 27 (0, 0))) := (Fr.refl noB w).alloc _
  by_cases h1 : r < 1
  · have e1 : laidB ms r c P = false := by simp [laidB, h1]
    rw [e1]
    clear hA
    go_enter Tryz.func41, Tryz.ntmps41
    go_wp2_with fail
    go_ret
    exact ⟨rfl, hF0⟩
  by_cases h2 : 1048576 < r
  · have e1 : laidB ms r c P = false := by simp [laidB, h2]
    rw [e1]
    clear hA
    go_enter Tryz.func41, Tryz.ntmps41
    go_wp2_with fail
    go_ret
    exact ⟨rfl, hF0⟩
  by_cases h3 : c < 1
  · have e1 : laidB ms r c P = false := by simp [laidB, h3]
    rw [e1]
    clear hA
    go_enter Tryz.func41, Tryz.ntmps41
    go_wp2_with fail
    go_ret
    exact ⟨rfl, hF0⟩
  by_cases h4 : 1024 < c
  · have e1 : laidB ms r c P = false := by simp [laidB, h4]
    rw [e1]
    clear hA
    go_enter Tryz.func41, Tryz.ntmps41
    go_wp2_with fail
    go_ret
    exact ⟨rfl, hF0⟩
  have hrc : ¬ (r < 1 ∨ 1048576 < r ∨ c < 1 ∨ 1024 < c) := by omega
  cases ms with
  | false =>
    have e1 : laidB false r c P = laidF r c 0 P := by simp only [laidB]; rw [if_neg hrc, if_neg (by simp)]
    rw [e1]
    exact laid_false rf r c ao cap P w hA hl h1 h2 h3 h4
  | true =>
    by_cases m1 : 1 < r
    · have e1 : laidB true r c P = false := by simp only [laidB]; rw [if_neg hrc, if_pos ⟨trivial, by omega⟩]
      rw [e1]
      skip
      clear hA
      go_enter Tryz.func41, Tryz.ntmps41
      go_wp2_with fail
      go_ret
      exact ⟨rfl, hF0⟩
    by_cases m2 : 1 < c
    · have e1 : laidB true r c P = false := by simp only [laidB]; rw [if_neg hrc, if_pos ⟨trivial, by omega⟩]
      rw [e1]
      skip
      clear hA
      go_enter Tryz.func41, Tryz.ntmps41
      go_wp2_with fail
      go_ret
      exact ⟨rfl, hF0⟩
    by_cases m3 : 0 < P.length
    · have e1 : laidB true r c P = false := by simp only [laidB]; rw [if_neg hrc, if_pos ⟨trivial, by omega⟩]
      rw [e1]
      have m5 : 0 < (P.length : Int) := by omega
      clear hA
      go_enter Tryz.func41, Tryz.ntmps41
      go_wp2_with fail
      go_ret
      exact ⟨rfl, hF0⟩
    have e1 : laidB true r c P = laidF r c 0 P := by simp only [laidB]; rw [if_neg hrc, if_neg (by omega)]
    rw [e1]
    exact laid_true rf r c ao cap P w hA hl h1 h2 h3 h4 m1 m2 m3
#print axioms laid_any
end Go.Proofs.YtaobnfjkggpdlaaGreatDoor
