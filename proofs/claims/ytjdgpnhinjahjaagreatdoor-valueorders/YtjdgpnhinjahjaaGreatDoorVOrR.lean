/- Compare: the document's. -/
import Derived.Test.YtjdgpnhinjahjaaGreatDoorVOrF
namespace Go.Proofs.YtjdgpnhinjahjaaGreatDoor
open Go.RowKit Ieee Go.Shelf
attribute [local go_sem] run_store_float

def txF (k : Int) (s : ByteArray) : ByteArray := if k = 2 then s else ⟨#[]⟩
def upB (k : Int) (s : ByteArray) : ByteArray := if k = 2 then mvB 97 122 65 s else ⟨#[]⟩
theorem less_cmp : ∀ (a b : List UInt8), (Op.bytesLess a b = true → Lib.compareBytes a b = -1) ∧ (Op.bytesLess a b = false → ¬ a = b → Lib.compareBytes a b = 1) ∧ (a = b → Lib.compareBytes a b = 0)
  | [], [] => by simp [Op.bytesLess, Lib.compareBytes]
  | [], _ :: _ => by simp [Op.bytesLess, Lib.compareBytes]
  | _ :: _, [] => by simp [Op.bytesLess, Lib.compareBytes]
  | x :: a, y :: b => by
    obtain ⟨h1, h2, h3⟩ := less_cmp a b
    unfold Op.bytesLess Lib.compareBytes
    by_cases c1 : x < y
    · have : ¬ x = y := by rintro rfl; exact absurd c1 (by simp [UInt8.lt_irrefl])
      simp [c1, this]
    · by_cases c2 : y < x
      · have : ¬ x = y := by rintro rfl; exact absurd c2 (by simp [UInt8.lt_irrefl])
        simp [c1, c2, this]
      · have he : x = y := UInt8.le_antisymm (UInt8.not_lt.1 c2) (UInt8.not_lt.1 c1)
        subst he
        simp [c1]
        exact ⟨h1, h2, h3⟩
theorem cb_lt {a b : List UInt8} (h : Op.bytesLess a b = true) : Lib.compareBytes a b = -1 := (less_cmp a b).1 h
theorem cb_gt {a b : List UInt8} (h : Op.bytesLess a b = false) (h2 : (!a == b) = true) : Lib.compareBytes a b = 1 := (less_cmp a b).2.1 h (by simpa using h2)
theorem cb_eq {a b : List UInt8} (h2 : (!a == b) = false) : Lib.compareBytes a b = 0 := (less_cmp a b).2.2 (by simpa using h2)
theorem cb_gtn {a : List UInt8} (h2 : (!a.isEmpty) = true) : Lib.compareBytes a [] = 1 := by cases a <;> simp_all [Lib.compareBytes]
theorem cb_eqn {a : List UInt8} (h2 : (!a.isEmpty) = false) : Lib.compareBytes a [] = 0 := by cases a <;> simp_all [Lib.compareBytes]
theorem cb_gtm {b : List UInt8} (h : Op.bytesLess [] b = false) (h2 : (!b.isEmpty) = true) : Lib.compareBytes [] b = 1 := by cases b <;> simp_all [Op.bytesLess]
theorem cb_eqm {b : List UInt8} (h2 : (!b.isEmpty) = false) : Lib.compareBytes [] b = 0 := by cases b <;> simp_all [Lib.compareBytes]
/-- The order of two values. -/
def cmR (k1 : Int) (n1 : Nat) (s1 : ByteArray) (y1 : Bool) (e1 : Int) (k2 : Int) (n2 : Nat) (s2 : ByteArray) (y2 : Bool) (e2 : Int) : Int :=
  if ¬ rkO k1 k2 = rkO k2 k1 then cmpI (rkO k1 k2) (rkO k2 k1)
  else if rkO k1 k2 = 1 then numC (amF k1 n1) (amF k2 n2)
  else if rkO k1 k2 = 2 then Lib.compareBytes (upB k1 s1).data.toList (upB k2 s2).data.toList
  else if rkO k1 k2 = 3 then trC y1 y2
  else if rkO k1 k2 = 4 then cmpI e1 e2
  else 0
set_option maxRecDepth 100000 in
set_option maxHeartbeats 4000000 in
theorem rcompare_any (k1 : Int) (n1 : Nat) (s1 : ByteArray) (y1 : Bool) (e1 : Int) (k2 : Int) (n2 : Nat) (s2 : ByteArray) (y2 : Bool) (e2 : Int) (w : World) (hl1 : s1.size ≤ 140737488355328) (hl2 : s2.size ≤ 140737488355328) :
    Calls Tryz.prog 28 #[(.agg #[.int .i64 k1, .float .f64 n1, .string s1, .bool y1, .int .i64 e1]), (.agg #[.int .i64 k2, .float .f64 n2, .string s2, .bool y2, .int .i64 e2])] w fun e w' => e = .returned (.int .i64 (cmR k1 n1 s1 y1 e1 k2 n2 s2 y2 e2)) ∧ Fr noB w w' := by
  obtain ⟨R, hR⟩ : ∃ R, cmR k1 n1 s1 y1 e1 k2 n2 s2 y2 e2 = R := ⟨_, rfl⟩
  have HR : Hid _ := hR
  rw [hR]
  clear hR
  have U1 := rupper_any s1
  have U2 := rupper_any s2
  have RA := rrank_any k1 n1 s1 y1 e1 k2 n2 s2 y2 e2
  have RB := rrank_any k2 n2 s2 y2 e2 k1 n1 s1 y1 e1
  have HL : Hid _ := And.intro hl1 hl2
  clear hl1 hl2
  go_enter Tryz.func28, Tryz.ntmps28
  go_wp2_with fail
  obtain ⟨W1, hW1⟩ : ∃ W1, w.alloc (.cells #[.int .i64 k1, .float .f64 n1, .string s1, .bool y1, .int .i64 e1] 28 (0, 0)) = W1 := ⟨_, rfl⟩
  have hz1 : W1.heap.size = w.heap.size + 1 := by rw [← hW1]; simp
  have hA1 : VAt W1 w.heap.size k1 n1 s1 y1 e1 := ⟨by rw [← hW1]; exact heap_alloc_new w _⟩
  have hF1 : Fr noB w W1 := by rw [← hW1]; exact (Fr.refl noB w).alloc _
  obtain ⟨wc, hW0⟩ : ∃ W0, W1.alloc (.cells #[.int .i64 k2, .float .f64 n2, .string s2, .bool y2, .int .i64 e2] 28 (0, 0)) = W0 := ⟨_, rfl⟩
  have hO : VAt wc (w.heap.size + 1) k2 n2 s2 y2 e2 := ⟨by rw [← hW0, ← hz1]; exact heap_alloc_new W1 _⟩
  have hF2 : Fr noB W1 wc := by rw [← hW0]; exact (Fr.refl noB W1).alloc _
  have hQ : VAt wc w.heap.size k1 n1 s1 y1 e1 := hA1.fr hF2 id
  have hF0 : Fr noB w wc := hF1.trans hF2
  have HP : Hid _ := And.intro hQ (And.intro hO hF0)
  rw [hW1, hW0]
  clear hW0 hW1 hF1 hF2 hA1 hz1 hQ hO hF0
  have HK : Hid (∀ W, Fr noB wc W → W.cell? ⟨w.heap.size, 0, none⟩ = some (.int .i64 k1) ∧ W.cell? ⟨w.heap.size, 1, none⟩ = some (.float .f64 n1) ∧ W.cell? ⟨w.heap.size, 2, none⟩ = some (.string s1) ∧ W.cell? ⟨w.heap.size, 3, none⟩ = some (.bool y1) ∧ W.cell? ⟨w.heap.size, 4, none⟩ = some (.int .i64 e1) ∧ W.cell? ⟨w.heap.size + 1, 0, none⟩ = some (.int .i64 k2) ∧ W.cell? ⟨w.heap.size + 1, 1, none⟩ = some (.float .f64 n2) ∧ W.cell? ⟨w.heap.size + 1, 2, none⟩ = some (.string s2) ∧ W.cell? ⟨w.heap.size + 1, 3, none⟩ = some (.bool y2) ∧ W.cell? ⟨w.heap.size + 1, 4, none⟩ = some (.int .i64 e2)) := fun W h => ⟨(HP.out.1.fr h id).c0, (HP.out.1.fr h id).c1, (HP.out.1.fr h id).c2, (HP.out.1.fr h id).c3, (HP.out.1.fr h id).c4, (HP.out.2.1.fr h id).c0, (HP.out.2.1.fr h id).c1, (HP.out.2.1.fr h id).c2, (HP.out.2.1.fr h id).c3, (HP.out.2.1.fr h id).c4⟩
  by_cases hne : ¬ rkO k1 k2 = rkO k2 k1
  · have HB : Hid (cmpI (rkO k1 k2) (rkO k2 k1) = R) := show _ = _ by rw [← HR.out]; unfold cmR; rw [if_pos hne]
    clear HR
    generalize rkO k1 k2 = ra at *
    generalize rkO k2 k1 = rb at *
    have q : (ra != rb) = true := by simpa using hne
    clear hne
    go_region_held3 (fun W => W.cell? ⟨w.heap.size, 0, none⟩ = some (.int .i64 k1) ∧ W.cell? ⟨w.heap.size, 1, none⟩ = some (.float .f64 n1) ∧ W.cell? ⟨w.heap.size, 2, none⟩ = some (.string s1) ∧ W.cell? ⟨w.heap.size, 3, none⟩ = some (.bool y1) ∧ W.cell? ⟨w.heap.size, 4, none⟩ = some (.int .i64 e1) ∧ W.cell? ⟨w.heap.size + 1, 0, none⟩ = some (.int .i64 k2) ∧ W.cell? ⟨w.heap.size + 1, 1, none⟩ = some (.float .f64 n2) ∧ W.cell? ⟨w.heap.size + 1, 2, none⟩ = some (.string s2) ∧ W.cell? ⟨w.heap.size + 1, 3, none⟩ = some (.bool y2) ∧ W.cell? ⟨w.heap.size + 1, 4, none⟩ = some (.int .i64 e2))
      (exact HK.out _ (by repeat first | assumption | exact Fr.refl _ _ | exact Fr.drew (by assumption) | exact (Fr.refl _ _).drew | refine Fr.trans ?_ (by assumption) | refine Fr.drew ?_))
      (first
        | (go_at_call 46; with_reducible refine (RA _).mono ?_; rintro e w1 ⟨rfl, hG1⟩)
        | (go_at_call 46; with_reducible refine (RB _).mono ?_; rintro e w2 ⟨rfl, hG2⟩))
    go_wp2_with (go_at_call 47; with_reducible refine (rints_any _ _ _).mono ?_; rintro e w5 ⟨rfl, h5⟩; subst h5)
    go_ret
    rw [← HB.out]
    refine ⟨rfl, ?_⟩
    have hb := HP.out.2.2
    repeat first | assumption | exact Fr.drew (by assumption) | exact (Fr.refl _ _).drew | refine Fr.trans ?_ (by assumption) | refine Fr.drew ?_
  have heq : rkO k1 k2 = rkO k2 k1 := by simpa using hne
  have hu : cmR k1 n1 s1 y1 e1 k2 n2 s2 y2 e2 = R := HR.out
  unfold cmR at hu
  rw [if_neg hne] at hu
  have HRK : Hid (rkO k1 k2 = rkO k2 k1) := heq
  rw [← heq] at RB
  generalize hrb : rkO k1 k2 = m at *
  have HRM : Hid (rkO k1 k2 = m) := hrb
  have HV : Hid ((m = 1 → numC (amF k1 n1) (amF k2 n2) = R) ∧ (m = 2 → Lib.compareBytes (upB k1 s1).data.toList (upB k2 s2).data.toList = R) ∧ (m = 3 → trC y1 y2 = R) ∧ (m = 4 → cmpI e1 e2 = R) ∧ (¬ m = 1 → ¬ m = 2 → ¬ m = 3 → ¬ m = 4 → 0 = R)) := by
    refine ⟨fun h => ?_, fun h => ?_, fun h => ?_, fun h => ?_, fun h1 h2 h3 h4 => ?_⟩
    · rw [if_pos h] at hu
      exact hu
    · rw [if_neg (by omega), if_pos h] at hu
      exact hu
    · rw [if_neg (by omega), if_neg (by omega), if_pos h] at hu
      exact hu
    · rw [if_neg (by omega), if_neg (by omega), if_neg (by omega), if_pos h] at hu
      exact hu
    · rw [if_neg h1, if_neg h2, if_neg h3, if_neg h4] at hu
      exact hu
  clear HR hne hu heq hrb
  have q : (m != m) = false := by simp
  go_region_held3 (fun W => W.cell? ⟨w.heap.size, 0, none⟩ = some (.int .i64 k1) ∧ W.cell? ⟨w.heap.size, 1, none⟩ = some (.float .f64 n1) ∧ W.cell? ⟨w.heap.size, 2, none⟩ = some (.string s1) ∧ W.cell? ⟨w.heap.size, 3, none⟩ = some (.bool y1) ∧ W.cell? ⟨w.heap.size, 4, none⟩ = some (.int .i64 e1) ∧ W.cell? ⟨w.heap.size + 1, 0, none⟩ = some (.int .i64 k2) ∧ W.cell? ⟨w.heap.size + 1, 1, none⟩ = some (.float .f64 n2) ∧ W.cell? ⟨w.heap.size + 1, 2, none⟩ = some (.string s2) ∧ W.cell? ⟨w.heap.size + 1, 3, none⟩ = some (.bool y2) ∧ W.cell? ⟨w.heap.size + 1, 4, none⟩ = some (.int .i64 e2))
    (exact HK.out _ (by repeat first | assumption | exact Fr.refl _ _ | exact Fr.drew (by assumption) | exact (Fr.refl _ _).drew | refine Fr.trans ?_ (by assumption) | refine Fr.drew ?_))
    (first
      | (go_at_call 46; with_reducible refine (RA _).mono ?_; rintro e w1 ⟨rfl, hG1⟩)
      | (go_at_call 46; with_reducible refine (RB _).mono ?_; rintro e w2 ⟨rfl, hG2⟩))
  obtain ⟨g0, g1, g2, g3, g4, j0, j1, j2, j3, j4⟩ := HK.out w2 (by repeat first | assumption | exact Fr.refl _ _ | exact Fr.drew (by assumption) | exact (Fr.refl _ _).drew | refine Fr.trans ?_ (by assumption) | refine Fr.drew ?_)
  by_cases h1 : m = 1
  · have HB : Hid (numC (amF k1 n1) (amF k2 n2) = R) := HV.out.1 h1
    have q1 : (m == 1) = true := by simp [h1]
    clear HV RA RB h1
    have A1 := ramount_any k1 n1 s1 y1 e1
    have A2 := ramount_any k2 n2 s2 y2 e2
    generalize amF k1 n1 = a1 at *
    generalize amF k2 n2 = a2 at *
    have A3 := rnumbers_any a1 a2
    go_wp2_with fail
    go_region_held3 (fun W => W.cell? ⟨w.heap.size, 0, none⟩ = some (.int .i64 k1) ∧ W.cell? ⟨w.heap.size, 1, none⟩ = some (.float .f64 n1) ∧ W.cell? ⟨w.heap.size, 2, none⟩ = some (.string s1) ∧ W.cell? ⟨w.heap.size, 3, none⟩ = some (.bool y1) ∧ W.cell? ⟨w.heap.size, 4, none⟩ = some (.int .i64 e1) ∧ W.cell? ⟨w.heap.size + 1, 0, none⟩ = some (.int .i64 k2) ∧ W.cell? ⟨w.heap.size + 1, 1, none⟩ = some (.float .f64 n2) ∧ W.cell? ⟨w.heap.size + 1, 2, none⟩ = some (.string s2) ∧ W.cell? ⟨w.heap.size + 1, 3, none⟩ = some (.bool y2) ∧ W.cell? ⟨w.heap.size + 1, 4, none⟩ = some (.int .i64 e2))
      (exact HK.out _ (by repeat first | assumption | exact Fr.refl _ _ | exact Fr.drew (by assumption) | exact (Fr.refl _ _).drew | refine Fr.trans ?_ (by assumption) | refine Fr.drew ?_))
      (first
        | (go_at_call 49; with_reducible refine (A1 _).mono ?_; rintro e w3 ⟨rfl, hG3⟩)
        | (go_at_call 49; with_reducible refine (A2 _).mono ?_; rintro e w4 ⟨rfl, hG4⟩)
        | (go_at_call 48; with_reducible refine (A3 _).mono ?_; rintro e w5 ⟨rfl, h5⟩; subst h5))
    all_goals
      go_wp2_with fail
      go_ret
      rw [← HB.out]
      refine ⟨rfl, ?_⟩
      have hb := HP.out.2.2
      repeat first | assumption | exact Fr.drew (by assumption) | exact (Fr.refl _ _).drew | refine Fr.trans ?_ (by assumption) | refine Fr.drew ?_
  by_cases h2 : m = 2
  · have HB : Hid (Lib.compareBytes (upB k1 s1).data.toList (upB k2 s2).data.toList = R) := HV.out.2.1 h2
    have q1 : (m == 1) = false := by rw [beq_eq_false_iff_ne]; omega
    have q2 : (m == 2) = true := by simp [h2]
    have HRM2 : Hid (m = 2) := h2
    clear HV RA RB h1 h2
    have V1 : Hid (∀ W, Calls Tryz.prog 50 #[.string s1] W fun e w' => e = .returned (.string (mvB 97 122 65 s1)) ∧ Fr noB W w') := fun W => U1 W HL.out.1
    have V2 : Hid (∀ W, Calls Tryz.prog 50 #[.string s2] W fun e w' => e = .returned (.string (mvB 97 122 65 s2)) ∧ Fr noB W w') := fun W => U2 W HL.out.2
    clear U1 U2
    by_cases c1 : k1 = 2
    · by_cases c2 : k2 = 2
      · have p1 : (k1 == 2) = true := by simp [c1]
        have p2 : (k2 == 2) = true := by simp [c2]
        rw [show upB k1 s1 = mvB 97 122 65 s1 by unfold upB; rw [if_pos c1], show upB k2 s2 = mvB 97 122 65 s2 by unfold upB; rw [if_pos c2]] at HB
        clear c1 c2
        generalize mvB 97 122 65 s1 = T1 at *
        generalize mvB 97 122 65 s2 = T2 at *
        go_wp2_with (first | (go_at_call 50; with_reducible refine (V1.out _).mono ?_; rintro e w3 ⟨rfl, hG3⟩; obtain ⟨g0, g1, g2, g3, g4, j0, j1, j2, j3, j4⟩ := HK.out w3 (by repeat first | assumption | exact Fr.refl _ _ | exact Fr.drew (by assumption) | exact (Fr.refl _ _).drew | refine Fr.trans ?_ (by assumption) | refine Fr.drew ?_)) | (go_at_call 50; with_reducible refine (V2.out _).mono ?_; rintro e w4 ⟨rfl, hG4⟩; obtain ⟨g0, g1, g2, g3, g4, j0, j1, j2, j3, j4⟩ := HK.out w4 (by repeat first | assumption | exact Fr.refl _ _ | exact Fr.drew (by assumption) | exact (Fr.refl _ _).drew | refine Fr.trans ?_ (by assumption) | refine Fr.drew ?_)))
        all_goals
          go_ret
          refine ⟨ret_int ?_, ?_⟩
          · rw [← HB.out]
            try simp only [ByteArray.toList_eq] at *
            first
              | rfl
              | exact (cb_lt (by assumption)).symm
              | exact (cb_gt (by assumption) (by assumption)).symm
              | exact (cb_eq (by assumption)).symm
              | exact (cb_gtn (by assumption)).symm
              | exact (cb_eqn (by assumption)).symm
              | exact (cb_gtm (by assumption) (by assumption)).symm
              | exact (cb_eqm (by assumption)).symm
          · have hb := HP.out.2.2
            repeat first | assumption | exact Fr.drew (by assumption) | exact (Fr.refl _ _).drew | refine Fr.trans ?_ (by assumption) | refine Fr.drew ?_
      · have p1 : (k1 == 2) = true := by simp [c1]
        have p2 : (k2 == 2) = false := by simpa using c2
        rw [show upB k1 s1 = mvB 97 122 65 s1 by unfold upB; rw [if_pos c1], show upB k2 s2 = ⟨#[]⟩ by unfold upB; rw [if_neg c2]] at HB
        clear c1 c2
        generalize mvB 97 122 65 s1 = T1 at *
        go_wp2_with (first | (go_at_call 50; with_reducible refine (V1.out _).mono ?_; rintro e w3 ⟨rfl, hG3⟩; obtain ⟨g0, g1, g2, g3, g4, j0, j1, j2, j3, j4⟩ := HK.out w3 (by repeat first | assumption | exact Fr.refl _ _ | exact Fr.drew (by assumption) | exact (Fr.refl _ _).drew | refine Fr.trans ?_ (by assumption) | refine Fr.drew ?_)) | (go_at_call 50; with_reducible refine (V2.out _).mono ?_; rintro e w4 ⟨rfl, hG4⟩; obtain ⟨g0, g1, g2, g3, g4, j0, j1, j2, j3, j4⟩ := HK.out w4 (by repeat first | assumption | exact Fr.refl _ _ | exact Fr.drew (by assumption) | exact (Fr.refl _ _).drew | refine Fr.trans ?_ (by assumption) | refine Fr.drew ?_)))
        all_goals
          go_ret
          refine ⟨ret_int ?_, ?_⟩
          · rw [← HB.out]
            try simp only [ByteArray.toList_eq] at *
            first
              | rfl
              | exact (cb_lt (by assumption)).symm
              | exact (cb_gt (by assumption) (by assumption)).symm
              | exact (cb_eq (by assumption)).symm
              | exact (cb_gtn (by assumption)).symm
              | exact (cb_eqn (by assumption)).symm
              | exact (cb_gtm (by assumption) (by assumption)).symm
              | exact (cb_eqm (by assumption)).symm
          · have hb := HP.out.2.2
            repeat first | assumption | exact Fr.drew (by assumption) | exact (Fr.refl _ _).drew | refine Fr.trans ?_ (by assumption) | refine Fr.drew ?_
    · by_cases c2 : k2 = 2
      · have p1 : (k1 == 2) = false := by simpa using c1
        have p2 : (k2 == 2) = true := by simp [c2]
        rw [show upB k1 s1 = ⟨#[]⟩ by unfold upB; rw [if_neg c1], show upB k2 s2 = mvB 97 122 65 s2 by unfold upB; rw [if_pos c2]] at HB
        clear c1 c2
        generalize mvB 97 122 65 s2 = T2 at *
        go_wp2_with (first | (go_at_call 50; with_reducible refine (V1.out _).mono ?_; rintro e w3 ⟨rfl, hG3⟩; obtain ⟨g0, g1, g2, g3, g4, j0, j1, j2, j3, j4⟩ := HK.out w3 (by repeat first | assumption | exact Fr.refl _ _ | exact Fr.drew (by assumption) | exact (Fr.refl _ _).drew | refine Fr.trans ?_ (by assumption) | refine Fr.drew ?_)) | (go_at_call 50; with_reducible refine (V2.out _).mono ?_; rintro e w4 ⟨rfl, hG4⟩; obtain ⟨g0, g1, g2, g3, g4, j0, j1, j2, j3, j4⟩ := HK.out w4 (by repeat first | assumption | exact Fr.refl _ _ | exact Fr.drew (by assumption) | exact (Fr.refl _ _).drew | refine Fr.trans ?_ (by assumption) | refine Fr.drew ?_)))
        all_goals
          go_ret
          refine ⟨ret_int ?_, ?_⟩
          · rw [← HB.out]
            try simp only [ByteArray.toList_eq] at *
            first
              | rfl
              | exact (cb_lt (by assumption)).symm
              | exact (cb_gt (by assumption) (by assumption)).symm
              | exact (cb_eq (by assumption)).symm
              | exact (cb_gtn (by assumption)).symm
              | exact (cb_eqn (by assumption)).symm
              | exact (cb_gtm (by assumption) (by assumption)).symm
              | exact (cb_eqm (by assumption)).symm
          · have hb := HP.out.2.2
            repeat first | assumption | exact Fr.drew (by assumption) | exact (Fr.refl _ _).drew | refine Fr.trans ?_ (by assumption) | refine Fr.drew ?_
      · have p1 : (k1 == 2) = false := by simpa using c1
        have p2 : (k2 == 2) = false := by simpa using c2
        rw [show upB k1 s1 = ⟨#[]⟩ by unfold upB; rw [if_neg c1], show upB k2 s2 = ⟨#[]⟩ by unfold upB; rw [if_neg c2]] at HB
        clear c1 c2
        go_wp2_with fail
        all_goals
          go_ret
          refine ⟨ret_int ?_, ?_⟩
          · rw [← HB.out]
            try simp only [ByteArray.toList_eq] at *
            first
              | rfl
              | exact (cb_lt (by assumption)).symm
              | exact (cb_gt (by assumption) (by assumption)).symm
              | exact (cb_eq (by assumption)).symm
              | exact (cb_gtn (by assumption)).symm
              | exact (cb_eqn (by assumption)).symm
              | exact (cb_gtm (by assumption) (by assumption)).symm
              | exact (cb_eqm (by assumption)).symm
          · have hb := HP.out.2.2
            repeat first | assumption | exact Fr.drew (by assumption) | exact (Fr.refl _ _).drew | refine Fr.trans ?_ (by assumption) | refine Fr.drew ?_
  by_cases h3 : m = 3
  · have HB : Hid (trC y1 y2 = R) := HV.out.2.2.1 h3
    have q1 : (m == 1) = false := by rw [beq_eq_false_iff_ne]; omega
    have q2 : (m == 2) = false := by rw [beq_eq_false_iff_ne]; omega
    have q3 : (m == 3) = true := by simp [h3]
    clear HV RA RB h1 h2 h3
    have A1 := rtruth_any y1
    have A2 := rtruth_any y2
    have A3 := rints_any (if y1 = true then 1 else 0) (if y2 = true then 1 else 0)
    rw [cmpI_truth] at A3
    generalize (if y1 = true then (1 : Int) else 0) = a1 at *
    generalize (if y2 = true then (1 : Int) else 0) = a2 at *
    generalize trC y1 y2 = cb at *
    go_wp2_with fail
    go_region_held3 (fun W => W.cell? ⟨w.heap.size, 0, none⟩ = some (.int .i64 k1) ∧ W.cell? ⟨w.heap.size, 1, none⟩ = some (.float .f64 n1) ∧ W.cell? ⟨w.heap.size, 2, none⟩ = some (.string s1) ∧ W.cell? ⟨w.heap.size, 3, none⟩ = some (.bool y1) ∧ W.cell? ⟨w.heap.size, 4, none⟩ = some (.int .i64 e1) ∧ W.cell? ⟨w.heap.size + 1, 0, none⟩ = some (.int .i64 k2) ∧ W.cell? ⟨w.heap.size + 1, 1, none⟩ = some (.float .f64 n2) ∧ W.cell? ⟨w.heap.size + 1, 2, none⟩ = some (.string s2) ∧ W.cell? ⟨w.heap.size + 1, 3, none⟩ = some (.bool y2) ∧ W.cell? ⟨w.heap.size + 1, 4, none⟩ = some (.int .i64 e2))
      (exact HK.out _ (by repeat first | assumption | exact Fr.refl _ _ | exact Fr.drew (by assumption) | exact (Fr.refl _ _).drew | refine Fr.trans ?_ (by assumption) | refine Fr.drew ?_))
      (first
        | (go_at_call 51; with_reducible refine (A1 _).mono ?_; rintro e w3 ⟨rfl, h3⟩; subst h3)
        | (go_at_call 51; with_reducible refine (A2 _).mono ?_; rintro e w4 ⟨rfl, h4⟩; subst h4)
        | (go_at_call 47; with_reducible refine (A3 _).mono ?_; rintro e w5 ⟨rfl, h5⟩; subst h5))
    all_goals
      go_wp2_with fail
      go_ret
      rw [← HB.out]
      refine ⟨rfl, ?_⟩
      have hb := HP.out.2.2
      repeat first | assumption | exact Fr.drew (by assumption) | exact (Fr.refl _ _).drew | refine Fr.trans ?_ (by assumption) | refine Fr.drew ?_
  by_cases h4 : m = 4
  · have HB : Hid (cmpI e1 e2 = R) := HV.out.2.2.2.1 h4
    have q1 : (m == 1) = false := by rw [beq_eq_false_iff_ne]; omega
    have q2 : (m == 2) = false := by rw [beq_eq_false_iff_ne]; omega
    have q3 : (m == 3) = false := by rw [beq_eq_false_iff_ne]; omega
    have q4 : (m == 4) = true := by simp [h4]
    clear HV RA RB h1 h2 h3 h4
    go_wp2_with (go_at_call 47; with_reducible refine (rints_any _ _ _).mono ?_; rintro e w5 ⟨rfl, h5⟩; subst h5)
    go_ret
    rw [← HB.out]
    refine ⟨rfl, ?_⟩
    have hb := HP.out.2.2
    repeat first | assumption | exact Fr.drew (by assumption) | exact (Fr.refl _ _).drew | refine Fr.trans ?_ (by assumption) | refine Fr.drew ?_
  have HB : Hid (0 = R) := HV.out.2.2.2.2 h1 h2 h3 h4
  have q1 : (m == 1) = false := by rw [beq_eq_false_iff_ne]; omega
  have q2 : (m == 2) = false := by rw [beq_eq_false_iff_ne]; omega
  have q3 : (m == 3) = false := by rw [beq_eq_false_iff_ne]; omega
  have q4 : (m == 4) = false := by rw [beq_eq_false_iff_ne]; omega
  clear HV RA RB h1 h2 h3 h4
  go_wp2_with fail
  go_ret
  rw [← HB.out]
  refine ⟨rfl, ?_⟩
  have hb := HP.out.2.2
  repeat first | assumption | exact Fr.drew (by assumption) | exact (Fr.refl _ _).drew | refine Fr.trans ?_ (by assumption) | refine Fr.drew ?_
#print axioms rcompare_any
end Go.Proofs.YtjdgpnhinjahjaaGreatDoor
