/- The order of values: what it leans on. -/
import Derived.Test.YtjdgpnhinjahjaaGreatDoorVRec
import Derived.Test.YtjdgpnhinjahjaaGreatDoorVMov
namespace Go.Proofs.YtjdgpnhinjahjaaGreatDoor
open Go.RowKit Ieee Go.Shelf
attribute [local go_sem] run_store_float

/-- Numbers by size, a NaN ahead of all others. -/
def nanB (x : Nat) : Bool := double.order x x != some .eq
def numC (a b : Nat) : Int := if nanB a = true then (if nanB b = true then 0 else -1) else if nanB b = true then 1 else if (double.order a b == some .lt) = true then -1 else if (double.order a b == some .gt) = true then 1 else 0
def cmpI (a b : Int) : Int := if a < b then -1 else if b < a then 1 else 0
def trC (a b : Bool) : Int := if a = b then 0 else if b = true then -1 else 1
set_option maxRecDepth 100000 in
theorem isNaNI (x : Int) (w : World) : Calls Tryz.prog 58 #[.int .i64 x] w fun e w' => e = .returned (.bool false) ∧ w' = w := by
  go_enter Tryz.func58, Tryz.ntmps58
  go_wp2_with fail
  go_ret
  exact ⟨ret_bool (by simp), rfl⟩
set_option maxRecDepth 100000 in
theorem isNaNF (x : Nat) (w : World) : Calls Tryz.prog 59 #[.float .f64 x] w fun e w' => e = .returned (.bool (nanB x)) ∧ w' = w := by
  go_enter Tryz.func59, Tryz.ntmps59
  go_wp2_with fail
  go_ret
  exact ⟨rfl, rfl⟩
set_option maxRecDepth 100000 in
set_option maxHeartbeats 1000000 in
theorem cmpI_any (a b : Int) (w : World) : Calls Tryz.prog 41 #[.int .i64 a, .int .i64 b] w fun e w' => e = .returned (.int .i64 (cmpI a b)) ∧ w' = w := by
  have H := isNaNI
  go_enter Tryz.func41, Tryz.ntmps41
  go_wp2_with (go_at_call 58; refine (H _ _).mono ?_; rintro e w1 ⟨rfl, rfl⟩)
  all_goals
    go_ret
    refine ⟨ret_int ?_, rfl⟩
    unfold cmpI
    repeat' split
    all_goals omega
set_option maxRecDepth 100000 in
set_option maxHeartbeats 1000000 in
theorem cmpF_any (a b : Nat) (w : World) : Calls Tryz.prog 42 #[.float .f64 a, .float .f64 b] w fun e w' => e = .returned (.int .i64 (numC a b)) ∧ w' = w := by
  have H1 := isNaNF a
  have H2 := isNaNF b
  unfold numC
  have hl : (FloatKind.f64.format.order a b == some .lt) = (double.order a b == some .lt) := rfl
  have hg : (FloatKind.f64.format.order a b == some .gt) = (double.order a b == some .gt) := rfl
  generalize nanB a = na at *
  generalize nanB b = nb at *
  generalize (double.order a b == some .lt) = lt at *
  generalize (double.order a b == some .gt) = gt at *
  cases na <;> cases nb <;> cases lt <;> cases gt
  all_goals
    go_enter Tryz.func42, Tryz.ntmps42
    go_wp2_with (first | (go_at_call_of 59 (Value.float .f64 a); with_reducible refine (H1 _).mono ?_; rintro e w1 ⟨rfl, rfl⟩) | (go_at_call 59; with_reducible refine (H2 _).mono ?_; rintro e w1 ⟨rfl, rfl⟩))
    go_ret
    exact ⟨ret_int (by simp), rfl⟩
def rk1 (k : Int) : Int := if 1 ≤ k ∧ k ≤ 4 then k else 0
set_option maxRecDepth 100000 in
set_option maxHeartbeats 1000000 in
theorem rank_any (k : Int) (n : Nat) (s : ByteArray) (y : Bool) (c : Int) (w : World) : Calls Tryz.prog 40 #[(.agg #[.int .i64 k, .float .f64 n, .string s, .bool y, .int .i64 c])] w fun e w' => e = .returned (.int .i64 (rk1 k)) ∧ Fr noB w w' := by
  have h : k = 1 ∨ k = 2 ∨ k = 3 ∨ k = 4 ∨ (k < 1 ∨ 4 < k) := by omega
  rcases h with rfl | rfl | rfl | rfl | h
  case inr.inr.inr.inr =>
    have hr : rk1 k = 0 := by unfold rk1; rw [if_neg (by omega)]
    rw [hr]
    have q1 : (k == 1) = false := by rw [beq_eq_false_iff_ne]; omega
    have q2 : (k == 2) = false := by rw [beq_eq_false_iff_ne]; omega
    have q3 : (k == 3) = false := by rw [beq_eq_false_iff_ne]; omega
    have q4 : (k == 4) = false := by rw [beq_eq_false_iff_ne]; omega
    clear h hr
    go_enter Tryz.func40, Tryz.ntmps40
    go_wp2_with fail
    go_ret
    exact ⟨rfl, (Fr.refl noB w).alloc _⟩
  all_goals
    go_enter Tryz.func40, Tryz.ntmps40
    go_wp2_with fail
    go_ret
    exact ⟨rfl, (Fr.refl noB w).alloc _⟩
def tnF (y : Bool) : Nat := if y = true then 4607182418800017408 else 0
set_option maxRecDepth 100000 in
theorem truthNumber_any (y : Bool) (w : World) : Calls Tryz.prog 45 #[.bool y] w fun e w' => e = .returned (.float .f64 (tnF y)) ∧ w' = w := by
  cases y
  all_goals
    go_enter Tryz.func45, Tryz.ntmps45
    go_wp2_with fail
    go_ret
    exact ⟨rfl, rfl⟩
theorem numC_truth (a b : Bool) : numC (tnF a) (tnF b) = trC a b := by cases a <;> cases b <;> decide +kernel
theorem compareS_any (a b : ByteArray) (w : World) : Calls Tryz.prog 43 #[.string a, .string b] w fun e w' => e = .returned (.int .i64 (Lib.compareBytes a.data.toList b.data.toList)) ∧ w' = w :=
  Any.strings_Compare Tryz.laysLaysn106 a b w
set_option maxRecDepth 100000 in
theorem rints_any (a b : Int) (w : World) : Calls Tryz.prog 47 #[.int .i64 a, .int .i64 b] w fun e w' => e = .returned (.int .i64 (cmpI a b)) ∧ w' = w := by
  go_enter Tryz.func47, Tryz.ntmps47
  go_wp2_with fail
  all_goals
    go_ret
    refine ⟨ret_int ?_, rfl⟩
    unfold cmpI
    repeat' split
    all_goals omega
set_option maxRecDepth 100000 in
theorem rtruth_any (y : Bool) (w : World) : Calls Tryz.prog 51 #[.bool y] w fun e w' => e = .returned (.int .i64 (if y = true then 1 else 0)) ∧ w' = w := by
  cases y
  all_goals
    go_enter Tryz.func51, Tryz.ntmps51
    go_wp2_with fail
    go_ret
    exact ⟨rfl, rfl⟩
theorem cmpI_truth (a b : Bool) : cmpI (if a = true then 1 else 0) (if b = true then 1 else 0) = trC a b := by cases a <;> cases b <;> rfl
set_option maxRecDepth 100000 in
set_option maxHeartbeats 1000000 in
theorem rnumbers_any (a b : Nat) (w : World) : Calls Tryz.prog 48 #[.float .f64 a, .float .f64 b] w fun e w' => e = .returned (.int .i64 (numC a b)) ∧ w' = w := by
  unfold numC nanB
  have hl : (FloatKind.f64.format.order a b == some .lt) = (double.order a b == some .lt) := rfl
  have hg : (FloatKind.f64.format.order a b == some .gt) = (double.order a b == some .gt) := rfl
  have h1 : (FloatKind.f64.format.order a a != some .eq) = (double.order a a != some .eq) := rfl
  have h2 : (FloatKind.f64.format.order b b != some .eq) = (double.order b b != some .eq) := rfl
  have h3 : (FloatKind.f64.format.order a a == some .eq) = !(double.order a a != some .eq) := by simp [bne, FloatKind.format]
  have h4 : (FloatKind.f64.format.order b b == some .eq) = !(double.order b b != some .eq) := by simp [bne, FloatKind.format]
  generalize (double.order a a != some .eq) = na at *
  generalize (double.order b b != some .eq) = nb at *
  generalize (double.order a b == some .lt) = lt at *
  generalize (double.order a b == some .gt) = gt at *
  cases na <;> cases nb <;> cases lt <;> cases gt
  all_goals
    simp only [Bool.not_true, Bool.not_false] at h3 h4
    go_enter Tryz.func48, Tryz.ntmps48
    go_wp2_with fail
    go_ret
    exact ⟨ret_int (by simp), rfl⟩
def amF (k : Int) (n : Nat) : Nat := if k = 1 then n else 0
set_option maxRecDepth 100000 in
theorem ramount_any (k : Int) (n : Nat) (s : ByteArray) (y : Bool) (c : Int) (w : World) : Calls Tryz.prog 49 #[(.agg #[.int .i64 k, .float .f64 n, .string s, .bool y, .int .i64 c])] w fun e w' => e = .returned (.float .f64 (amF k n)) ∧ Fr noB w w' := by
  by_cases h : k = 1
  · subst h
    go_enter Tryz.func49, Tryz.ntmps49
    go_wp2_with fail
    go_ret
    exact ⟨rfl, (Fr.refl noB w).alloc _⟩
  · rw [show amF k n = 0 by unfold amF; rw [if_neg h]]
    have q1 : (k == 1) = false := by simpa using h
    go_enter Tryz.func49, Tryz.ntmps49
    go_wp2_with fail
    go_ret
    exact ⟨rfl, (Fr.refl noB w).alloc _⟩
def rkO (k o : Int) : Int := if k = 0 then (if o = 2 then 2 else 1) else rk1 k
set_option maxRecDepth 100000 in
set_option maxHeartbeats 1000000 in
theorem rrank_any (k : Int) (n : Nat) (s : ByteArray) (y : Bool) (c : Int) (k2 : Int) (n2 : Nat) (s2 : ByteArray) (y2 : Bool) (c2 : Int) (w : World) : Calls Tryz.prog 46 #[(.agg #[.int .i64 k, .float .f64 n, .string s, .bool y, .int .i64 c]), (.agg #[.int .i64 k2, .float .f64 n2, .string s2, .bool y2, .int .i64 c2])] w fun e w' => e = .returned (.int .i64 (rkO k k2)) ∧ Fr noB w w' := by
  have h : k = 0 ∨ k = 1 ∨ k = 2 ∨ k = 3 ∨ k = 4 ∨ (k < 0 ∨ 4 < k) := by omega
  rcases h with rfl | rfl | rfl | rfl | rfl | h
  case inl =>
    by_cases h2 : k2 = 2
    · subst h2
      go_enter Tryz.func46, Tryz.ntmps46
      go_wp2_with fail
      go_ret
      exact ⟨rfl, ((Fr.refl noB w).alloc _).alloc _⟩
    · rw [show rkO 0 k2 = 1 by unfold rkO; rw [if_pos rfl, if_neg h2]]
      have q2 : (k2 == 2) = false := by simpa using h2
      go_enter Tryz.func46, Tryz.ntmps46
      go_wp2_with fail
      go_ret
      exact ⟨rfl, ((Fr.refl noB w).alloc _).alloc _⟩
  case inr.inr.inr.inr.inr =>
    have hr : rkO k k2 = 0 := by unfold rkO rk1; rw [if_neg (by omega), if_neg (by omega)]
    rw [hr]
    have q0 : (k == 0) = false := by rw [beq_eq_false_iff_ne]; omega
    have q1 : (k == 1) = false := by rw [beq_eq_false_iff_ne]; omega
    have q2 : (k == 2) = false := by rw [beq_eq_false_iff_ne]; omega
    have q3 : (k == 3) = false := by rw [beq_eq_false_iff_ne]; omega
    have q4 : (k == 4) = false := by rw [beq_eq_false_iff_ne]; omega
    clear h hr
    go_enter Tryz.func46, Tryz.ntmps46
    go_wp2_with fail
    go_ret
    exact ⟨rfl, ((Fr.refl noB w).alloc _).alloc _⟩
  all_goals
    go_enter Tryz.func46, Tryz.ntmps46
    go_wp2_with fail
    go_ret
    exact ⟨rfl, ((Fr.refl noB w).alloc _).alloc _⟩
/-- What a value counts as against one of another kind. -/
def flK (k o : Int) : Int := if k = 0 then (if o = 2 then 2 else 1) else k
def flN (k : Int) (n : Nat) : Nat := if k = 0 then 0 else n
def flS (k : Int) (s : ByteArray) : ByteArray := if k = 0 then ⟨#[]⟩ else s
def flY (k : Int) (y : Bool) : Bool := if k = 0 then false else y
def flE (k : Int) (c : Int) : Int := if k = 0 then 0 else c
set_option maxRecDepth 100000 in
set_option maxHeartbeats 1000000 in
theorem filled_any (k : Int) (n : Nat) (s : ByteArray) (y : Bool) (c o : Int) (w : World) : Calls Tryz.prog 39 #[(.agg #[.int .i64 k, .float .f64 n, .string s, .bool y, .int .i64 c]), .int .i64 o] w fun e w' => e = .returned (.agg #[.int .i64 (flK k o), .float .f64 (flN k n), .string (flS k s), .bool (flY k y), .int .i64 (flE k c)]) ∧ Fr noB w w' := by
  by_cases h : k = 0
  · subst h
    by_cases h2 : o = 2
    · subst h2
      rw [show flK 0 2 = 2 from rfl, show flN 0 n = 0 from rfl, show flS 0 s = ⟨#[]⟩ from rfl, show flY 0 y = false from rfl, show flE 0 c = 0 from rfl]
      go_enter Tryz.func39, Tryz.ntmps39
      go_wp2_with fail
      obtain ⟨W1, hW1⟩ : ∃ W1, w.alloc (.cells #[.int .i64 0, .float .f64 n, .string s, .bool y, .int .i64 c] 28 (0, 0)) = W1 := ⟨_, rfl⟩
      have hz1 : W1.heap.size = w.heap.size + 1 := by rw [← hW1]; simp
      have hA1 : VAt W1 w.heap.size 0 n s y c := ⟨by rw [← hW1]; exact heap_alloc_new w _⟩
      have hF1 : Fr noB w W1 := by rw [← hW1]; exact (Fr.refl noB w).alloc _
      obtain ⟨W0, hW0⟩ : ∃ W0, W1.alloc (.cells #[.int .i64 0, .float .f64 0, .string ⟨#[]⟩, .bool false, .int .i64 0] 28 (0, 0)) = W0 := ⟨_, rfl⟩
      have hO : VAt W0 (w.heap.size + 1) 0 0 ⟨#[]⟩ false 0 := ⟨by rw [← hW0, ← hz1]; exact heap_alloc_new W1 _⟩
      have hF2 : Fr noB W1 W0 := by rw [← hW0]; exact (Fr.refl noB W1).alloc _
      have hA : VAt W0 w.heap.size 0 n s y c := hA1.fr hF2 id
      have hF0 : Fr noB w W0 := hF1.trans hF2
      have HO : Hid _ := hO
      rw [hW1, hW0]
      clear hW0 hW1 hO hF1 hF2 hA1 hz1
      have a0 := hA.c0
      have a1 := hA.c1
      have a2 := hA.c2
      have a3 := hA.c3
      have a4 := hA.c4
      clear hA
      go_wp2_with fail
      refine (ptext_any ⟨#[]⟩ _).mono ?_
      rintro e w2 ⟨rfl, hF2⟩
      have hO2 := HO.out.fr hF2 id
      have hG2 := hF0.trans hF2
      clear hF0 a0 a1 a2 a3 a4
      have k0 := hO2.c0
      have k1 := hO2.c1
      have k2 := hO2.c2
      have k3 := hO2.c3
      have k4 := hO2.c4
      have f0 := freeOf 0 hO2.o
      have f1 := freeOf 1 hO2.o
      have f2 := freeOf 2 hO2.o
      have f3 := freeOf 3 hO2.o
      have f4 := freeOf 4 hO2.o
      have HQ : Hid _ := And.intro (hO2.set 2 0 ⟨#[]⟩ false 0) (fr5 hG2 (w.heap.size + 1) (Or.inr (by omega)) (.int .i64 2) (.float .f64 0) (.string ⟨#[]⟩) (.bool false) (.int .i64 0))
      clear hO2 hG2 hF2
      go_wp2_with fail
      exact bodyPost_ret (vret Tryz.results39 _ _ (w.heap.size + 1) rfl HQ.out.1) rfl ⟨rfl, HQ.out.2⟩
    · rw [show flK 0 o = 1 by unfold flK; rw [if_pos rfl, if_neg h2], show flN 0 n = 0 from rfl, show flS 0 s = ⟨#[]⟩ from rfl, show flY 0 y = false from rfl, show flE 0 c = 0 from rfl]
      have q2 : (o == 2) = false := by simpa using h2
      clear h2
      go_enter Tryz.func39, Tryz.ntmps39
      go_wp2_with fail
      obtain ⟨W1, hW1⟩ : ∃ W1, w.alloc (.cells #[.int .i64 0, .float .f64 n, .string s, .bool y, .int .i64 c] 28 (0, 0)) = W1 := ⟨_, rfl⟩
      have hz1 : W1.heap.size = w.heap.size + 1 := by rw [← hW1]; simp
      have hA1 : VAt W1 w.heap.size 0 n s y c := ⟨by rw [← hW1]; exact heap_alloc_new w _⟩
      have hF1 : Fr noB w W1 := by rw [← hW1]; exact (Fr.refl noB w).alloc _
      obtain ⟨W0, hW0⟩ : ∃ W0, W1.alloc (.cells #[.int .i64 0, .float .f64 0, .string ⟨#[]⟩, .bool false, .int .i64 0] 28 (0, 0)) = W0 := ⟨_, rfl⟩
      have hO : VAt W0 (w.heap.size + 1) 0 0 ⟨#[]⟩ false 0 := ⟨by rw [← hW0, ← hz1]; exact heap_alloc_new W1 _⟩
      have hF2 : Fr noB W1 W0 := by rw [← hW0]; exact (Fr.refl noB W1).alloc _
      have hA : VAt W0 w.heap.size 0 n s y c := hA1.fr hF2 id
      have hF0 : Fr noB w W0 := hF1.trans hF2
      have HO : Hid _ := hO
      rw [hW1, hW0]
      clear hW0 hW1 hO hF1 hF2 hA1 hz1
      have a0 := hA.c0
      have a1 := hA.c1
      have a2 := hA.c2
      have a3 := hA.c3
      have a4 := hA.c4
      clear hA
      go_wp2_with fail
      refine (pnum_any 0 _).mono ?_
      rintro e w2 ⟨rfl, hF2⟩
      have hO2 := HO.out.fr hF2 id
      have hG2 := hF0.trans hF2
      clear hF0 a0 a1 a2 a3 a4
      have k0 := hO2.c0
      have k1 := hO2.c1
      have k2 := hO2.c2
      have k3 := hO2.c3
      have k4 := hO2.c4
      have f0 := freeOf 0 hO2.o
      have f1 := freeOf 1 hO2.o
      have f2 := freeOf 2 hO2.o
      have f3 := freeOf 3 hO2.o
      have f4 := freeOf 4 hO2.o
      have HQ : Hid _ := And.intro (hO2.set 1 0 ⟨#[]⟩ false 0) (fr5 hG2 (w.heap.size + 1) (Or.inr (by omega)) (.int .i64 1) (.float .f64 0) (.string ⟨#[]⟩) (.bool false) (.int .i64 0))
      clear hO2 hG2 hF2
      go_wp2_with fail
      exact bodyPost_ret (vret Tryz.results39 _ _ (w.heap.size + 1) rfl HQ.out.1) rfl ⟨rfl, HQ.out.2⟩
  · rw [show flK k o = k by unfold flK; rw [if_neg h], show flN k n = n by unfold flN; rw [if_neg h], show flS k s = s by unfold flS; rw [if_neg h], show flY k y = y by unfold flY; rw [if_neg h], show flE k c = c by unfold flE; rw [if_neg h]]
    have q0 : (k != 0) = true := by simpa using h
    have q1 : (k == 0) = false := by simpa using h
    clear h
    have hz1 : (w.alloc (.cells #[.int .i64 k, .float .f64 n, .string s, .bool y, .int .i64 c] 28 (0, 0))).heap.size = w.heap.size + 1 := by simp
    have hO : VAt ((w.alloc (.cells #[.int .i64 k, .float .f64 n, .string s, .bool y, .int .i64 c] 28 (0, 0))).alloc (.cells #[.int .i64 k, .float .f64 n, .string s, .bool y, .int .i64 c] 28 (0, 0))) (w.heap.size + 1) k n s y c := ⟨by rw [← hz1]; exact heap_alloc_new _ _⟩
    have hF : Fr noB w ((w.alloc (.cells #[.int .i64 k, .float .f64 n, .string s, .bool y, .int .i64 c] 28 (0, 0))).alloc (.cells #[.int .i64 k, .float .f64 n, .string s, .bool y, .int .i64 c] 28 (0, 0))) := ((Fr.refl noB w).alloc _).alloc _
    have HQ : Hid _ := And.intro hO hF
    clear hO hF hz1
    go_enter Tryz.func39, Tryz.ntmps39
    go_wp2_with fail
    exact bodyPost_ret (vret Tryz.results39 _ _ (w.heap.size + 1) rfl HQ.out.1) rfl ⟨rfl, HQ.out.2⟩
#print axioms filled_any
end Go.Proofs.YtjdgpnhinjahjaaGreatDoor
