/- Check: the document's. -/
import Derived.Test.YtaobnfjkggpdlaaGreatDoorVMkW
import Derived.Test.YtaobnfjkggpdlaaGreatDoorShelf2
namespace Go.Proofs.YtaobnfjkggpdlaaGreatDoor
open Go.RowKit Ieee Go.Shelf
attribute [local go_sem] run_store_float

/-- Is a value well formed but for its length? -/
def fm (k : Int) (n : Nat) (s : ByteArray) (y : Bool) (e : Int) : Bool :=
  if k = 0 then decide (n = 0 ∧ s = ⟨#[]⟩ ∧ y = false ∧ e = 0)
  else if k = 1 then decide (finB n = true ∧ n ≠ 9223372036854775808 ∧ s = ⟨#[]⟩ ∧ y = false ∧ e = 0)
  else if k = 2 then decide (n = 0 ∧ y = false ∧ e = 0) && Lib.validD s.data.toList
  else if k = 3 then decide (n = 0 ∧ s = ⟨#[]⟩ ∧ e = 0)
  else if k = 4 then decide (n = 0 ∧ s = ⟨#[]⟩ ∧ y = false ∧ 1 ≤ e ∧ e ≤ 9)
  else false
/-- What Check tells. -/
def ckF (k : Int) (n : Nat) (s : ByteArray) (y : Bool) (e : Int) : Int := if fm k n s y e = false then 1 else if 32768 < s.size then 3 else 0
theorem quoP (W : World) : (binOp .quo 41 (.float .f64 4607182418800017408) (.float .f64 0)).run Tryz.prog W = .ok (.float .f64 9218868437227405312) W :=
  run_float_arith W .quo 41 .f64 _ _ _ (show floatBits .quo .f64 4607182418800017408 0 = some 9218868437227405312 by decide +kernel)
theorem quoM (W : World) : (binOp .quo 41 (.float .f64 4607182418800017408) (.float .f64 9223372036854775808)).run Tryz.prog W = .ok (.float .f64 18442240474082181120) W :=
  run_float_arith W .quo 41 .f64 _ _ _ (show floatBits .quo .f64 4607182418800017408 9223372036854775808 = some 18442240474082181120 by decide +kernel)
set_option maxRecDepth 100000 in
set_option maxHeartbeats 1000000 in
theorem rminus_any (x : Nat) (hx : x < 18446744073709551616) (hf : finB x = true) (w : World) : Calls Tryz.prog 60 #[.float .f64 x] w fun e w' => e = .returned (.bool (decide (x = 9223372036854775808))) ∧ w' = w := by
  have hz := order_zero x (fin_of hf)
  by_cases h0 : x % 9223372036854775808 = 0
  · rw [decide_eq_true h0] at hz
    by_cases h1 : x = 0
    · subst h1
      have hq := quoP
      have ho : (FloatKind.f64.format.order 9218868437227405312 0 == some .lt) = false := by decide +kernel
      clear hf h0
      go_enter Tryz.func60, Tryz.ntmps60
      go_wp2_with fail
      go_ret
      exact ⟨rfl, rfl⟩
    · have h2 : x = 9223372036854775808 := by omega
      subst h2
      have hq := quoM
      have ho : (FloatKind.f64.format.order 18442240474082181120 0 == some .lt) = true := by decide +kernel
      clear hf h0 h1 hx
      go_enter Tryz.func60, Tryz.ntmps60
      go_wp2_with fail
      go_ret
      exact ⟨rfl, rfl⟩
  · rw [decide_eq_false h0] at hz
    rw [decide_eq_false (show ¬ x = 9223372036854775808 by omega)]
    clear hf h0 hx
    go_enter Tryz.func60, Tryz.ntmps60
    go_wp2_with fail
    go_ret
    exact ⟨rfl, rfl⟩
/-- The tables of utf8 lie where they should. -/
def U8 (w : World) : Prop := Lib.Utf8Tabs (Tryz.laysLaysn196_ren.g 3) (Tryz.laysLaysn196_ren.g 4) w
theorem lt_of_cell {w : World} {a : Addr} {v : Value} (h : w.cell? a = some v) : a.block < w.heap.size := by
  rcases Nat.lt_or_ge a.block w.heap.size with h' | h'
  · exact h'
  · simp [World.cell?, Array.getElem?_eq_none h'] at h
theorem U8.fr {w w' : World} (h : U8 w) (hF : Fr noB w w') : U8 w' := by
  refine ⟨fun c hc => ?_, fun i hi => ⟨?_, ?_⟩⟩
  · have := h.1 c hc
    rw [← this]
    exact hF.cell (lt_of_cell this) id
  · have := (h.2 i hi).1
    rw [← this]
    exact hF.cell (lt_of_cell this) id
  · have := (h.2 i hi).2
    rw [← this]
    exact hF.cell (lt_of_cell this) id
theorem valid_any (s : ByteArray) (w : World) (hs : s.size ≤ 9223372036854775807) (hT : U8 w) :
    Calls Tryz.prog 61 #[.string s] w fun e w' => e = .returned (.bool (Lib.validD s.data.toList)) ∧ Fr noB w w' := by
  refine (show Calls Tryz.prog 61 #[.string s] w _ from Any.utf8_ValidString Tryz.laysLaysn196 s w hs hT).mono ?_
  rintro e w' ⟨h1, h2⟩
  exact ⟨h1, Fr.ofBelow h2⟩
theorem empty_true {s : ByteArray} (h : s = ⟨#[]⟩) : s.toList.isEmpty = true := by subst h; rw [ByteArray.toList_eq]; rfl
theorem empty_false {s : ByteArray} (h : ¬ s = ⟨#[]⟩) : s.toList.isEmpty = false := by
  rw [ByteArray.toList_eq]
  cases s with
  | mk a =>
    cases hl : a.toList with
    | nil => exact absurd (by congr 1; exact Array.toList_inj.1 hl) h
    | cons => rfl
theorem toList_nil {s : ByteArray} : s.toList = [] ↔ s = ⟨#[]⟩ := by
  constructor
  · intro h
    exact toList_inj (h.trans (by rw [ByteArray.toList_eq]))
  · intro h
    subst h
    rw [ByteArray.toList_eq]
set_option maxRecDepth 100000 in
set_option maxHeartbeats 4000000 in
theorem rcheck0 (n : Nat) (s : ByteArray) (y : Bool) (c : Int) (w : World) (hs : s.size ≤ 140737488355328) :
    Calls Tryz.prog 39 #[(.agg #[.int .i64 0, .float .f64 n, .string s, .bool y, .int .i64 c])] w fun e w' => e = .returned (.int .i64 (ckF 0 n s y c)) ∧ Fr noB w w' := by
  have r1 : ∀ W, _ := run_bits n
  go_enter Tryz.func39, Tryz.ntmps39
  go_wp2_with fail
  all_goals
    go_ret
    refine ⟨ret_int ?_, (Fr.refl noB w).alloc _⟩
    clear r1
    simp_all [ckF, fm, toList_nil]
    try omega
set_option maxRecDepth 100000 in
set_option maxHeartbeats 4000000 in
theorem rcheck3 (n : Nat) (s : ByteArray) (y : Bool) (c : Int) (w : World) (hs : s.size ≤ 140737488355328) :
    Calls Tryz.prog 39 #[(.agg #[.int .i64 3, .float .f64 n, .string s, .bool y, .int .i64 c])] w fun e w' => e = .returned (.int .i64 (ckF 3 n s y c)) ∧ Fr noB w w' := by
  have r1 : ∀ W, _ := run_bits n
  go_enter Tryz.func39, Tryz.ntmps39
  go_wp2_with fail
  all_goals
    go_ret
    refine ⟨ret_int ?_, (Fr.refl noB w).alloc _⟩
    clear r1
    simp_all [ckF, fm, toList_nil]
    try omega
set_option maxRecDepth 100000 in
set_option maxHeartbeats 4000000 in
theorem rcheck4 (n : Nat) (s : ByteArray) (y : Bool) (c : Int) (w : World) (hs : s.size ≤ 140737488355328) :
    Calls Tryz.prog 39 #[(.agg #[.int .i64 4, .float .f64 n, .string s, .bool y, .int .i64 c])] w fun e w' => e = .returned (.int .i64 (ckF 4 n s y c)) ∧ Fr noB w w' := by
  have r1 : ∀ W, _ := run_bits n
  go_enter Tryz.func39, Tryz.ntmps39
  go_wp2_with fail
  all_goals
    go_ret
    refine ⟨ret_int ?_, (Fr.refl noB w).alloc _⟩
    clear r1
    simp_all [ckF, fm, toList_nil]
    try omega
set_option maxRecDepth 100000 in
set_option maxHeartbeats 4000000 in
theorem rcheckO (k : Int) (hk : k < 0 ∨ 4 < k) (n : Nat) (s : ByteArray) (y : Bool) (c : Int) (w : World) :
    Calls Tryz.prog 39 #[(.agg #[.int .i64 k, .float .f64 n, .string s, .bool y, .int .i64 c])] w fun e w' => e = .returned (.int .i64 (ckF k n s y c)) ∧ Fr noB w w' := by
  have hfm : fm k n s y c = false := by unfold fm; rw [if_neg (by omega), if_neg (by omega), if_neg (by omega), if_neg (by omega), if_neg (by omega)]
  have hR : ckF k n s y c = 1 := by unfold ckF; rw [if_pos hfm]
  rw [hR]
  clear hfm
  rcases hk with h | h
  · clear hR
    go_enter Tryz.func39, Tryz.ntmps39
    go_wp2_with fail
    go_ret
    exact ⟨rfl, (Fr.refl noB w).alloc _⟩
  · clear hR
    go_enter Tryz.func39, Tryz.ntmps39
    go_wp2_with fail
    go_ret
    exact ⟨rfl, (Fr.refl noB w).alloc _⟩
set_option maxRecDepth 100000 in
set_option maxHeartbeats 4000000 in
theorem rcheck1 (n : Nat) (hn : n < 18446744073709551616) (s : ByteArray) (y : Bool) (c : Int) (w : World) (hs : s.size ≤ 140737488355328) :
    Calls Tryz.prog 39 #[(.agg #[.int .i64 1, .float .f64 n, .string s, .bool y, .int .i64 c])] w fun e w' => e = .returned (.int .i64 (ckF 1 n s y c)) ∧ Fr noB w w' := by
  have r1 : ∀ W, _ := run_bits n
  have H1 := rfinite_any n
  cases hf : finB n with
  | false =>
    rw [hf] at H1
    go_enter Tryz.func39, Tryz.ntmps39
    go_wp2_with (go_at_call 58; refine (H1 _).mono ?_; rintro e w1 ⟨rfl, m, rfl⟩)
    all_goals
      go_ret
      refine ⟨ret_int ?_, by first | exact (Fr.refl noB w).alloc _ | exact ((Fr.refl noB w).alloc _).drewN _⟩
      clear r1 H1
      simp_all [ckF, fm, toList_nil]
  | true =>
    rw [hf] at H1
    have H2 := rminus_any n hn hf
    by_cases hm : n = 9223372036854775808
    · rw [decide_eq_true hm] at H2
      have HM : Hid (n = 9223372036854775808) := hm
      have HFI : Hid (finB n = true) := hf
      clear hm hf hn
      go_enter Tryz.func39, Tryz.ntmps39
      go_wp2_with (first | (go_at_call 58; refine (H1 _).mono ?_; rintro e w1 ⟨rfl, m, rfl⟩) | (go_at_call 60; refine (H2 _).mono ?_; rintro e w1 ⟨rfl, rfl⟩))
      all_goals
        go_ret
        refine ⟨ret_int ?_, by first | exact (Fr.refl noB _).alloc _ | exact ((Fr.refl noB _).alloc _).drewN _ | assumption⟩
        clear r1 H1 H2
        have h1 := HM.out
        have h2 := HFI.out
        simp_all [ckF, fm, toList_nil]
    · rw [decide_eq_false hm] at H2
      have HM : Hid (¬ n = 9223372036854775808) := hm
      have HFI : Hid (finB n = true) := hf
      clear hm hf hn
      go_enter Tryz.func39, Tryz.ntmps39
      go_wp2_with (first | (go_at_call 58; refine (H1 _).mono ?_; rintro e w1 ⟨rfl, m, rfl⟩) | (go_at_call 60; refine (H2 _).mono ?_; rintro e w1 ⟨rfl, h1⟩; subst h1))
      all_goals
        go_ret
        refine ⟨ret_int ?_, by first | exact (Fr.refl noB _).alloc _ | exact ((Fr.refl noB _).alloc _).drewN _ | assumption⟩
        clear r1 H1 H2
        have h1 := HM.out
        have h2 := HFI.out
        simp_all [ckF, fm, toList_nil]
        try omega
set_option maxRecDepth 100000 in
set_option maxHeartbeats 4000000 in
theorem rcheck2 (n : Nat) (s : ByteArray) (y : Bool) (c : Int) (w : World) (hs : s.size ≤ 140737488355328) (hU : U8 w) :
    Calls Tryz.prog 39 #[(.agg #[.int .i64 2, .float .f64 n, .string s, .bool y, .int .i64 c])] w fun e w' => e = .returned (.int .i64 (ckF 2 n s y c)) ∧ Fr noB w w' := by
  have r1 : ∀ W, _ := run_bits n
  have H1 : Hid (∀ W, Fr noB w W → Calls Tryz.prog 61 #[.string s] W fun e w' => e = .returned (.bool (Lib.validD s.data.toList)) ∧ Fr noB W w') := fun W hW => valid_any s W (by omega) (hU.fr hW)
  clear hU
  have HBX : Hid (∀ n' y' c', VAt (w.alloc (.cells #[.int .i64 2, .float .f64 n', .string s, .bool y', .int .i64 c'] 43 (0, 0))) w.heap.size 2 n' s y' c') := fun _ _ _ => ⟨heap_alloc_new w _⟩
  cases hv : Lib.validD s.data.toList with
  | true =>
    rw [hv] at H1
    have HV : Hid (Lib.validD s.data.toList = true) := hv
    clear hv
    go_enter Tryz.func39, Tryz.ntmps39
    go_wp2_with (go_at_call 61; refine (H1.out _ ((Fr.refl noB w).alloc _)).mono ?_; rintro e w1 ⟨rfl, hF1⟩; have a2 := ((HBX.out _ _ _).fr hF1 id).c2; replace hF1 := ((Fr.refl noB w).alloc _).trans hF1)
    all_goals
      go_ret
      refine ⟨ret_int ?_, by first | exact (Fr.refl noB _).alloc _ | assumption⟩
      clear r1 H1 HBX
      have h2 := HV.out
      simp_all [ckF, fm]
      try omega
  | false =>
    rw [hv] at H1
    have HV : Hid (Lib.validD s.data.toList = false) := hv
    clear hv
    go_enter Tryz.func39, Tryz.ntmps39
    go_wp2_with (go_at_call 61; refine (H1.out _ ((Fr.refl noB w).alloc _)).mono ?_; rintro e w1 ⟨rfl, hF1⟩; have a2 := ((HBX.out _ _ _).fr hF1 id).c2; replace hF1 := ((Fr.refl noB w).alloc _).trans hF1)
    all_goals
      go_ret
      refine ⟨ret_int ?_, by first | exact (Fr.refl noB _).alloc _ | assumption⟩
      clear r1 H1 HBX
      have h2 := HV.out
      simp_all [ckF, fm]
theorem rcheck_any (k : Int) (n : Nat) (hn : n < 18446744073709551616) (s : ByteArray) (y : Bool) (c : Int) (w : World) (hs : s.size ≤ 140737488355328) (hU : U8 w) :
    Calls Tryz.prog 39 #[(.agg #[.int .i64 k, .float .f64 n, .string s, .bool y, .int .i64 c])] w fun e w' => e = .returned (.int .i64 (ckF k n s y c)) ∧ Fr noB w w' := by
  have h : k < 0 ∨ 4 < k ∨ k = 0 ∨ k = 1 ∨ k = 2 ∨ k = 3 ∨ k = 4 := by omega
  rcases h with h | h | rfl | rfl | rfl | rfl | rfl
  · exact rcheckO k (Or.inl h) n s y c w
  · exact rcheckO k (Or.inr h) n s y c w
  · exact rcheck0 n s y c w hs
  · exact rcheck1 n hn s y c w hs
  · exact rcheck2 n s y c w hs hU
  · exact rcheck3 n s y c w hs
  · exact rcheck4 n s y c w hs
#print axioms rcheck_any
end Go.Proofs.YtaobnfjkggpdlaaGreatDoor
