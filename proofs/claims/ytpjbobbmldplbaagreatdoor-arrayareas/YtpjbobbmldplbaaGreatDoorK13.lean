/- Check: the document's. -/
import Derived.Test.YtpjbobbmldplbaaGreatDoorK09
import Derived.Test.YtpjbobbmldplbaaGreatDoorShelf2
namespace Go.Proofs.YtpjbobbmldplbaaGreatDoor
open Go.RowKit Ieee Go.Shelf
attribute [local go_sem] run_store_float

/-- Is a value well formed but for its length? -/
def fm (k : Int) (n : Nat) (s : ByteArray) (y : Bool) (e : Int) : Bool :=
  if k = 0 then decide (n = 0 ∧ s = ⟨#[]⟩ ∧ y = false ∧ e = 0)
  else if k = 1 then decide (finB n = true ∧ n ≠ 9223372036854775808 ∧ s = ⟨#[]⟩ ∧ y = false ∧ e = 0)
  else if k = 2 then decide (n = 0 ∧ y = false ∧ e = 0) && Lib.validD s.data.toList
  else if k = 3 then decide (n = 0 ∧ s = ⟨#[]⟩ ∧ e = 0)
  else if k = 4 then decide (n = 0 ∧ s = ⟨#[]⟩ ∧ y = false ∧ 1 ≤ e ∧ e ≤ 9)
  else false
/-- What Check tells. -/
def ckF (k : Int) (n : Nat) (s : ByteArray) (y : Bool) (e : Int) : Int := if fm k n s y e = false then 1 else if 32768 < s.size then 3 else 0
theorem quoP (W : World) : (binOp .quo 35 (.float .f64 4607182418800017408) (.float .f64 0)).run Tryz.prog W = .ok (.float .f64 9218868437227405312) W :=
  run_float_arith W .quo 35 .f64 _ _ _ (show floatBits .quo .f64 4607182418800017408 0 = some 9218868437227405312 by decide +kernel)
theorem quoM (W : World) : (binOp .quo 35 (.float .f64 4607182418800017408) (.float .f64 9223372036854775808)).run Tryz.prog W = .ok (.float .f64 18442240474082181120) W :=
  run_float_arith W .quo 35 .f64 _ _ _ (show floatBits .quo .f64 4607182418800017408 9223372036854775808 = some 18442240474082181120 by decide +kernel)
set_option maxRecDepth 100000 in
set_option maxHeartbeats 1000000 in
theorem rminus_any (x : Nat) (hx : x < 18446744073709551616) (hf : finB x = true) (w : World) : Calls Tryz.prog 50 #[.float .f64 x] w fun e w' => e = .returned (.bool (decide (x = 9223372036854775808))) ∧ w' = w := by
  have hz := order_zero x (fin_of hf)
  by_cases h0 : x % 9223372036854775808 = 0
  · rw [decide_eq_true h0] at hz
    by_cases h1 : x = 0
    · subst h1
      have hq := quoP
      have ho : (FloatKind.f64.format.order 9218868437227405312 0 == some .lt) = false := by decide +kernel
      clear hf h0
      go_enter Tryz.func50, Tryz.ntmps50
      go_wp2_with fail
      go_ret
      exact ⟨rfl, rfl⟩
    · have h2 : x = 9223372036854775808 := by omega
      subst h2
      have hq := quoM
      have ho : (FloatKind.f64.format.order 18442240474082181120 0 == some .lt) = true := by decide +kernel
      clear hf h0 h1 hx
      go_enter Tryz.func50, Tryz.ntmps50
      go_wp2_with fail
      go_ret
      exact ⟨rfl, rfl⟩
  · rw [decide_eq_false h0] at hz
    rw [decide_eq_false (show ¬ x = 9223372036854775808 by omega)]
    clear hf h0 hx
    go_enter Tryz.func50, Tryz.ntmps50
    go_wp2_with fail
    go_ret
    exact ⟨rfl, rfl⟩
/-- The tables of utf8 lie where they should. -/
def U8 (w : World) : Prop := Lib.Utf8Tabs (Tryz.laysLaysn196_ren.g 3) (Tryz.laysLaysn196_ren.g 4) w
theorem lt_of_cell {w : World} {a : Addr} {v : Value} (h : w.cell? a = some v) : a.block < w.heap.size := by
  rcases Nat.lt_or_ge a.block w.heap.size with h' | h'
  · exact h'
  · simp [World.cell?, Array.getElem?_eq_none h'] at h
theorem U8.fr {w w' : World} (h : U8 w) (hF : Fr noB w w') : U8 w' := by
  refine ⟨fun c hc => ?_, fun i hi => ⟨?_, ?_⟩⟩
  · have := h.1 c hc
    rw [← this]
    exact hF.cell (lt_of_cell this) id
  · have := (h.2 i hi).1
    rw [← this]
    exact hF.cell (lt_of_cell this) id
  · have := (h.2 i hi).2
    rw [← this]
    exact hF.cell (lt_of_cell this) id
theorem valid_any (s : ByteArray) (w : World) (hs : s.size ≤ 9223372036854775807) (hT : U8 w) :
    Calls Tryz.prog 51 #[.string s] w fun e w' => e = .returned (.bool (Lib.validD s.data.toList)) ∧ Fr noB w w' := by
  refine (show Calls Tryz.prog 51 #[.string s] w _ from Any.utf8_ValidString Tryz.laysLaysn196 s w hs hT).mono ?_
  rintro e w' ⟨h1, h2⟩
  exact ⟨h1, Fr.ofBelow h2⟩
theorem empty_true {s : ByteArray} (h : s = ⟨#[]⟩) : s.toList.isEmpty = true := by subst h; rw [ByteArray.toList_eq]; rfl
theorem empty_false {s : ByteArray} (h : ¬ s = ⟨#[]⟩) : s.toList.isEmpty = false := by
  rw [ByteArray.toList_eq]
  cases s with
  | mk a =>
    cases hl : a.toList with
    | nil => exact absurd (by congr 1; exact Array.toList_inj.1 hl) h
    | cons => rfl
theorem toList_nil {s : ByteArray} : s.toList = [] ↔ s = ⟨#[]⟩ := by
  constructor
  · intro h
    exact toList_inj (h.trans (by rw [ByteArray.toList_eq]))
  · intro h
    subst h
    rw [ByteArray.toList_eq]
set_option maxRecDepth 100000 in
set_option maxHeartbeats 4000000 in
theorem rcheck0 (n : Nat) (s : ByteArray) (y : Bool) (c : Int) (w : World) (hs : s.size ≤ 140737488355328) :
    Calls Tryz.prog 44 #[(.agg #[.int .i64 0, .float .f64 n, .string s, .bool y, .int .i64 c])] w fun e w' => e = .returned (.int .i64 (ckF 0 n s y c)) ∧ Fr noB w w' := by
  have r1 : ∀ W, _ := run_bits n
  go_enter Tryz.func44, Tryz.ntmps44
  go_wp2_with fail
  all_goals
    go_ret
    refine ⟨ret_int ?_, (Fr.refl noB w).alloc _⟩
    clear r1
    simp_all [ckF, fm, toList_nil]
    try omega
set_option maxRecDepth 100000 in
set_option maxHeartbeats 4000000 in
theorem rcheck3 (n : Nat) (s : ByteArray) (y : Bool) (c : Int) (w : World) (hs : s.size ≤ 140737488355328) :
    Calls Tryz.prog 44 #[(.agg #[.int .i64 3, .float .f64 n, .string s, .bool y, .int .i64 c])] w fun e w' => e = .returned (.int .i64 (ckF 3 n s y c)) ∧ Fr noB w w' := by
  have r1 : ∀ W, _ := run_bits n
  go_enter Tryz.func44, Tryz.ntmps44
  go_wp2_with fail
  all_goals
    go_ret
    refine ⟨ret_int ?_, (Fr.refl noB w).alloc _⟩
    clear r1
    simp_all [ckF, fm, toList_nil]
    try omega
set_option maxRecDepth 100000 in
set_option maxHeartbeats 4000000 in
theorem rcheck4 (n : Nat) (s : ByteArray) (y : Bool) (c : Int) (w : World) (hs : s.size ≤ 140737488355328) :
    Calls Tryz.prog 44 #[(.agg #[.int .i64 4, .float .f64 n, .string s, .bool y, .int .i64 c])] w fun e w' => e = .returned (.int .i64 (ckF 4 n s y c)) ∧ Fr noB w w' := by
  have r1 : ∀ W, _ := run_bits n
  go_enter Tryz.func44, Tryz.ntmps44
  go_wp2_with fail
  all_goals
    go_ret
    refine ⟨ret_int ?_, (Fr.refl noB w).alloc _⟩
    clear r1
    simp_all [ckF, fm, toList_nil]
    try omega
set_option maxRecDepth 100000 in
set_option maxHeartbeats 4000000 in
theorem rcheckO (k : Int) (hk : k < 0 ∨ 4 < k) (n : Nat) (s : ByteArray) (y : Bool) (c : Int) (w : World) :
    Calls Tryz.prog 44 #[(.agg #[.int .i64 k, .float .f64 n, .string s, .bool y, .int .i64 c])] w fun e w' => e = .returned (.int .i64 (ckF k n s y c)) ∧ Fr noB w w' := by
  have hfm : fm k n s y c = false := by unfold fm; rw [if_neg (by omega), if_neg (by omega), if_neg (by omega), if_neg (by omega), if_neg (by omega)]
  have hR : ckF k n s y c = 1 := by unfold ckF; rw [if_pos hfm]
  rw [hR]
  clear hfm
  rcases hk with h | h
  · clear hR
    go_enter Tryz.func44, Tryz.ntmps44
    go_wp2_with fail
    go_ret
    exact ⟨rfl, (Fr.refl noB w).alloc _⟩
  · clear hR
    go_enter Tryz.func44, Tryz.ntmps44
    go_wp2_with fail
    go_ret
    exact ⟨rfl, (Fr.refl noB w).alloc _⟩
set_option maxRecDepth 100000 in
set_option maxHeartbeats 4000000 in
theorem rcheck1 (n : Nat) (hn : n < 18446744073709551616) (s : ByteArray) (y : Bool) (c : Int) (w : World) (hs : s.size ≤ 140737488355328) :
    Calls Tryz.prog 44 #[(.agg #[.int .i64 1, .float .f64 n, .string s, .bool y, .int .i64 c])] w fun e w' => e = .returned (.int .i64 (ckF 1 n s y c)) ∧ Fr noB w w' := by
  have r1 : ∀ W, _ := run_bits n
  have H1 := rfinite_any n
  cases hf : finB n with
  | false =>
    rw [hf] at H1
    go_enter Tryz.func44, Tryz.ntmps44
    go_wp2_with (go_at_call 49; refine (H1 _).mono ?_; rintro e w1 ⟨rfl, m, rfl⟩)
    all_goals
      go_ret
      refine ⟨ret_int ?_, by first | exact (Fr.refl noB w).alloc _ | exact ((Fr.refl noB w).alloc _).drewN _⟩
      clear r1 H1
      simp_all [ckF, fm, toList_nil]
  | true =>
    rw [hf] at H1
    have H2 := rminus_any n hn hf
    by_cases hm : n = 9223372036854775808
    · rw [decide_eq_true hm] at H2
      have HM : Hid (n = 9223372036854775808) := hm
      have HFI : Hid (finB n = true) := hf
      clear hm hf hn
      go_enter Tryz.func44, Tryz.ntmps44
      go_wp2_with (first | (go_at_call 49; refine (H1 _).mono ?_; rintro e w1 ⟨rfl, m, rfl⟩) | (go_at_call 50; refine (H2 _).mono ?_; rintro e w1 ⟨rfl, rfl⟩))
      all_goals
        go_ret
        refine ⟨ret_int ?_, by first | exact (Fr.refl noB _).alloc _ | exact ((Fr.refl noB _).alloc _).drewN _ | assumption⟩
        clear r1 H1 H2
        have h1 := HM.out
        have h2 := HFI.out
        simp_all [ckF, fm, toList_nil]
    · rw [decide_eq_false hm] at H2
      have HM : Hid (¬ n = 9223372036854775808) := hm
      have HFI : Hid (finB n = true) := hf
      clear hm hf hn
      go_enter Tryz.func44, Tryz.ntmps44
      go_wp2_with (first | (go_at_call 49; refine (H1 _).mono ?_; rintro e w1 ⟨rfl, m, rfl⟩) | (go_at_call 50; refine (H2 _).mono ?_; rintro e w1 ⟨rfl, h1⟩; subst h1))
      all_goals
        go_ret
        refine ⟨ret_int ?_, by first | exact (Fr.refl noB _).alloc _ | exact ((Fr.refl noB _).alloc _).drewN _ | assumption⟩
        clear r1 H1 H2
        have h1 := HM.out
        have h2 := HFI.out
        simp_all [ckF, fm, toList_nil]
        try omega
set_option maxRecDepth 100000 in
set_option maxHeartbeats 4000000 in
theorem rcheck2 (n : Nat) (s : ByteArray) (y : Bool) (c : Int) (w : World) (hs : s.size ≤ 140737488355328) (hU : U8 w) :
    Calls Tryz.prog 44 #[(.agg #[.int .i64 2, .float .f64 n, .string s, .bool y, .int .i64 c])] w fun e w' => e = .returned (.int .i64 (ckF 2 n s y c)) ∧ Fr noB w w' := by
  have r1 : ∀ W, _ := run_bits n
  have H1 : Hid (∀ W, Fr noB w W → Calls Tryz.prog 51 #[.string s] W fun e w' => e = .returned (.bool (Lib.validD s.data.toList)) ∧ Fr noB W w') := fun W hW => valid_any s W (by omega) (hU.fr hW)
  clear hU
  have HBX : Hid (∀ n' y' c', VAt (w.alloc (.cells #[.int .i64 2, .float .f64 n', .string s, .bool y', .int .i64 c'] 37 (0, 0))) w.heap.size 2 n' s y' c') := fun _ _ _ => ⟨heap_alloc_new w _⟩
  cases hv : Lib.validD s.data.toList with
  | true =>
    rw [hv] at H1
    have HV : Hid (Lib.validD s.data.toList = true) := hv
    clear hv
    go_enter Tryz.func44, Tryz.ntmps44
    go_wp2_with (go_at_call 51; refine (H1.out _ ((Fr.refl noB w).alloc _)).mono ?_; rintro e w1 ⟨rfl, hF1⟩; have a2 := ((HBX.out _ _ _).fr hF1 id).c2; replace hF1 := ((Fr.refl noB w).alloc _).trans hF1)
    all_goals
      go_ret
      refine ⟨ret_int ?_, by first | exact (Fr.refl noB _).alloc _ | assumption⟩
      clear r1 H1 HBX
      have h2 := HV.out
      simp_all [ckF, fm]
      try omega
  | false =>
    rw [hv] at H1
    have HV : Hid (Lib.validD s.data.toList = false) := hv
    clear hv
    go_enter Tryz.func44, Tryz.ntmps44
    go_wp2_with (go_at_call 51; refine (H1.out _ ((Fr.refl noB w).alloc _)).mono ?_; rintro e w1 ⟨rfl, hF1⟩; have a2 := ((HBX.out _ _ _).fr hF1 id).c2; replace hF1 := ((Fr.refl noB w).alloc _).trans hF1)
    all_goals
      go_ret
      refine ⟨ret_int ?_, by first | exact (Fr.refl noB _).alloc _ | assumption⟩
      clear r1 H1 HBX
      have h2 := HV.out
      simp_all [ckF, fm]
theorem rcheck_any (k : Int) (n : Nat) (hn : n < 18446744073709551616) (s : ByteArray) (y : Bool) (c : Int) (w : World) (hs : s.size ≤ 140737488355328) (hU : U8 w) :
    Calls Tryz.prog 44 #[(.agg #[.int .i64 k, .float .f64 n, .string s, .bool y, .int .i64 c])] w fun e w' => e = .returned (.int .i64 (ckF k n s y c)) ∧ Fr noB w w' := by
  have h : k < 0 ∨ 4 < k ∨ k = 0 ∨ k = 1 ∨ k = 2 ∨ k = 3 ∨ k = 4 := by omega
  rcases h with h | h | rfl | rfl | rfl | rfl | rfl
  · exact rcheckO k (Or.inl h) n s y c w
  · exact rcheckO k (Or.inr h) n s y c w
  · exact rcheck0 n s y c w hs
  · exact rcheck1 n hn s y c w hs
  · exact rcheck2 n s y c w hs hU
  · exact rcheck3 n s y c w hs
  · exact rcheck4 n s y c w hs
#print axioms rcheck_any
end Go.Proofs.YtpjbobbmldplbaaGreatDoor
/- Check: the program's. -/
namespace Go.Proofs.YtpjbobbmldplbaaGreatDoor
open Go.RowKit Ieee Go.Shelf
attribute [local go_sem] run_store_float

set_option maxRecDepth 100000 in
theorem isCode_any (c : Int) (w : World) : Calls Tryz.prog 59 #[.int .i64 c] w fun e w' => e = .returned (.bool (decide (1 ≤ c ∧ c ≤ 9))) ∧ w' = w := by
  go_enter Tryz.func59, Tryz.ntmps59
  go_wp2
  all_goals
    go_ret
    refine ⟨ret_bool ?_, rfl⟩
    rw [Bool.eq_iff_iff]
    simp
    try omega
set_option maxRecDepth 100000 in
set_option maxHeartbeats 4000000 in
theorem formed0 (n : Nat) (s : ByteArray) (y : Bool) (c : Int) (w : World) :
    Calls Tryz.prog 47 #[(.agg #[.int .i64 0, .float .f64 n, .string s, .bool y, .int .i64 c])] w fun e w' => e = .returned (.bool (smB 0 n s y c 0 0 ⟨#[]⟩ false 0)) ∧ Fr noB w w' := by
  have H2 := psame_any 0 n s y c 0 0 ⟨#[]⟩ false 0
  generalize smB 0 n s y c 0 0 ⟨#[]⟩ false 0 = A at *
  go_enter Tryz.func47, Tryz.ntmps47
  go_wp2_with fail
  obtain ⟨W0, hW0⟩ : ∃ W0, w.alloc (.cells #[.int .i64 0, .float .f64 n, .string s, .bool y, .int .i64 c] 37 (0, 0)) = W0 := ⟨_, rfl⟩
  have hA : VAt W0 w.heap.size 0 n s y c := ⟨by rw [← hW0]; exact heap_alloc_new w _⟩
  have hF0 : Fr noB w W0 := by rw [← hW0]; exact (Fr.refl noB w).alloc _
  have HA : Hid _ := And.intro hA hF0
  rw [hW0]
  clear hW0
  have HK : Hid (∀ W, Fr noB W0 W → W.cell? ⟨w.heap.size, 0, none⟩ = some (.int .i64 0) ∧ W.cell? ⟨w.heap.size, 1, none⟩ = some (.float .f64 n) ∧ W.cell? ⟨w.heap.size, 2, none⟩ = some (.string s) ∧ W.cell? ⟨w.heap.size, 3, none⟩ = some (.bool y) ∧ W.cell? ⟨w.heap.size, 4, none⟩ = some (.int .i64 c)) := fun W h => ⟨(HA.out.1.fr h id).c0, (HA.out.1.fr h id).c1, (HA.out.1.fr h id).c2, (HA.out.1.fr h id).c3, (HA.out.1.fr h id).c4⟩
  have a0 := hA.c0
  have a1 := hA.c1
  have a2 := hA.c2
  have a3 := hA.c3
  have a4 := hA.c4
  clear hA hF0
  go_wp2_with fail
  refine (H2 _).mono ?_
  rintro e w2 ⟨rfl, hF2⟩
  clear HK a0 a1 a2 a3 a4
  all_goals
    go_wp2_with fail
    go_ret
    refine ⟨rfl, ?_⟩
    have hb := HA.out.2
    repeat first | assumption | exact Fr.drew (by assumption) | exact (Fr.refl _ _).drew | refine Fr.trans ?_ (by assumption)
set_option maxRecDepth 100000 in
set_option maxHeartbeats 4000000 in
theorem formed1 (n : Nat) (hn : n < 18446744073709551616) (s : ByteArray) (y : Bool) (c : Int) (w : World) :
    Calls Tryz.prog 47 #[(.agg #[.int .i64 1, .float .f64 n, .string s, .bool y, .int .i64 c])] w fun e w' => e = .returned (.bool (smB 1 n s y c (rkK n) (rkN n) ⟨#[]⟩ false (rkE n))) ∧ Fr noB w w' := by
  have H1 := preckon_any n hn
  have H2 := psame_any 1 n s y c (rkK n) (rkN n) ⟨#[]⟩ false (rkE n)
  generalize smB 1 n s y c (rkK n) (rkN n) ⟨#[]⟩ false (rkE n) = A at *
  generalize rkK n = rk at *
  generalize rkN n = rn at *
  generalize rkE n = re at *
  go_enter Tryz.func47, Tryz.ntmps47
  go_wp2_with fail
  obtain ⟨W0, hW0⟩ : ∃ W0, w.alloc (.cells #[.int .i64 1, .float .f64 n, .string s, .bool y, .int .i64 c] 37 (0, 0)) = W0 := ⟨_, rfl⟩
  have hA : VAt W0 w.heap.size 1 n s y c := ⟨by rw [← hW0]; exact heap_alloc_new w _⟩
  have hF0 : Fr noB w W0 := by rw [← hW0]; exact (Fr.refl noB w).alloc _
  have HA : Hid _ := And.intro hA hF0
  rw [hW0]
  clear hW0
  have HK : Hid (∀ W, Fr noB W0 W → W.cell? ⟨w.heap.size, 0, none⟩ = some (.int .i64 1) ∧ W.cell? ⟨w.heap.size, 1, none⟩ = some (.float .f64 n) ∧ W.cell? ⟨w.heap.size, 2, none⟩ = some (.string s) ∧ W.cell? ⟨w.heap.size, 3, none⟩ = some (.bool y) ∧ W.cell? ⟨w.heap.size, 4, none⟩ = some (.int .i64 c)) := fun W h => ⟨(HA.out.1.fr h id).c0, (HA.out.1.fr h id).c1, (HA.out.1.fr h id).c2, (HA.out.1.fr h id).c3, (HA.out.1.fr h id).c4⟩
  have a0 := hA.c0
  have a1 := hA.c1
  have a2 := hA.c2
  have a3 := hA.c3
  have a4 := hA.c4
  clear hA hF0
  go_wp2_with fail
  go_region_held3 (fun W => W.cell? ⟨w.heap.size, 0, none⟩ = some (.int .i64 1) ∧ W.cell? ⟨w.heap.size, 1, none⟩ = some (.float .f64 n) ∧ W.cell? ⟨w.heap.size, 2, none⟩ = some (.string s) ∧ W.cell? ⟨w.heap.size, 3, none⟩ = some (.bool y) ∧ W.cell? ⟨w.heap.size, 4, none⟩ = some (.int .i64 c))
    (exact HK.out _ (by repeat first | assumption | exact Fr.refl _ _ | exact Fr.drew (by assumption) | exact (Fr.refl _ _).drew | refine Fr.trans ?_ (by assumption)))
    (first
      | (go_at_call 56; refine (H1 _).mono ?_; rintro e w1 ⟨rfl, hF1⟩)
      | (go_at_call 55; refine (H2 _).mono ?_; rintro e w2 ⟨rfl, hF2⟩))
  all_goals
    go_wp2_with fail
    go_ret
    refine ⟨rfl, ?_⟩
    have hb := HA.out.2
    repeat first | assumption | exact Fr.drew (by assumption) | exact (Fr.refl _ _).drew | refine Fr.trans ?_ (by assumption)
set_option maxRecDepth 100000 in
set_option maxHeartbeats 4000000 in
theorem formed3 (n : Nat) (s : ByteArray) (y : Bool) (c : Int) (w : World) :
    Calls Tryz.prog 47 #[(.agg #[.int .i64 3, .float .f64 n, .string s, .bool y, .int .i64 c])] w fun e w' => e = .returned (.bool (smB 3 n s y c 3 0 ⟨#[]⟩ y 0)) ∧ Fr noB w w' := by
  have H1 := pbool_any y
  have H2 := psame_any 3 n s y c 3 0 ⟨#[]⟩ y 0
  generalize smB 3 n s y c 3 0 ⟨#[]⟩ y 0 = A at *
  go_enter Tryz.func47, Tryz.ntmps47
  go_wp2_with fail
  obtain ⟨W0, hW0⟩ : ∃ W0, w.alloc (.cells #[.int .i64 3, .float .f64 n, .string s, .bool y, .int .i64 c] 37 (0, 0)) = W0 := ⟨_, rfl⟩
  have hA : VAt W0 w.heap.size 3 n s y c := ⟨by rw [← hW0]; exact heap_alloc_new w _⟩
  have hF0 : Fr noB w W0 := by rw [← hW0]; exact (Fr.refl noB w).alloc _
  have HA : Hid _ := And.intro hA hF0
  rw [hW0]
  clear hW0
  have HK : Hid (∀ W, Fr noB W0 W → W.cell? ⟨w.heap.size, 0, none⟩ = some (.int .i64 3) ∧ W.cell? ⟨w.heap.size, 1, none⟩ = some (.float .f64 n) ∧ W.cell? ⟨w.heap.size, 2, none⟩ = some (.string s) ∧ W.cell? ⟨w.heap.size, 3, none⟩ = some (.bool y) ∧ W.cell? ⟨w.heap.size, 4, none⟩ = some (.int .i64 c)) := fun W h => ⟨(HA.out.1.fr h id).c0, (HA.out.1.fr h id).c1, (HA.out.1.fr h id).c2, (HA.out.1.fr h id).c3, (HA.out.1.fr h id).c4⟩
  have a0 := hA.c0
  have a1 := hA.c1
  have a2 := hA.c2
  have a3 := hA.c3
  have a4 := hA.c4
  clear hA hF0
  go_wp2_with fail
  go_region_held3 (fun W => W.cell? ⟨w.heap.size, 0, none⟩ = some (.int .i64 3) ∧ W.cell? ⟨w.heap.size, 1, none⟩ = some (.float .f64 n) ∧ W.cell? ⟨w.heap.size, 2, none⟩ = some (.string s) ∧ W.cell? ⟨w.heap.size, 3, none⟩ = some (.bool y) ∧ W.cell? ⟨w.heap.size, 4, none⟩ = some (.int .i64 c))
    (exact HK.out _ (by repeat first | assumption | exact Fr.refl _ _ | exact Fr.drew (by assumption) | exact (Fr.refl _ _).drew | refine Fr.trans ?_ (by assumption)))
    (first
      | (go_at_call 58; refine (H1 _).mono ?_; rintro e w1 ⟨rfl, hF1⟩)
      | (go_at_call 55; refine (H2 _).mono ?_; rintro e w2 ⟨rfl, hF2⟩))
  all_goals
    go_wp2_with fail
    go_ret
    refine ⟨rfl, ?_⟩
    have hb := HA.out.2
    repeat first | assumption | exact Fr.drew (by assumption) | exact (Fr.refl _ _).drew | refine Fr.trans ?_ (by assumption)
set_option maxRecDepth 100000 in
set_option maxHeartbeats 4000000 in
theorem formed2 (n : Nat) (s : ByteArray) (y : Bool) (c : Int) (w : World) (hs : s.size ≤ 140737488355328) (hU : U8 w) :
    Calls Tryz.prog 47 #[(.agg #[.int .i64 2, .float .f64 n, .string s, .bool y, .int .i64 c])] w fun e w' => e = .returned (.bool (smB 2 n s y c 2 0 s false 0 && Lib.validD s.data.toList)) ∧ Fr noB w w' := by
  have H1 := ptext_any s
  have H2 := psame_any 2 n s y c 2 0 s false 0
  have H3 : Hid (∀ W, Fr noB w W → Calls Tryz.prog 51 #[.string s] W fun e w' => e = .returned (.bool (Lib.validD s.data.toList)) ∧ Fr noB W w') := fun W hW => valid_any s W (by omega) (hU.fr hW)
  clear hU
  generalize Lib.validD s.data.toList = B at *
  generalize smB 2 n s y c 2 0 s false 0 = A at *
  cases A with
  | true =>
    rw [Bool.true_and]
    go_enter Tryz.func47, Tryz.ntmps47
    go_wp2_with fail
    obtain ⟨W0, hW0⟩ : ∃ W0, w.alloc (.cells #[.int .i64 2, .float .f64 n, .string s, .bool y, .int .i64 c] 37 (0, 0)) = W0 := ⟨_, rfl⟩
    have hA : VAt W0 w.heap.size 2 n s y c := ⟨by rw [← hW0]; exact heap_alloc_new w _⟩
    have hF0 : Fr noB w W0 := by rw [← hW0]; exact (Fr.refl noB w).alloc _
    have HA : Hid _ := And.intro hA hF0
    rw [hW0]
    clear hW0
    have HK : Hid (∀ W, Fr noB W0 W → W.cell? ⟨w.heap.size, 0, none⟩ = some (.int .i64 2) ∧ W.cell? ⟨w.heap.size, 1, none⟩ = some (.float .f64 n) ∧ W.cell? ⟨w.heap.size, 2, none⟩ = some (.string s) ∧ W.cell? ⟨w.heap.size, 3, none⟩ = some (.bool y) ∧ W.cell? ⟨w.heap.size, 4, none⟩ = some (.int .i64 c)) := fun W h => ⟨(HA.out.1.fr h id).c0, (HA.out.1.fr h id).c1, (HA.out.1.fr h id).c2, (HA.out.1.fr h id).c3, (HA.out.1.fr h id).c4⟩
    have a0 := hA.c0
    have a1 := hA.c1
    have a2 := hA.c2
    have a3 := hA.c3
    have a4 := hA.c4
    clear hA hF0
    go_wp2_with fail
    go_region_held3 (fun W => W.cell? ⟨w.heap.size, 0, none⟩ = some (.int .i64 2) ∧ W.cell? ⟨w.heap.size, 1, none⟩ = some (.float .f64 n) ∧ W.cell? ⟨w.heap.size, 2, none⟩ = some (.string s) ∧ W.cell? ⟨w.heap.size, 3, none⟩ = some (.bool y) ∧ W.cell? ⟨w.heap.size, 4, none⟩ = some (.int .i64 c))
      (exact HK.out _ (by repeat first | assumption | exact Fr.refl _ _ | exact Fr.drew (by assumption) | exact (Fr.refl _ _).drew | refine Fr.trans ?_ (by assumption)))
      (first
        | (go_at_call 57; refine (H1 _).mono ?_; rintro e w1 ⟨rfl, hF1⟩)
        | (go_at_call 55; refine (H2 _).mono ?_; rintro e w2 ⟨rfl, hF2⟩)
        | (go_at_call 51; refine (H3.out _ (by have hb := HA.out.2; repeat first | assumption | exact Fr.drew (by assumption) | exact (Fr.refl _ _).drew | refine Fr.trans ?_ (by assumption))).mono ?_; rintro e w3 ⟨rfl, hF3⟩))
    all_goals
      go_wp2_with fail
      go_ret
      refine ⟨rfl, ?_⟩
      have hb := HA.out.2
      repeat first | assumption | exact Fr.drew (by assumption) | exact (Fr.refl _ _).drew | refine Fr.trans ?_ (by assumption)
  | false =>
    rw [Bool.false_and]
    clear H3
    go_enter Tryz.func47, Tryz.ntmps47
    go_wp2_with fail
    obtain ⟨W0, hW0⟩ : ∃ W0, w.alloc (.cells #[.int .i64 2, .float .f64 n, .string s, .bool y, .int .i64 c] 37 (0, 0)) = W0 := ⟨_, rfl⟩
    have hA : VAt W0 w.heap.size 2 n s y c := ⟨by rw [← hW0]; exact heap_alloc_new w _⟩
    have hF0 : Fr noB w W0 := by rw [← hW0]; exact (Fr.refl noB w).alloc _
    have HA : Hid _ := And.intro hA hF0
    rw [hW0]
    clear hW0
    have HK : Hid (∀ W, Fr noB W0 W → W.cell? ⟨w.heap.size, 0, none⟩ = some (.int .i64 2) ∧ W.cell? ⟨w.heap.size, 1, none⟩ = some (.float .f64 n) ∧ W.cell? ⟨w.heap.size, 2, none⟩ = some (.string s) ∧ W.cell? ⟨w.heap.size, 3, none⟩ = some (.bool y) ∧ W.cell? ⟨w.heap.size, 4, none⟩ = some (.int .i64 c)) := fun W h => ⟨(HA.out.1.fr h id).c0, (HA.out.1.fr h id).c1, (HA.out.1.fr h id).c2, (HA.out.1.fr h id).c3, (HA.out.1.fr h id).c4⟩
    have a0 := hA.c0
    have a1 := hA.c1
    have a2 := hA.c2
    have a3 := hA.c3
    have a4 := hA.c4
    clear hA hF0
    go_wp2_with fail
    first
      | go_region_with (first
          | (go_at_call 57; refine (H1 _).mono ?_; rintro e w1 ⟨rfl, hF1⟩; obtain ⟨g0, g1, g2, g3, g4⟩ := HK.out w1 (by repeat first | assumption | exact Fr.refl _ _ | exact Fr.drew (by assumption) | exact (Fr.refl _ _).drew | refine Fr.trans ?_ (by assumption)))
          | (go_at_call 55; refine (H2 _).mono ?_; rintro e w2 ⟨rfl, hF2⟩; obtain ⟨g0, g1, g2, g3, g4⟩ := HK.out w2 (by repeat first | assumption | exact Fr.refl _ _ | exact Fr.drew (by assumption) | exact (Fr.refl _ _).drew | refine Fr.trans ?_ (by assumption))))
      | fail
    all_goals
      go_wp2_with fail
      go_ret
      refine ⟨rfl, ?_⟩
      have hb := HA.out.2
      repeat first | assumption | exact Fr.drew (by assumption) | exact (Fr.refl _ _).drew | refine Fr.trans ?_ (by assumption)
set_option maxRecDepth 100000 in
set_option maxHeartbeats 4000000 in
theorem formed4 (n : Nat) (s : ByteArray) (y : Bool) (c : Int) (w : World) :
    Calls Tryz.prog 47 #[(.agg #[.int .i64 4, .float .f64 n, .string s, .bool y, .int .i64 c])] w fun e w' => e = .returned (.bool (smB 4 n s y c 4 0 ⟨#[]⟩ false c && decide (1 ≤ c ∧ c ≤ 9))) ∧ Fr noB w w' := by
  have H1 := perr_any c
  have H2 := psame_any 4 n s y c 4 0 ⟨#[]⟩ false c
  have H3 := isCode_any c
  generalize decide (1 ≤ c ∧ c ≤ 9) = B at *
  generalize smB 4 n s y c 4 0 ⟨#[]⟩ false c = A at *
  cases A with
  | true =>
    rw [Bool.true_and]
    go_enter Tryz.func47, Tryz.ntmps47
    go_wp2_with fail
    obtain ⟨W0, hW0⟩ : ∃ W0, w.alloc (.cells #[.int .i64 4, .float .f64 n, .string s, .bool y, .int .i64 c] 37 (0, 0)) = W0 := ⟨_, rfl⟩
    have hA : VAt W0 w.heap.size 4 n s y c := ⟨by rw [← hW0]; exact heap_alloc_new w _⟩
    have hF0 : Fr noB w W0 := by rw [← hW0]; exact (Fr.refl noB w).alloc _
    have HA : Hid _ := And.intro hA hF0
    rw [hW0]
    clear hW0
    have HK : Hid (∀ W, Fr noB W0 W → W.cell? ⟨w.heap.size, 0, none⟩ = some (.int .i64 4) ∧ W.cell? ⟨w.heap.size, 1, none⟩ = some (.float .f64 n) ∧ W.cell? ⟨w.heap.size, 2, none⟩ = some (.string s) ∧ W.cell? ⟨w.heap.size, 3, none⟩ = some (.bool y) ∧ W.cell? ⟨w.heap.size, 4, none⟩ = some (.int .i64 c)) := fun W h => ⟨(HA.out.1.fr h id).c0, (HA.out.1.fr h id).c1, (HA.out.1.fr h id).c2, (HA.out.1.fr h id).c3, (HA.out.1.fr h id).c4⟩
    have a0 := hA.c0
    have a1 := hA.c1
    have a2 := hA.c2
    have a3 := hA.c3
    have a4 := hA.c4
    clear hA hF0
    go_wp2_with fail
    go_region_held3 (fun W => W.cell? ⟨w.heap.size, 0, none⟩ = some (.int .i64 4) ∧ W.cell? ⟨w.heap.size, 1, none⟩ = some (.float .f64 n) ∧ W.cell? ⟨w.heap.size, 2, none⟩ = some (.string s) ∧ W.cell? ⟨w.heap.size, 3, none⟩ = some (.bool y) ∧ W.cell? ⟨w.heap.size, 4, none⟩ = some (.int .i64 c))
      (exact HK.out _ (by repeat first | assumption | exact Fr.refl _ _ | exact Fr.drew (by assumption) | exact (Fr.refl _ _).drew | refine Fr.trans ?_ (by assumption)))
      (first
        | (go_at_call 32; refine (H1 _).mono ?_; rintro e w1 ⟨rfl, hF1⟩)
        | (go_at_call 55; refine (H2 _).mono ?_; rintro e w2 ⟨rfl, hF2⟩)
        | (go_at_call 59; refine (H3 _).mono ?_; rintro e w3 ⟨rfl, hF3⟩; subst hF3))
    all_goals
      go_wp2_with fail
      go_ret
      refine ⟨rfl, ?_⟩
      have hb := HA.out.2
      repeat first | assumption | exact Fr.drew (by assumption) | exact (Fr.refl _ _).drew | refine Fr.trans ?_ (by assumption)
  | false =>
    rw [Bool.false_and]
    clear H3
    go_enter Tryz.func47, Tryz.ntmps47
    go_wp2_with fail
    obtain ⟨W0, hW0⟩ : ∃ W0, w.alloc (.cells #[.int .i64 4, .float .f64 n, .string s, .bool y, .int .i64 c] 37 (0, 0)) = W0 := ⟨_, rfl⟩
    have hA : VAt W0 w.heap.size 4 n s y c := ⟨by rw [← hW0]; exact heap_alloc_new w _⟩
    have hF0 : Fr noB w W0 := by rw [← hW0]; exact (Fr.refl noB w).alloc _
    have HA : Hid _ := And.intro hA hF0
    rw [hW0]
    clear hW0
    have HK : Hid (∀ W, Fr noB W0 W → W.cell? ⟨w.heap.size, 0, none⟩ = some (.int .i64 4) ∧ W.cell? ⟨w.heap.size, 1, none⟩ = some (.float .f64 n) ∧ W.cell? ⟨w.heap.size, 2, none⟩ = some (.string s) ∧ W.cell? ⟨w.heap.size, 3, none⟩ = some (.bool y) ∧ W.cell? ⟨w.heap.size, 4, none⟩ = some (.int .i64 c)) := fun W h => ⟨(HA.out.1.fr h id).c0, (HA.out.1.fr h id).c1, (HA.out.1.fr h id).c2, (HA.out.1.fr h id).c3, (HA.out.1.fr h id).c4⟩
    have a0 := hA.c0
    have a1 := hA.c1
    have a2 := hA.c2
    have a3 := hA.c3
    have a4 := hA.c4
    clear hA hF0
    go_wp2_with fail
    first
      | go_region_with (first
          | (go_at_call 32; refine (H1 _).mono ?_; rintro e w1 ⟨rfl, hF1⟩; obtain ⟨g0, g1, g2, g3, g4⟩ := HK.out w1 (by repeat first | assumption | exact Fr.refl _ _ | exact Fr.drew (by assumption) | exact (Fr.refl _ _).drew | refine Fr.trans ?_ (by assumption)))
          | (go_at_call 55; refine (H2 _).mono ?_; rintro e w2 ⟨rfl, hF2⟩; obtain ⟨g0, g1, g2, g3, g4⟩ := HK.out w2 (by repeat first | assumption | exact Fr.refl _ _ | exact Fr.drew (by assumption) | exact (Fr.refl _ _).drew | refine Fr.trans ?_ (by assumption))))
      | fail
    all_goals
      go_wp2_with fail
      go_ret
      refine ⟨rfl, ?_⟩
      have hb := HA.out.2
      repeat first | assumption | exact Fr.drew (by assumption) | exact (Fr.refl _ _).drew | refine Fr.trans ?_ (by assumption)
set_option maxRecDepth 100000 in
set_option maxHeartbeats 4000000 in
theorem formedO (k : Int) (hk : k < 0 ∨ 4 < k) (n : Nat) (s : ByteArray) (y : Bool) (c : Int) (w : World) :
    Calls Tryz.prog 47 #[(.agg #[.int .i64 k, .float .f64 n, .string s, .bool y, .int .i64 c])] w fun e w' => e = .returned (.bool false) ∧ Fr noB w w' := by
  have q0 : (k == 0) = false := by rw [beq_eq_false_iff_ne]; omega
  have q1 : (k == 1) = false := by rw [beq_eq_false_iff_ne]; omega
  have q2 : (k == 2) = false := by rw [beq_eq_false_iff_ne]; omega
  have q3 : (k == 3) = false := by rw [beq_eq_false_iff_ne]; omega
  have q4 : (k == 4) = false := by rw [beq_eq_false_iff_ne]; omega
  clear hk
  go_enter Tryz.func47, Tryz.ntmps47
  go_wp2_with fail
  go_ret
  exact ⟨rfl, (Fr.refl noB w).alloc _⟩
theorem formed_any (k : Int) (n : Nat) (hn : n < 18446744073709551616) (s : ByteArray) (y : Bool) (c : Int) (w : World) (hs : s.size ≤ 140737488355328) (hU : U8 w) :
    Calls Tryz.prog 47 #[(.agg #[.int .i64 k, .float .f64 n, .string s, .bool y, .int .i64 c])] w fun e w' => e = .returned (.bool (fm k n s y c)) ∧ Fr noB w w' := by
  have h : k < 0 ∨ 4 < k ∨ k = 0 ∨ k = 1 ∨ k = 2 ∨ k = 3 ∨ k = 4 := by omega
  rcases h with h | h | rfl | rfl | rfl | rfl | rfl
  · rw [show fm k n s y c = false by unfold fm; rw [if_neg (by omega), if_neg (by omega), if_neg (by omega), if_neg (by omega), if_neg (by omega)]]
    exact formedO k (Or.inl h) n s y c w
  · rw [show fm k n s y c = false by unfold fm; rw [if_neg (by omega), if_neg (by omega), if_neg (by omega), if_neg (by omega), if_neg (by omega)]]
    exact formedO k (Or.inr h) n s y c w
  · rw [show fm 0 n s y c = smB 0 n s y c 0 0 ⟨#[]⟩ false 0 by simp [fm, smB]]
    exact formed0 n s y c w
  · rw [show fm 1 n s y c = smB 1 n s y c (rkK n) (rkN n) ⟨#[]⟩ false (rkE n) by
      unfold fm smB rkK rkN rkE
      rw [if_neg (by omega), if_pos rfl]
      by_cases hf : finB n = false
      · rw [if_pos hf, if_pos hf, if_pos hf]
        simp [hf]
      · rw [if_neg hf, if_neg hf, if_neg hf]
        have hf2 : finB n = true := by simpa using hf
        by_cases h0 : n % 9223372036854775808 = 0
        · rw [if_pos h0]
          rw [Bool.eq_iff_iff]
          simp only [decide_eq_true_eq]
          constructor
          · rintro ⟨_, h2, h3, h4, h5⟩
            exact ⟨by first | rfl | trivial, by omega, h3, h4, h5⟩
          · rintro ⟨_, h2, h3, h4, h5⟩
            exact ⟨hf2, by omega, h3, h4, h5⟩
        · rw [if_neg h0]
          rw [Bool.eq_iff_iff]
          simp only [decide_eq_true_eq]
          constructor
          · rintro ⟨_, h2, h3, h4, h5⟩
            exact ⟨by first | rfl | trivial, by first | rfl | trivial, h3, h4, h5⟩
          · rintro ⟨_, h2, h3, h4, h5⟩
            exact ⟨hf2, by omega, h3, h4, h5⟩]
    exact formed1 n hn s y c w
  · rw [show fm 2 n s y c = (smB 2 n s y c 2 0 s false 0 && Lib.validD s.data.toList) by simp [fm, smB]]
    exact formed2 n s y c w hs hU
  · rw [show fm 3 n s y c = smB 3 n s y c 3 0 ⟨#[]⟩ y 0 by simp [fm, smB]]
    exact formed3 n s y c w
  · rw [show fm 4 n s y c = (smB 4 n s y c 4 0 ⟨#[]⟩ false c && decide (1 ≤ c ∧ c ≤ 9)) by
      rw [Bool.eq_iff_iff]
      simp [fm, smB]
      constructor
      · rintro ⟨a, b, d, e, f⟩
        exact ⟨⟨a, b, d⟩, e, f⟩
      · rintro ⟨⟨a, b, d⟩, e, f⟩
        exact ⟨a, b, d, e, f⟩]
    exact formed4 n s y c w
set_option maxRecDepth 100000 in
set_option maxHeartbeats 4000000 in
theorem pcheck_any (k : Int) (n : Nat) (hn : n < 18446744073709551616) (s : ByteArray) (y : Bool) (c : Int) (w : World) (hs : s.size ≤ 140737488355328) (hU : U8 w) :
    Calls Tryz.prog 42 #[(.agg #[.int .i64 k, .float .f64 n, .string s, .bool y, .int .i64 c])] w fun e w' => e = .returned (.int .i64 (ckF k n s y c)) ∧ Fr noB w w' := by
  have H1 : Hid (∀ W, Fr noB w W → Calls Tryz.prog 47 #[(.agg #[.int .i64 k, .float .f64 n, .string s, .bool y, .int .i64 c])] W fun e w' => e = .returned (.bool (fm k n s y c)) ∧ Fr noB W w') := fun W hW => formed_any k n hn s y c W hs (hU.fr hW)
  have HBX : Hid (VAt (w.alloc (.cells #[.int .i64 k, .float .f64 n, .string s, .bool y, .int .i64 c] 37 (0, 0))) w.heap.size k n s y c) := show VAt _ _ _ _ _ _ _ from ⟨heap_alloc_new w _⟩
  have HF0 : Hid (Fr noB w (w.alloc (.cells #[.int .i64 k, .float .f64 n, .string s, .bool y, .int .i64 c] 37 (0, 0)))) := (Fr.refl noB w).alloc _
  clear hU hn
  unfold ckF
  cases hf : fm k n s y c with
  | false =>
    rw [hf] at H1
    rw [if_pos rfl]
    clear hf
    go_enter Tryz.func42, Tryz.ntmps42
    go_wp2_with (go_at_call 47; refine (H1.out _ HF0.out).mono ?_; rintro e w1 ⟨rfl, hF1⟩)
    go_ret
    exact ⟨rfl, HF0.out.trans hF1⟩
  | true =>
    rw [hf] at H1
    rw [if_neg (by simp)]
    clear hf
    by_cases hl : 32768 < s.size
    · rw [if_pos hl]
      go_enter Tryz.func42, Tryz.ntmps42
      go_wp2_with (go_at_call 47; refine (H1.out _ HF0.out).mono ?_; rintro e w1 ⟨rfl, hF1⟩; have a2 := (HBX.out.fr hF1 id).c2)
      go_ret
      exact ⟨rfl, HF0.out.trans hF1⟩
    · rw [if_neg hl]
      go_enter Tryz.func42, Tryz.ntmps42
      go_wp2_with (go_at_call 47; refine (H1.out _ HF0.out).mono ?_; rintro e w1 ⟨rfl, hF1⟩; have a2 := (HBX.out.fr hF1 id).c2)
      go_ret
      exact ⟨rfl, HF0.out.trans hF1⟩
#print axioms pcheck_any
end Go.Proofs.YtpjbobbmldplbaaGreatDoor
