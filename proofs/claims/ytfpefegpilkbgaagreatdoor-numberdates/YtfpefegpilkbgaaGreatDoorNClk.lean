/- The clock: the program's and the document's contracts. -/
import Derived.Test.YtfpefegpilkbgaaGreatDoorNRfF
namespace Go.Proofs.YtfpefegpilkbgaaGreatDoor
open Go.RowKit Ieee

/-- A number of days as seconds, and a half: the float. -/
def secQ (x : Nat) : Nat := ((floatBits .mul .f64 x 4680673776000565248).bind fun p => floatBits .add .f64 p 4602678819172646912).getD 0
theorem secQ_spec {x : Nat} (hx : Fin x) : ∃ p, floatBits .mul .f64 x 4680673776000565248 = some p ∧ floatBits .add .f64 p 4602678819172646912 = some (secQ x) ∧ NoNaN (secQ x) := by
  obtain ⟨p, h1, h2⟩ := mul_fin (y := 4680673776000565248) hx (fin_of (by decide))
  obtain ⟨q, h3, h4⟩ := add_fin (y := 4602678819172646912) h2 (fin_of (by decide))
  have e : secQ x = q := by unfold secQ; rw [h1]; simp [h3]
  exact ⟨p, h1, by rw [h3, e], by rw [e]; exact h4⟩
set_option maxRecDepth 100000 in
theorem secondsOf_any (x : Nat) (hx : Fin x) (w : World) : Calls Tryz.prog 28 #[.float .f64 x] w fun e w' => ∃ b, e = .returned (.float .f64 b) ∧ (Fin (secQ x) → Fin b ∧ V b = fl (secQ x) * (D : Int)) ∧ (∀ s, double.read (secQ x) = .infinity s → double.read b = .infinity s) ∧ ∃ m, w' = w.drewN m := by
  obtain ⟨p, h1, h2, _⟩ := secQ_spec hx
  have m1 : ∀ W : World, (binOp .mul 25 (.float .f64 x) (.float .f64 4680673776000565248)).run Tryz.prog W = .ok (.float .f64 p) W := fun W => run_float_arith W .mul 25 .f64 x _ p h1
  have m2 : ∀ W : World, (binOp .add 25 (.float .f64 p) (.float .f64 4602678819172646912)).run Tryz.prog W = .ok (.float .f64 (secQ x)) W := fun W => run_float_arith W .add 25 .f64 p _ _ h2
  have HF := floor_any (secQ x)
  clear h1 h2
  generalize secQ x = q at *
  go_enter Tryz.func28, Tryz.ntmps28
  go_wp2_with (go_at_call 37; refine (HF _).mono ?_; rintro e w1 ⟨b, rfl, hb1, hb2, m, rfl⟩)
  go_ret
  exact ⟨b, rfl, hb1, hb2, m, rfl⟩
set_option maxRecDepth 100000 in
theorem rseconds_any (x : Nat) (hx : Fin x) (w : World) : Calls Tryz.prog 30 #[.float .f64 x] w fun e w' => (∃ b, e = .returned (.float .f64 b) ∧ (Fin (secQ x) → Fin b ∧ V b = fl (secQ x) * (D : Int)) ∧ (∀ s, double.read (secQ x) = .infinity s → double.read b = .infinity s)) ∧ w' = w := by
  obtain ⟨p, h1, h2, h3⟩ := secQ_spec hx
  have m1 : ∀ W : World, (binOp .mul 25 (.float .f64 x) (.float .f64 4680673776000565248)).run Tryz.prog W = .ok (.float .f64 p) W := fun W => run_float_arith W .mul 25 .f64 x _ p h1
  have m2 : ∀ W : World, (binOp .add 25 (.float .f64 p) (.float .f64 4602678819172646912)).run Tryz.prog W = .ok (.float .f64 (secQ x)) W := fun W => run_float_arith W .add 25 .f64 p _ _ h2
  have HF := rfloor_any (secQ x) h3
  clear h1 h2 h3
  generalize secQ x = q at *
  go_enter Tryz.func30, Tryz.ntmps30
  go_wp2_with (go_at_call 40; refine (HF _).mono ?_; rintro e w1 ⟨⟨b, rfl, hb1, hb2⟩, rfl⟩)
  go_ret
  exact ⟨⟨b, rfl, hb1, hb2⟩, rfl⟩
set_option maxRecDepth 100000 in
theorem timeOf_any (s : Nat) (hs : s < 86400) (w : World) : Calls Tryz.prog 29 #[.int .i64 (s : Int)] w fun e w' => e = .returned (.tuple #[.int .i64 ((s / 3600 : Nat) : Int), .int .i64 ((s / 60 % 60 : Nat) : Int), .int .i64 ((s % 60 : Nat) : Int)]) ∧ w' = w := by
  have h1 : (s : Int) % 3600 / 60 = ((s / 60 % 60 : Nat) : Int) := by omega
  have h2 : (s : Int) % 3600 % 60 = ((s % 60 : Nat) : Int) := by omega
  have h3 : (s : Int) / 3600 = ((s / 3600 : Nat) : Int) := by omega
  have H1 : Hid _ := h1
  have H2 : Hid _ := h2
  have H3 : Hid _ := h3
  clear h1 h2 h3
  go_enter Tryz.func29, Tryz.ntmps29
  go_wp2_with fail
  go_ret3
  refine ⟨?_, rfl⟩
  rw [← H1.out, ← H2.out, ← H3.out]
  simp
/-- The second in which a number lies, if it has a date. -/
def secF (x : Nat) : Option Int := if finB (secQ x) = false ∨ fl (secQ x) < -59926435200 ∨ 255611462400 ≤ fl (secQ x) then none else some (fl (secQ x))
/-- What the clock answers of a second, counted from the first day on. -/
def clkT (s : Nat) : Value := .tuple #[.int .i64 ((s / 86400 : Nat) - 693593 : Int), .int .i64 ((s % 86400 / 3600 : Nat) : Int), .int .i64 ((s % 86400 / 60 % 60 : Nat) : Int), .int .i64 ((s % 86400 % 60 : Nat) : Int), .int .i64 0]
def clkV (x : Nat) : Value := if finB x = false then .tuple #[.int .i64 0, .int .i64 0, .int .i64 0, .int .i64 0, .int .i64 80] else match secF x with
  | none => .tuple #[.int .i64 0, .int .i64 0, .int .i64 0, .int .i64 0, .int .i64 81]
  | some n => clkT (n + 59926435200).toNat
theorem clk_lo : (13991531520699924480 : Nat) = FloatKind.f64.nearest (-59926435200) := by decide
theorem clk_hi : (4777687881785278464 : Nat) = FloatKind.f64.nearest 255611462400 := by decide
theorem read_lo : ∃ s m e, double.read 13991531520699924480 = .number s m e := fin_of (by decide)
theorem read_hi : ∃ s m e, double.read 4777687881785278464 = .number s m e := fin_of (by decide)
/-- How the seconds stand to the limits. -/
theorem clk_orders {x b : Nat} (hq : NoNaN (secQ x)) (hb1 : Fin (secQ x) → Fin b ∧ V b = fl (secQ x) * (D : Int)) (hb2 : ∀ s, double.read (secQ x) = .infinity s → double.read b = .infinity s) :
    ∃ o1 o2 : Ordering, double.order b 13991531520699924480 = some o1 ∧ double.order b 4777687881785278464 = some o2 ∧ ((∃ n : Nat, secF x = some ((n : Int) - 59926435200) ∧ n < 315537897600 ∧ Fin b ∧ V b = ((n : Int) - 59926435200) * (D : Int) ∧ o1 ≠ .lt ∧ o2 = .lt) ∨ (secF x = none ∧ (o1 = .lt ∨ (o1 ≠ .lt ∧ o2 ≠ .lt)))) := by
  rcases hq with hq | ⟨s, hq⟩
  · obtain ⟨k1, k2⟩ := hb1 hq
    refine ⟨_, _, order_int k1 k2 clk_lo (by omega) (by omega), order_int k1 k2 clk_hi (by omega) (by omega), ?_⟩
    unfold secF
    rw [finB_of hq]
    generalize fl (secQ x) = f at *
    by_cases c : f < -59926435200 ∨ 255611462400 ≤ f
    · right
      refine ⟨by rw [if_pos (by right; exact c)], ?_⟩
      rcases c with c | c
      · left; exact Int.compare_eq_lt.2 c
      · right
        refine ⟨fun h => ?_, fun h => ?_⟩
        · have := Int.compare_eq_lt.1 h; omega
        · have := Int.compare_eq_lt.1 h; omega
    · left
      refine ⟨(f + 59926435200).toNat, ?_, by omega, k1, ?_, ?_, ?_⟩
      · rw [if_neg (by simp; omega)]; congr 1; omega
      · rw [k2]; congr 1; omega
      · intro h; have := Int.compare_eq_lt.1 h; omega
      · exact Int.compare_eq_lt.2 (by omega)
  · have hb := hb2 s hq
    obtain ⟨s', m, e, hh⟩ := read_hi
    obtain ⟨s2, m2, e2, hl⟩ := read_lo
    have hf : secF x = none := by
      unfold secF
      have : finB (secQ x) = false := by unfold finB; rw [hq]
      rw [if_pos (Or.inl this)]
    cases s with
    | false =>
      refine ⟨.gt, .gt, ?_, ?_, Or.inr ⟨hf, Or.inr ⟨by decide, by decide⟩⟩⟩
      · show (double.read b).order (double.read 13991531520699924480) = _; rw [hb, hl]; rfl
      · show (double.read b).order (double.read 4777687881785278464) = _; rw [hb, hh]; rfl
    | true =>
      refine ⟨.lt, .lt, ?_, ?_, Or.inr ⟨hf, Or.inl rfl⟩⟩
      · show (double.read b).order (double.read 13991531520699924480) = _; rw [hb, hl]; rfl
      · show (double.read b).order (double.read 4777687881785278464) = _; rw [hb, hh]; rfl
theorem clkV_none {x : Nat} (h : finB x = true) (hs : secF x = none) : clkV x = .tuple #[.int .i64 0, .int .i64 0, .int .i64 0, .int .i64 0, .int .i64 81] := by
  unfold clkV
  rw [if_neg (by simp [h]), hs]
theorem clkV_some {x n : Nat} (h : finB x = true) (hs : secF x = some ((n : Int) - 59926435200)) : clkV x = clkT n := by
  unfold clkV
  rw [if_neg (by simp [h]), hs]
  show clkT _ = _
  congr 1
  omega
theorem clkV_nan {x : Nat} (h : finB x = false) : clkV x = .tuple #[.int .i64 0, .int .i64 0, .int .i64 0, .int .i64 0, .int .i64 80] := by
  unfold clkV
  rw [if_pos h]
set_option maxRecDepth 100000 in
set_option maxHeartbeats 1000000 in
theorem clock_any (x : Nat) (hx : x < 18446744073709551616) (w : World) : Calls Tryz.prog 12 #[.float .f64 x] w fun e w' => e = .returned (clkV x) ∧ ∃ m, w' = w.drewN m := by
  have HN := finite_any x hx w
  cases hf : finB x with
  | false =>
    rw [hf] at HN
    rw [clkV_nan hf]
    go_enter Tryz.func12, Tryz.ntmps12
    go_wp2_with (go_at_call 27; refine HN.mono ?_; rintro e w1 ⟨rfl, rfl⟩)
    refine bodyPost_ret (results_tmp5 rfl _ _ _) rfl ?_
    exact ⟨rfl, 0, rfl⟩
  | true =>
    rw [hf] at HN
    have HS := secondsOf_any x (fin_of hf)
    obtain ⟨_, _, _, hq⟩ := secQ_spec (fin_of hf)
    have HF : Hid (finB x = true) := hf
    go_enter Tryz.func12, Tryz.ntmps12
    go_wp2_with (go_at_call 27; refine HN.mono ?_; rintro e w1 ⟨rfl, rfl⟩)
    refine (HS _).mono ?_
    rintro e w2 ⟨b, rfl, hb1, hb2, m, rfl⟩
    obtain ⟨o1, o2, e1, e2, hc⟩ := clk_orders hq hb1 hb2
    have e1' : FloatKind.f64.format.order b 13991531520699924480 = some o1 := e1
    have e2' : FloatKind.f64.format.order b 4777687881785278464 = some o2 := e2
    clear e1 e2 hb1 hb2 hq HS HN
    rcases hc with ⟨n, hs, hn, hb1, hb2, ho1, ho2⟩ | ⟨hs, ho⟩
    · subst ho2
      have hti := toInt_V hb1 hb2 (by omega) (by omega)
      have hcv : ∀ W : World, (convert 25 2 (.float .f64 b)).run Tryz.prog W = .ok (.int .i64 ((n : Int) - 59926435200)) W := fun W => run_convert_float_int W 25 2 .f64 .i64 b _ (by rw [Tryz.underlying25]; rfl) Tryz.underlying2 hti
      have HV : Hid (clkV x = clkT n) := show _ = _ from clkV_some hf hs
      clear hf hs hb1 hb2 hti
      have HT := timeOf_any (n % 86400) (Nat.mod_lt _ (by omega))
      rw [show ((n % 86400 : Nat) : Int) = (n : Int) % 86400 by omega] at HT
      have hd : (n : Int) / 86400 + -693593 = ((n / 86400 : Nat) : Int) - 693593 := by omega
      have HD : Hid _ := hd
      clear hd
      cases o1 with
      | lt => exact absurd rfl ho1
      | eq =>
        go_wp2_with (go_at_call 29; refine (HT _).mono ?_; rintro e w3 ⟨rfl, rfl⟩)
        refine bodyPost_ret (results_tmp5 rfl _ _ _) rfl ?_
        rw [HV.out]
        unfold clkT
        rw [← HD.out]
        exact ⟨by simp, m, rfl⟩
      | gt =>
        go_wp2_with (go_at_call 29; refine (HT _).mono ?_; rintro e w3 ⟨rfl, rfl⟩)
        refine bodyPost_ret (results_tmp5 rfl _ _ _) rfl ?_
        rw [HV.out]
        unfold clkT
        rw [← HD.out]
        exact ⟨by simp, m, rfl⟩
    · have HV : Hid _ := clkV_none hf hs
      clear hf hs
      cases o1 with
      | lt =>
        go_wp2_with fail
        refine bodyPost_ret (results_tmp5 rfl _ _ _) rfl ?_
        rw [HV.out]
        exact ⟨rfl, m, rfl⟩
      | eq =>
        cases o2 with
        | lt => exact absurd ho (by decide)
        | eq =>
          go_wp2_with fail
          refine bodyPost_ret (results_tmp5 rfl _ _ _) rfl ?_
          rw [HV.out]
          exact ⟨rfl, m, rfl⟩
        | gt =>
          go_wp2_with fail
          refine bodyPost_ret (results_tmp5 rfl _ _ _) rfl ?_
          rw [HV.out]
          exact ⟨rfl, m, rfl⟩
      | gt =>
        cases o2 with
        | lt => exact absurd ho (by decide)
        | eq =>
          go_wp2_with fail
          refine bodyPost_ret (results_tmp5 rfl _ _ _) rfl ?_
          rw [HV.out]
          exact ⟨rfl, m, rfl⟩
        | gt =>
          go_wp2_with fail
          refine bodyPost_ret (results_tmp5 rfl _ _ _) rfl ?_
          rw [HV.out]
          exact ⟨rfl, m, rfl⟩
set_option maxRecDepth 100000 in
set_option maxHeartbeats 1000000 in
theorem rclock_any (x : Nat) (w : World) : Calls Tryz.prog 13 #[.float .f64 x] w fun e w' => e = .returned (clkV x) ∧ ∃ m, w' = w.drewN m := by
  have HN := rfinite_any x w
  cases hf : finB x with
  | false =>
    rw [hf] at HN
    rw [clkV_nan hf]
    go_enter Tryz.func13, Tryz.ntmps13
    go_wp2_with (go_at_call 24; refine HN.mono ?_; rintro e w1 ⟨rfl, m, rfl⟩)
    refine bodyPost_ret (results_tmp5 rfl _ _ _) rfl ?_
    exact ⟨rfl, m, rfl⟩
  | true =>
    rw [hf] at HN
    have HS := rseconds_any x (fin_of hf)
    obtain ⟨_, _, _, hq⟩ := secQ_spec (fin_of hf)
    have HF : Hid (finB x = true) := hf
    go_enter Tryz.func13, Tryz.ntmps13
    go_wp2_with (go_at_call 24; refine HN.mono ?_; rintro e w1 ⟨rfl, m, rfl⟩)
    refine (HS _).mono ?_
    rintro e w2 ⟨⟨b, rfl, hb1, hb2⟩, rfl⟩
    obtain ⟨o1, o2, e1, e2, hc⟩ := clk_orders hq hb1 hb2
    have e1' : FloatKind.f64.format.order b 13991531520699924480 = some o1 := e1
    have e2' : FloatKind.f64.format.order b 4777687881785278464 = some o2 := e2
    clear e1 e2 hb1 hb2 hq HS HN
    rcases hc with ⟨n, hs, hn, hb1, hb2, ho1, ho2⟩ | ⟨hs, ho⟩
    · subst ho2
      have hti := toInt_V hb1 hb2 (by omega) (by omega)
      have hcv : ∀ W : World, (convert 25 3 (.float .f64 b)).run Tryz.prog W = .ok (.int .i64 ((n : Int) - 59926435200)) W := fun W => run_convert_float_int W 25 3 .f64 .i64 b _ (by rw [Tryz.underlying25]; rfl) Tryz.underlying3 hti
      have HV : Hid (clkV x = clkT n) := show _ = _ from clkV_some hf hs
      clear hf hs hb1 hb2 hti
      have ho1' : (some o1 == some Ordering.gt || some o1 == some Ordering.eq) = true := by
        cases o1 with
        | lt => exact absurd rfl ho1
        | eq => rfl
        | gt => rfl
      rw [← e1'] at ho1'
      obtain ⟨n0, hn0⟩ : ∃ n0, (n : Int) - 59926435200 = n0 := ⟨_, rfl⟩
      obtain ⟨q, hq⟩ : ∃ q, n0.tdiv 86400 = q := ⟨_, rfl⟩
      obtain ⟨r, hr⟩ : ∃ r, n0.tmod 86400 = r := ⟨_, rfl⟩
      obtain ⟨s, hs⟩ : ∃ s : Nat, n % 86400 = s := ⟨_, rfl⟩
      have hs1 : s < 86400 := by omega
      rw [hn0] at hcv
      have h1 := tdiv_cases n0 86400
      have h2 := tmod_cases n0 86400
      rw [hq] at h1
      rw [hr] at h2
      have hb0 : -59926435200 ≤ n0 ∧ n0 < 255611462400 := by omega
      have hqb : -700000 ≤ q ∧ q ≤ 3000000 := by omega
      have HT : Hid (clkT n = .tuple #[.int .i64 ((n / 86400 : Nat) - 693593 : Int), .int .i64 ((s : Int) / 3600), .int .i64 ((s : Int) / 60 % 60), .int .i64 ((s : Int) % 60), .int .i64 0]) := by
        show _ = _
        unfold clkT
        rw [hs]
        simp
      by_cases hneg : r < 0
      · have hsub : n0 - (q - 1) * 86400 = (s : Int) := by omega
        have HD : Hid (((n / 86400 : Nat) : Int) - 693593 = q - 1) := by show _ = _; omega
        clear h1 h2 hn hs hn0 ho1 e1'
        clear hqb
        have hq1 : -700000 ≤ q - 1 ∧ q - 1 ≤ 3000000 := by omega
        go_wp2_with fail
        refine bodyPost_ret (results_tmp5 rfl _ _ _) rfl ?_
        rw [HV.out, HT.out, HD.out]
        exact ⟨by simp, m, rfl⟩
      · have hsub : n0 - q * 86400 = (s : Int) := by omega
        have HD : Hid (((n / 86400 : Nat) : Int) - 693593 = q) := by show _ = _; omega
        clear h1 h2 hn hs hn0 ho1 e1'
        go_wp2_with fail
        refine bodyPost_ret (results_tmp5 rfl _ _ _) rfl ?_
        rw [HV.out, HT.out, HD.out]
        exact ⟨by simp, m, rfl⟩
    · have HV : Hid _ := clkV_none hf hs
      clear hf hs
      cases o1 with
      | lt =>
        go_wp2_with fail
        refine bodyPost_ret (results_tmp5 rfl _ _ _) rfl ?_
        rw [HV.out]
        exact ⟨rfl, m, rfl⟩
      | eq =>
        cases o2 with
        | lt => exact absurd ho (by decide)
        | eq =>
          go_wp2_with fail
          refine bodyPost_ret (results_tmp5 rfl _ _ _) rfl ?_
          rw [HV.out]
          exact ⟨rfl, m, rfl⟩
        | gt =>
          go_wp2_with fail
          refine bodyPost_ret (results_tmp5 rfl _ _ _) rfl ?_
          rw [HV.out]
          exact ⟨rfl, m, rfl⟩
      | gt =>
        cases o2 with
        | lt => exact absurd ho (by decide)
        | eq =>
          go_wp2_with fail
          refine bodyPost_ret (results_tmp5 rfl _ _ _) rfl ?_
          rw [HV.out]
          exact ⟨rfl, m, rfl⟩
        | gt =>
          go_wp2_with fail
          refine bodyPost_ret (results_tmp5 rfl _ _ _) rfl ?_
          rw [HV.out]
          exact ⟨rfl, m, rfl⟩
#print axioms clk_orders
#print axioms clock_any
#print axioms rclock_any
end Go.Proofs.YtfpefegpilkbgaaGreatDoor
