/- TimeText of both: contracts. -/
import Derived.Test.YtfoclhpnlemmnaaGreatDoorTSec
namespace Go.Proofs.YtfoclhpnlemmnaaGreatDoor
open Go.RowKit Ieee

/-- The text of so many seconds. -/
def ttx (n : Nat) : List UInt8 := [80, 84] ++ padL (n / 3600) 2 ++ 72 :: (padL (n / 60 % 60) 2 ++ 77 :: (padL (n % 60) 2 ++ [83]))
def absF (x : Nat) : Nat := if V x < 0 then Op.negFloat .f64 x else x
/-- How many seconds, if they have a text. -/
def ttN (x : Nat) : Option Nat := if finB (secQ (absF x)) = false ∨ 1125899906842624 < fl (secQ (absF x)) then none else some (fl (secQ (absF x))).toNat
def ttT (b : Bool) (n : Nat) : List UInt8 := if b = true ∧ n ≠ 0 then 45 :: ttx n else ttx n
def ttV (x : Nat) : Value := if finB x = false then .tuple #[.string ⟨#[]⟩, .int .i64 80] else match ttN x with
  | none => .tuple #[.string ⟨#[]⟩, .int .i64 81]
  | some n => .tuple #[.string (baL (ttT (decide (V x < 0)) n)), .int .i64 0]
theorem abs_V {x : Nat} (hx : x < 18446744073709551616) (hf : Fin x) : Fin (absF x) ∧ 0 ≤ V (absF x) ∧ absF x < 18446744073709551616 := by
  unfold absF
  split
  · obtain ⟨h1, h2⟩ := neg_V hx hf
    exact ⟨h1, by rw [h2]; omega, neg_lt x hx⟩
  · exact ⟨hf, by omega, hx⟩
theorem lim_50 : (4832362400168542208 : Nat) = FloatKind.f64.nearest 1125899906842624 := by decide
theorem read_50 : ∃ s m e, double.read 4832362400168542208 = .number s m e := fin_of (by decide)
theorem zero_near : (0 : Nat) = FloatKind.f64.nearest 0 := by decide
/-- How the seconds stand to their limit. -/
theorem tt_orders {x b : Nat} (hx : x < 18446744073709551616) (hf : Fin x) (hb1 : Fin (secQ (absF x)) → Fin b ∧ V b = fl (secQ (absF x)) * (D : Int)) (hb2 : ∀ s, double.read (secQ (absF x)) = .infinity s → double.read b = .infinity s) :
    (ttN x = none ∧ (double.order b 4832362400168542208 == some .gt) = true) ∨ ∃ n : Nat, ttN x = some n ∧ n ≤ 1125899906842624 ∧ (double.order b 4832362400168542208 == some .gt) = false ∧ floatToIntVal .f64 b .i64 = some (n : Int) ∧ (double.order b 0 == some .gt) = decide (0 < n) := by
  obtain ⟨ha, ha0, _⟩ := abs_V hx hf
  rcases secQ_low ha ha0 with ⟨hq, hq0⟩ | hq
  · obtain ⟨k1, k2⟩ := hb1 hq
    have hf0 := fl_nonneg hq0
    have o1 := order_int k1 k2 lim_50 (by omega) (by omega)
    have o2 := order_int k1 k2 zero_near (by omega) (by omega)
    rw [o1, o2, cmp_gt, cmp_gt]
    unfold ttN
    rw [finB_of hq]
    generalize fl (secQ (absF x)) = f at *
    by_cases c : 1125899906842624 < f
    · left
      rw [if_pos (Or.inr c), decide_eq_true c]
      exact ⟨rfl, rfl⟩
    · right
      rw [if_neg (by simp; omega), decide_eq_false c]
      refine ⟨f.toNat, rfl, by omega, rfl, ?_, ?_⟩
      · rw [show ((f.toNat : Nat) : Int) = f by omega]
        exact toInt_V k1 k2 (by omega) (by omega)
      · rw [Bool.eq_iff_iff]
        simp
  · left
    have hb := hb2 false hq
    obtain ⟨s', m, e, hh⟩ := read_50
    constructor
    · unfold ttN
      rw [if_pos (Or.inl (by unfold finB; rw [hq]))]
    · have : double.order b 4832362400168542208 = some .gt := by
        show (double.read b).order (double.read 4832362400168542208) = _
        rw [hb, hh]
        rfl
      rw [this]
      rfl
set_option maxRecDepth 100000 in
theorem timeOf2_any (s : Nat) (hs : s ≤ 1125899906842624) (w : World) : Calls Tryz.prog 25 #[.int .i64 (s : Int)] w fun e w' => e = .returned (.tuple #[.int .i64 ((s / 3600 : Nat) : Int), .int .i64 ((s / 60 % 60 : Nat) : Int), .int .i64 ((s % 60 : Nat) : Int)]) ∧ w' = w := by
  have h1 : (s : Int) % 3600 / 60 = ((s / 60 % 60 : Nat) : Int) := by omega
  have h2 : (s : Int) % 3600 % 60 = ((s % 60 : Nat) : Int) := by omega
  have h3 : (s : Int) / 3600 = ((s / 3600 : Nat) : Int) := by omega
  have H1 : Hid _ := h1
  have H2 : Hid _ := h2
  have H3 : Hid _ := h3
  clear h1 h2 h3
  go_enter Tryz.func25, Tryz.ntmps25
  go_wp2_with fail
  go_ret3
  refine ⟨?_, rfl⟩
  rw [← H1.out, ← H2.out, ← H3.out]
  simp
set_option maxRecDepth 100000 in
theorem signed_f (s : ByteArray) (w : World) : Calls Tryz.prog 26 #[.bool false, .string s] w fun e w' => e = .returned (.string s) ∧ w' = w := signed01 s w
set_option maxRecDepth 100000 in
theorem signed_t (s : ByteArray) (hs : s.size ≤ 1000) (w : World) : Calls Tryz.prog 26 #[.bool true, .string s] w fun e w' => e = .returned (.string (⟨#[45]⟩ ++ s)) ∧ w' = w := by
  go_enter Tryz.func26, Tryz.ntmps26
  go_wp2_with fail
  go_ret
  exact ⟨rfl, rfl⟩
theorem ttV_none {x : Nat} (h : finB x = true) (hs : ttN x = none) : ttV x = .tuple #[.string ⟨#[]⟩, .int .i64 81] := by unfold ttV; rw [if_neg (by simp [h]), hs]
theorem ttV_some {x n : Nat} (h : finB x = true) (hs : ttN x = some n) : ttV x = .tuple #[.string (baL (ttT (decide (V x < 0)) n)), .int .i64 0] := by unfold ttV; rw [if_neg (by simp [h]), hs]

set_option maxRecDepth 100000 in
set_option maxHeartbeats 2000000 in
theorem timeText_any (x : Nat) (hx : x < 18446744073709551616) (w : World) (hU : UTab w) : Calls Tryz.prog 8 #[.float .f64 x] w fun e w' => e = .returned (ttV x) ∧ Fr noB w w' := by
  have HN := finite_any x hx w
  cases hf : finB x with
  | false =>
    rw [hf] at HN
    have hV : ttV x = .tuple #[.string ⟨#[]⟩, .int .i64 80] := by unfold ttV; rw [if_pos hf]
    rw [hV]
    clear hV hf
    go_enter Tryz.func8, Tryz.ntmps8
    go_wp2_with (go_at_call 23; refine HN.mono ?_; rintro e w1 ⟨rfl, rfl⟩)
    go_ret2
    exact ⟨rfl, Fr.refl noB _⟩
  | true =>
    rw [hf] at HN
    have hfin := fin_of hf
    have hlt := V_lt0 hfin
    obtain ⟨ha, _, ha2⟩ := abs_V hx hfin
    have HS := secondsOf_any (absF x) ha
    have HO := fun b => tt_orders (b := b) hx hfin
    have HVN : Hid (ttN x = none → ttV x = .tuple #[.string ⟨#[]⟩, .int .i64 81]) := ttV_none hf
    have HVS : Hid (∀ n, ttN x = some n → ttV x = .tuple #[.string (baL (ttT (decide (V x < 0)) n)), .int .i64 0]) := fun n => ttV_some hf
    generalize ttV x = ANS at *
    generalize ttN x = TN at *
    have HPP : Hid (∀ (a b : Nat) (W : World), a ≤ 9223372036854775807 → b ≤ 4 → Fr noB w W → Calls Tryz.prog 18 #[.int .i64 (a : Int), .int .i64 (b : Int)] W fun e w' => e = .returned (.string (baL (padL a b))) ∧ Fr noB W w') := fun a b W ha hb hW => padded_any a b ha hb W (hU.fr hW)
    have HTD : Hid (∀ (a : Nat) (W : World), a ≤ 9223372036854775807 → Fr noB w W → Calls Tryz.prog 19 #[.int .i64 (a : Int)] W fun e w' => e = .returned (.string (baL (padL a 2))) ∧ Fr noB W w') := fun a W ha hW => two_any a ha W (hU.fr hW)
    by_cases hneg : V x < 0
    · have habs : absF x = Op.negFloat .f64 x := by unfold absF; rw [if_pos hneg]
      rw [habs] at HS HO
      rw [decide_eq_true hneg] at hlt HVS
      clear habs ha ha2 hf hfin
      have hng : ∀ W, (Op.unary .neg (.float .f64 x)).run Tryz.prog W = .ok (.float .f64 (Op.negFloat .f64 x)) W := fun W => rfl
      have HSS : Hid _ := HS
      have HOO : Hid _ := HO
      clear HS HO hneg
      go_enter Tryz.func8, Tryz.ntmps8
      go_wp2_with fail
      refine HN.mono ?_
      rintro e w1 ⟨rfl, rfl⟩
      go_wp2_with fail
      refine (HSS.out _).mono ?_
      rintro e w2 ⟨b, rfl, hb1, hb2, m2, rfl⟩
      have G0 : Hid (Fr noB w1 (w1.drewN m2)) := (Fr.refl noB w1).drewN m2
      have hO := HOO.out b hb1 hb2
      clear hb1 hb2 HSS HOO HN
      rcases hO with ⟨hn, o1⟩ | ⟨n, hn, hn50, o1, hti, o2⟩
      · have o1' : (FloatKind.f64.format.order b 4832362400168542208 == some .gt) = true := o1
        have HA : Hid _ := HVN.out hn
        clear hn o1 HVN HVS HPP HTD
        go_wp2_with fail
        go_ret2
        rw [HA.out]
        exact ⟨rfl, G0.out⟩
      · have o1' : (FloatKind.f64.format.order b 4832362400168542208 == some .gt) = false := o1
        have o2' : (FloatKind.f64.format.order b 0 == some .gt) = decide (0 < n) := o2
        have hcv : ∀ W : World, (convert 23 2 (.float .f64 b)).run Tryz.prog W = .ok (.int .i64 (n : Int)) W := fun W => run_convert_float_int W 23 2 .f64 .i64 b _ (by rw [Tryz.underlying23]; rfl) Tryz.underlying2 hti
        have HA : Hid _ := HVS.out n hn
        clear hn o1 o2 HVN HVS hti
        by_cases hn0 : 0 < n
        · have HZ : Hid (ANS = .tuple #[.string (baL (45 :: ttx n)), .int .i64 0]) := by show _ = _; rw [HA.out]; unfold ttT; rw [if_pos ⟨rfl, by omega⟩]
          rw [decide_eq_true hn0] at o2'
          have hb0 : ((n : Int) != 0) = true := by rw [bne_iff_ne]; omega
          have HTO := timeOf2_any n hn50
          obtain ⟨h, hh⟩ : ∃ h, n / 3600 = h := ⟨_, rfl⟩
          obtain ⟨mi, hmi⟩ : ∃ mi, n / 60 % 60 = mi := ⟨_, rfl⟩
          obtain ⟨se, hse⟩ : ∃ se, n % 60 = se := ⟨_, rfl⟩
          have HTX : Hid (ttx n = [80, 84] ++ padL h 2 ++ 72 :: (padL mi 2 ++ 77 :: (padL se 2 ++ [83]))) := by show _ = _; unfold ttx; rw [hh, hmi, hse]
          have b1 : h ≤ 1125899906842624 := by omega
          have b2 : mi < 60 := by omega
          have b3 : se < 60 := by omega
          rw [hh, hmi, hse] at HTO
          clear hh hmi hse
          generalize ttx n = TX at *
          go_wp2_with fail
          refine (HTO _).mono ?_
          rintro e w3 ⟨rfl, rfl⟩
          go_wp2_with fail
          refine (HPP.out h 2 _ (by omega) (by omega) G0.out).mono ?_
          rintro e w4 ⟨rfl, hF⟩
          have Gw4 : Hid _ := (G0.out).trans hF
          clear hF
          have hA : (baL (padL h 2)).size ≤ 30 := pad_len h 2 (by omega) (by omega)
          obtain ⟨A, HA1⟩ : ∃ X, Hid (baL (padL h 2) = X) := ⟨_, rfl⟩
          rw [HA1.out] at hA ⊢
          go_wp2_with fail
          refine (HTD.out mi _ (by omega) Gw4.out).mono ?_
          rintro e w5 ⟨rfl, hF⟩
          have Gw5 : Hid _ := (Gw4.out).trans hF
          clear hF
          have hB : (baL (padL mi 2)).size ≤ 30 := pad_len mi 2 (by omega) (by omega)
          obtain ⟨B, HB⟩ : ∃ X, Hid (baL (padL mi 2) = X) := ⟨_, rfl⟩
          rw [HB.out] at hB ⊢
          go_wp2_with fail
          refine (HTD.out se _ (by omega) Gw5.out).mono ?_
          rintro e w6 ⟨rfl, hF⟩
          have Gw6 : Hid _ := (Gw5.out).trans hF
          clear hF
          have hC : (baL (padL se 2)).size ≤ 30 := pad_len se 2 (by omega) (by omega)
          obtain ⟨C, HC⟩ : ∃ X, Hid (baL (padL se 2) = X) := ⟨_, rfl⟩
          rw [HC.out] at hC ⊢
          go_wp2_with fail
          have EQ : Hid (⟨#[80, 84]⟩ ++ A ++ ⟨#[72]⟩ ++ B ++ ⟨#[77]⟩ ++ C ++ ⟨#[83]⟩ = baL TX) := by
            show _ = _
            rw [HTX.out]
            have e1 : baL (padL h 2) = A := HA1.out
            have e2 : baL (padL mi 2) = B := HB.out
            have e3 : baL (padL se 2) = C := HC.out
            rw [← e1, ← e2, ← e3, show (⟨#[80, 84]⟩ : ByteArray) = baL [80, 84] from rfl]
            simp only [ba_one, baL_append, List.append_assoc, List.cons_append, List.nil_append]
          refine (signed_t _ (by simp only [ByteArray.size_append, show (⟨#[80, 84]⟩ : ByteArray).size = 2 from rfl, show (⟨#[72]⟩ : ByteArray).size = 1 from rfl, show (⟨#[77]⟩ : ByteArray).size = 1 from rfl, show (⟨#[83]⟩ : ByteArray).size = 1 from rfl]; omega) _).mono ?_
          rintro e w7 ⟨rfl, rfl⟩
          go_wp2_with fail
          go_ret2
          refine ⟨?_, Gw6.out⟩
          have EQ2 : ⟨#[45]⟩ ++ (⟨#[80, 84]⟩ ++ A ++ ⟨#[72]⟩ ++ B ++ ⟨#[77]⟩ ++ C ++ ⟨#[83]⟩) = baL (45 :: TX) := by rw [EQ.out, ba_one, baL_append]; rfl
          rw [HZ.out, ← EQ2]
          rfl
        · have HZ : Hid (ANS = .tuple #[.string (baL (ttx n)), .int .i64 0]) := by show _ = _; rw [HA.out]; unfold ttT; rw [if_neg (by omega)]
          rw [decide_eq_false hn0] at o2'
          have hb0 : ((n : Int) != 0) = false := by rw [bne_eq_false_iff_eq]; omega
          clear hn0
          have HTO := timeOf2_any n hn50
          obtain ⟨h, hh⟩ : ∃ h, n / 3600 = h := ⟨_, rfl⟩
          obtain ⟨mi, hmi⟩ : ∃ mi, n / 60 % 60 = mi := ⟨_, rfl⟩
          obtain ⟨se, hse⟩ : ∃ se, n % 60 = se := ⟨_, rfl⟩
          have HTX : Hid (ttx n = [80, 84] ++ padL h 2 ++ 72 :: (padL mi 2 ++ 77 :: (padL se 2 ++ [83]))) := by show _ = _; unfold ttx; rw [hh, hmi, hse]
          have b1 : h ≤ 1125899906842624 := by omega
          have b2 : mi < 60 := by omega
          have b3 : se < 60 := by omega
          rw [hh, hmi, hse] at HTO
          clear hh hmi hse
          generalize ttx n = TX at *
          go_wp2_with fail
          refine (HTO _).mono ?_
          rintro e w3 ⟨rfl, rfl⟩
          go_wp2_with fail
          refine (HPP.out h 2 _ (by omega) (by omega) G0.out).mono ?_
          rintro e w4 ⟨rfl, hF⟩
          have Gw4 : Hid _ := (G0.out).trans hF
          clear hF
          have hA : (baL (padL h 2)).size ≤ 30 := pad_len h 2 (by omega) (by omega)
          obtain ⟨A, HA1⟩ : ∃ X, Hid (baL (padL h 2) = X) := ⟨_, rfl⟩
          rw [HA1.out] at hA ⊢
          go_wp2_with fail
          refine (HTD.out mi _ (by omega) Gw4.out).mono ?_
          rintro e w5 ⟨rfl, hF⟩
          have Gw5 : Hid _ := (Gw4.out).trans hF
          clear hF
          have hB : (baL (padL mi 2)).size ≤ 30 := pad_len mi 2 (by omega) (by omega)
          obtain ⟨B, HB⟩ : ∃ X, Hid (baL (padL mi 2) = X) := ⟨_, rfl⟩
          rw [HB.out] at hB ⊢
          go_wp2_with fail
          refine (HTD.out se _ (by omega) Gw5.out).mono ?_
          rintro e w6 ⟨rfl, hF⟩
          have Gw6 : Hid _ := (Gw5.out).trans hF
          clear hF
          have hC : (baL (padL se 2)).size ≤ 30 := pad_len se 2 (by omega) (by omega)
          obtain ⟨C, HC⟩ : ∃ X, Hid (baL (padL se 2) = X) := ⟨_, rfl⟩
          rw [HC.out] at hC ⊢
          go_wp2_with fail
          have EQ : Hid (⟨#[80, 84]⟩ ++ A ++ ⟨#[72]⟩ ++ B ++ ⟨#[77]⟩ ++ C ++ ⟨#[83]⟩ = baL TX) := by
            show _ = _
            rw [HTX.out]
            have e1 : baL (padL h 2) = A := HA1.out
            have e2 : baL (padL mi 2) = B := HB.out
            have e3 : baL (padL se 2) = C := HC.out
            rw [← e1, ← e2, ← e3, show (⟨#[80, 84]⟩ : ByteArray) = baL [80, 84] from rfl]
            simp only [ba_one, baL_append, List.append_assoc, List.cons_append, List.nil_append]
          refine (signed_f _ _).mono ?_
          rintro e w7 ⟨rfl, rfl⟩
          go_wp2_with fail
          go_ret2
          refine ⟨?_, Gw6.out⟩
          rw [HZ.out, ← EQ.out]
          rfl
    · have habs : absF x = x := by unfold absF; rw [if_neg hneg]
      rw [habs] at HS HO
      rw [decide_eq_false hneg] at hlt HVS
      clear habs ha ha2 hf hfin
      have hng : ∀ W, (Op.unary .neg (.float .f64 x)).run Tryz.prog W = .ok (.float .f64 (Op.negFloat .f64 x)) W := fun W => rfl
      have HSS : Hid _ := HS
      have HOO : Hid _ := HO
      clear HS HO hneg
      go_enter Tryz.func8, Tryz.ntmps8
      go_wp2_with fail
      refine HN.mono ?_
      rintro e w1 ⟨rfl, rfl⟩
      go_wp2_with fail
      refine (HSS.out _).mono ?_
      rintro e w2 ⟨b, rfl, hb1, hb2, m2, rfl⟩
      have G0 : Hid (Fr noB w1 (w1.drewN m2)) := (Fr.refl noB w1).drewN m2
      have hO := HOO.out b hb1 hb2
      clear hb1 hb2 HSS HOO HN
      rcases hO with ⟨hn, o1⟩ | ⟨n, hn, hn50, o1, hti, o2⟩
      · have o1' : (FloatKind.f64.format.order b 4832362400168542208 == some .gt) = true := o1
        have HA : Hid _ := HVN.out hn
        clear hn o1 HVN HVS HPP HTD
        go_wp2_with fail
        go_ret2
        rw [HA.out]
        exact ⟨rfl, G0.out⟩
      · have o1' : (FloatKind.f64.format.order b 4832362400168542208 == some .gt) = false := o1
        have o2' : (FloatKind.f64.format.order b 0 == some .gt) = decide (0 < n) := o2
        have hcv : ∀ W : World, (convert 23 2 (.float .f64 b)).run Tryz.prog W = .ok (.int .i64 (n : Int)) W := fun W => run_convert_float_int W 23 2 .f64 .i64 b _ (by rw [Tryz.underlying23]; rfl) Tryz.underlying2 hti
        have HA : Hid _ := HVS.out n hn
        clear hn o1 o2 HVN HVS hti
        have HZ : Hid (ANS = .tuple #[.string (baL (ttx n)), .int .i64 0]) := by show _ = _; rw [HA.out]; unfold ttT; rw [if_neg (by simp)]
        have HTO := timeOf2_any n hn50
        obtain ⟨h, hh⟩ : ∃ h, n / 3600 = h := ⟨_, rfl⟩
        obtain ⟨mi, hmi⟩ : ∃ mi, n / 60 % 60 = mi := ⟨_, rfl⟩
        obtain ⟨se, hse⟩ : ∃ se, n % 60 = se := ⟨_, rfl⟩
        have HTX : Hid (ttx n = [80, 84] ++ padL h 2 ++ 72 :: (padL mi 2 ++ 77 :: (padL se 2 ++ [83]))) := by show _ = _; unfold ttx; rw [hh, hmi, hse]
        have b1 : h ≤ 1125899906842624 := by omega
        have b2 : mi < 60 := by omega
        have b3 : se < 60 := by omega
        rw [hh, hmi, hse] at HTO
        clear hh hmi hse
        generalize ttx n = TX at *
        go_wp2_with fail
        refine (HTO _).mono ?_
        rintro e w3 ⟨rfl, rfl⟩
        go_wp2_with fail
        refine (HPP.out h 2 _ (by omega) (by omega) G0.out).mono ?_
        rintro e w4 ⟨rfl, hF⟩
        have Gw4 : Hid _ := (G0.out).trans hF
        clear hF
        have hA : (baL (padL h 2)).size ≤ 30 := pad_len h 2 (by omega) (by omega)
        obtain ⟨A, HA1⟩ : ∃ X, Hid (baL (padL h 2) = X) := ⟨_, rfl⟩
        rw [HA1.out] at hA ⊢
        go_wp2_with fail
        refine (HTD.out mi _ (by omega) Gw4.out).mono ?_
        rintro e w5 ⟨rfl, hF⟩
        have Gw5 : Hid _ := (Gw4.out).trans hF
        clear hF
        have hB : (baL (padL mi 2)).size ≤ 30 := pad_len mi 2 (by omega) (by omega)
        obtain ⟨B, HB⟩ : ∃ X, Hid (baL (padL mi 2) = X) := ⟨_, rfl⟩
        rw [HB.out] at hB ⊢
        go_wp2_with fail
        refine (HTD.out se _ (by omega) Gw5.out).mono ?_
        rintro e w6 ⟨rfl, hF⟩
        have Gw6 : Hid _ := (Gw5.out).trans hF
        clear hF
        have hC : (baL (padL se 2)).size ≤ 30 := pad_len se 2 (by omega) (by omega)
        obtain ⟨C, HC⟩ : ∃ X, Hid (baL (padL se 2) = X) := ⟨_, rfl⟩
        rw [HC.out] at hC ⊢
        go_wp2_with fail
        have EQ : Hid (⟨#[80, 84]⟩ ++ A ++ ⟨#[72]⟩ ++ B ++ ⟨#[77]⟩ ++ C ++ ⟨#[83]⟩ = baL TX) := by
          show _ = _
          rw [HTX.out]
          have e1 : baL (padL h 2) = A := HA1.out
          have e2 : baL (padL mi 2) = B := HB.out
          have e3 : baL (padL se 2) = C := HC.out
          rw [← e1, ← e2, ← e3, show (⟨#[80, 84]⟩ : ByteArray) = baL [80, 84] from rfl]
          simp only [ba_one, baL_append, List.append_assoc, List.cons_append, List.nil_append]
        refine (signed_f _ _).mono ?_
        rintro e w7 ⟨rfl, rfl⟩
        go_wp2_with fail
        go_ret2
        refine ⟨?_, Gw6.out⟩
        rw [HZ.out, ← EQ.out]
        rfl

set_option maxRecDepth 100000 in
set_option maxHeartbeats 2000000 in
theorem rtimeText_any (x : Nat) (hx : x < 18446744073709551616) (w : World) (hU : UTab w) : Calls Tryz.prog 9 #[.float .f64 x] w fun e w' => e = .returned (ttV x) ∧ Fr noB w w' := by
  have HN := rfinite_any x w
  cases hf : finB x with
  | false =>
    rw [hf] at HN
    have hV : ttV x = .tuple #[.string ⟨#[]⟩, .int .i64 80] := by unfold ttV; rw [if_pos hf]
    rw [hV]
    clear hV hf
    go_enter Tryz.func9, Tryz.ntmps9
    go_wp2_with (go_at_call 27; refine HN.mono ?_; rintro e w1 ⟨rfl, m1, rfl⟩)
    go_ret2
    exact ⟨rfl, (Fr.refl noB w).drewN m1⟩
  | true =>
    rw [hf] at HN
    have hfin := fin_of hf
    have hlt := V_lt0 hfin
    obtain ⟨ha, _, ha2⟩ := abs_V hx hfin
    have HS := rseconds_any (absF x) ha
    have HO := fun b => tt_orders (b := b) hx hfin
    have HVN : Hid (ttN x = none → ttV x = .tuple #[.string ⟨#[]⟩, .int .i64 81]) := ttV_none hf
    have HVS : Hid (∀ n, ttN x = some n → ttV x = .tuple #[.string (baL (ttT (decide (V x < 0)) n)), .int .i64 0]) := fun n => ttV_some hf
    generalize ttV x = ANS at *
    generalize ttN x = TN at *
    have HPP : Hid (∀ (a b : Nat) (W : World), a ≤ 9223372036854775807 → b ≤ 4 → Fr noB w W → Calls Tryz.prog 22 #[.int .i64 (a : Int), .int .i64 (b : Int)] W fun e w' => e = .returned (.string (baL (padL a b))) ∧ Fr noB W w') := fun a b W ha hb hW => rpadded_any a b ha hb W (hU.fr hW)
    by_cases hneg : V x < 0
    · have habs : absF x = Op.negFloat .f64 x := by unfold absF; rw [if_pos hneg]
      rw [habs] at HS HO
      rw [decide_eq_true hneg] at hlt HVS
      clear habs ha ha2 hf hfin
      have hng : ∀ W, (Op.unary .neg (.float .f64 x)).run Tryz.prog W = .ok (.float .f64 (Op.negFloat .f64 x)) W := fun W => rfl
      have HSS : Hid _ := HS
      have HOO : Hid _ := HO
      clear HS HO hneg
      go_enter Tryz.func9, Tryz.ntmps9
      go_wp2_with fail
      refine HN.mono ?_
      rintro e w1 ⟨rfl, m1, rfl⟩
      go_wp2_with fail
      refine (HSS.out _).mono ?_
      rintro e w2 ⟨⟨b, rfl, hb1, hb2⟩, rfl⟩
      have G0 : Hid (Fr noB w (w.drewN m1)) := (Fr.refl noB w).drewN m1
      have hO := HOO.out b hb1 hb2
      clear hb1 hb2 HSS HOO HN
      rcases hO with ⟨hn, o1⟩ | ⟨n, hn, hn50, o1, hti, o2⟩
      · have o1' : (FloatKind.f64.format.order b 4832362400168542208 == some .gt) = true := o1
        have HA : Hid _ := HVN.out hn
        clear hn o1 HVN HVS HPP
        go_wp2_with fail
        go_ret2
        rw [HA.out]
        exact ⟨rfl, G0.out⟩
      · have o1' : (FloatKind.f64.format.order b 4832362400168542208 == some .gt) = false := o1
        have o2' : (FloatKind.f64.format.order b 0 == some .gt) = decide (0 < n) := o2
        have hcv : ∀ W : World, (convert 23 3 (.float .f64 b)).run Tryz.prog W = .ok (.int .i64 (n : Int)) W := fun W => run_convert_float_int W 23 3 .f64 .i64 b _ (by rw [Tryz.underlying23]; rfl) Tryz.underlying3 hti
        have HA : Hid _ := HVS.out n hn
        clear hn o1 o2 HVN HVS hti
        by_cases hn0 : 0 < n
        · have HZ : Hid (ANS = .tuple #[.string (baL (45 :: ttx n)), .int .i64 0]) := by show _ = _; rw [HA.out]; unfold ttT; rw [if_pos ⟨rfl, by omega⟩]
          rw [decide_eq_true hn0] at o2'
          have hb0 : ((n : Int) != 0) = true := by rw [bne_iff_ne]; omega
          have hd1 : (n : Int) / 3600 = ((n / 3600 : Nat) : Int) := by omega
          have hd2 : (n : Int) / 60 % 60 = ((n / 60 % 60 : Nat) : Int) := by omega
          have hd3 : (n : Int) % 60 = ((n % 60 : Nat) : Int) := by omega
          have HD1 : Hid _ := hd1
          have HD2 : Hid _ := hd2
          have HD3 : Hid _ := hd3
          clear hd1 hd2 hd3
          obtain ⟨h, hh⟩ : ∃ h, n / 3600 = h := ⟨_, rfl⟩
          obtain ⟨mi, hmi⟩ : ∃ mi, n / 60 % 60 = mi := ⟨_, rfl⟩
          obtain ⟨se, hse⟩ : ∃ se, n % 60 = se := ⟨_, rfl⟩
          have HTX : Hid (ttx n = [80, 84] ++ padL h 2 ++ 72 :: (padL mi 2 ++ 77 :: (padL se 2 ++ [83]))) := by show _ = _; unfold ttx; rw [hh, hmi, hse]
          have b1 : h ≤ 1125899906842624 := by omega
          have b2 : mi < 60 := by omega
          have b3 : se < 60 := by omega
          rw [hh] at HD1
          rw [hmi] at HD2
          rw [hse] at HD3
          clear hh hmi hse
          generalize ttx n = TX at *
          go_wp2_with fail
          rw [HD1.out]
          refine (HPP.out h 2 _ (by omega) (by omega) G0.out).mono ?_
          rintro e w4 ⟨rfl, hF⟩
          have Gw4 : Hid _ := (G0.out).trans hF
          clear hF
          have hA : (baL (padL h 2)).size ≤ 30 := pad_len h 2 (by omega) (by omega)
          obtain ⟨A, HA1⟩ : ∃ X, Hid (baL (padL h 2) = X) := ⟨_, rfl⟩
          rw [HA1.out] at hA ⊢
          go_wp2_with fail
          rw [HD2.out]
          refine (HPP.out mi 2 _ (by omega) (by omega) Gw4.out).mono ?_
          rintro e w5 ⟨rfl, hF⟩
          have Gw5 : Hid _ := (Gw4.out).trans hF
          clear hF
          have hB : (baL (padL mi 2)).size ≤ 30 := pad_len mi 2 (by omega) (by omega)
          obtain ⟨B, HB⟩ : ∃ X, Hid (baL (padL mi 2) = X) := ⟨_, rfl⟩
          rw [HB.out] at hB ⊢
          go_wp2_with fail
          rw [HD3.out]
          refine (HPP.out se 2 _ (by omega) (by omega) Gw5.out).mono ?_
          rintro e w6 ⟨rfl, hF⟩
          have Gw6 : Hid _ := (Gw5.out).trans hF
          clear hF
          have hC : (baL (padL se 2)).size ≤ 30 := pad_len se 2 (by omega) (by omega)
          obtain ⟨C, HC⟩ : ∃ X, Hid (baL (padL se 2) = X) := ⟨_, rfl⟩
          rw [HC.out] at hC ⊢
          go_wp2_with fail
          have EQ : Hid (⟨#[80, 84]⟩ ++ A ++ ⟨#[72]⟩ ++ B ++ ⟨#[77]⟩ ++ C ++ ⟨#[83]⟩ = baL TX) := by
            show _ = _
            rw [HTX.out]
            have e1 : baL (padL h 2) = A := HA1.out
            have e2 : baL (padL mi 2) = B := HB.out
            have e3 : baL (padL se 2) = C := HC.out
            rw [← e1, ← e2, ← e3, show (⟨#[80, 84]⟩ : ByteArray) = baL [80, 84] from rfl]
            simp only [ba_one, baL_append, List.append_assoc, List.cons_append, List.nil_append]
          go_ret2
          refine ⟨?_, Gw6.out⟩
          have EQ2 : ⟨#[45]⟩ ++ (⟨#[80, 84]⟩ ++ A ++ ⟨#[72]⟩ ++ B ++ ⟨#[77]⟩ ++ C ++ ⟨#[83]⟩) = baL (45 :: TX) := by rw [EQ.out, ba_one, baL_append]; rfl
          rw [HZ.out, ← EQ2]
          rfl
        · have HZ : Hid (ANS = .tuple #[.string (baL (ttx n)), .int .i64 0]) := by show _ = _; rw [HA.out]; unfold ttT; rw [if_neg (by omega)]
          rw [decide_eq_false hn0] at o2'
          have hb0 : ((n : Int) != 0) = false := by rw [bne_eq_false_iff_eq]; omega
          clear hn0
          have hd1 : (n : Int) / 3600 = ((n / 3600 : Nat) : Int) := by omega
          have hd2 : (n : Int) / 60 % 60 = ((n / 60 % 60 : Nat) : Int) := by omega
          have hd3 : (n : Int) % 60 = ((n % 60 : Nat) : Int) := by omega
          have HD1 : Hid _ := hd1
          have HD2 : Hid _ := hd2
          have HD3 : Hid _ := hd3
          clear hd1 hd2 hd3
          obtain ⟨h, hh⟩ : ∃ h, n / 3600 = h := ⟨_, rfl⟩
          obtain ⟨mi, hmi⟩ : ∃ mi, n / 60 % 60 = mi := ⟨_, rfl⟩
          obtain ⟨se, hse⟩ : ∃ se, n % 60 = se := ⟨_, rfl⟩
          have HTX : Hid (ttx n = [80, 84] ++ padL h 2 ++ 72 :: (padL mi 2 ++ 77 :: (padL se 2 ++ [83]))) := by show _ = _; unfold ttx; rw [hh, hmi, hse]
          have b1 : h ≤ 1125899906842624 := by omega
          have b2 : mi < 60 := by omega
          have b3 : se < 60 := by omega
          rw [hh] at HD1
          rw [hmi] at HD2
          rw [hse] at HD3
          clear hh hmi hse
          generalize ttx n = TX at *
          go_wp2_with fail
          rw [HD1.out]
          refine (HPP.out h 2 _ (by omega) (by omega) G0.out).mono ?_
          rintro e w4 ⟨rfl, hF⟩
          have Gw4 : Hid _ := (G0.out).trans hF
          clear hF
          have hA : (baL (padL h 2)).size ≤ 30 := pad_len h 2 (by omega) (by omega)
          obtain ⟨A, HA1⟩ : ∃ X, Hid (baL (padL h 2) = X) := ⟨_, rfl⟩
          rw [HA1.out] at hA ⊢
          go_wp2_with fail
          rw [HD2.out]
          refine (HPP.out mi 2 _ (by omega) (by omega) Gw4.out).mono ?_
          rintro e w5 ⟨rfl, hF⟩
          have Gw5 : Hid _ := (Gw4.out).trans hF
          clear hF
          have hB : (baL (padL mi 2)).size ≤ 30 := pad_len mi 2 (by omega) (by omega)
          obtain ⟨B, HB⟩ : ∃ X, Hid (baL (padL mi 2) = X) := ⟨_, rfl⟩
          rw [HB.out] at hB ⊢
          go_wp2_with fail
          rw [HD3.out]
          refine (HPP.out se 2 _ (by omega) (by omega) Gw5.out).mono ?_
          rintro e w6 ⟨rfl, hF⟩
          have Gw6 : Hid _ := (Gw5.out).trans hF
          clear hF
          have hC : (baL (padL se 2)).size ≤ 30 := pad_len se 2 (by omega) (by omega)
          obtain ⟨C, HC⟩ : ∃ X, Hid (baL (padL se 2) = X) := ⟨_, rfl⟩
          rw [HC.out] at hC ⊢
          go_wp2_with fail
          have EQ : Hid (⟨#[80, 84]⟩ ++ A ++ ⟨#[72]⟩ ++ B ++ ⟨#[77]⟩ ++ C ++ ⟨#[83]⟩ = baL TX) := by
            show _ = _
            rw [HTX.out]
            have e1 : baL (padL h 2) = A := HA1.out
            have e2 : baL (padL mi 2) = B := HB.out
            have e3 : baL (padL se 2) = C := HC.out
            rw [← e1, ← e2, ← e3, show (⟨#[80, 84]⟩ : ByteArray) = baL [80, 84] from rfl]
            simp only [ba_one, baL_append, List.append_assoc, List.cons_append, List.nil_append]
          go_ret2
          refine ⟨?_, Gw6.out⟩
          rw [HZ.out, ← EQ.out]
          rfl
    · have habs : absF x = x := by unfold absF; rw [if_neg hneg]
      rw [habs] at HS HO
      rw [decide_eq_false hneg] at hlt HVS
      clear habs ha ha2 hf hfin
      have hng : ∀ W, (Op.unary .neg (.float .f64 x)).run Tryz.prog W = .ok (.float .f64 (Op.negFloat .f64 x)) W := fun W => rfl
      have HSS : Hid _ := HS
      have HOO : Hid _ := HO
      clear HS HO hneg
      go_enter Tryz.func9, Tryz.ntmps9
      go_wp2_with fail
      refine HN.mono ?_
      rintro e w1 ⟨rfl, m1, rfl⟩
      go_wp2_with fail
      refine (HSS.out _).mono ?_
      rintro e w2 ⟨⟨b, rfl, hb1, hb2⟩, rfl⟩
      have G0 : Hid (Fr noB w (w.drewN m1)) := (Fr.refl noB w).drewN m1
      have hO := HOO.out b hb1 hb2
      clear hb1 hb2 HSS HOO HN
      rcases hO with ⟨hn, o1⟩ | ⟨n, hn, hn50, o1, hti, o2⟩
      · have o1' : (FloatKind.f64.format.order b 4832362400168542208 == some .gt) = true := o1
        have HA : Hid _ := HVN.out hn
        clear hn o1 HVN HVS HPP
        go_wp2_with fail
        go_ret2
        rw [HA.out]
        exact ⟨rfl, G0.out⟩
      · have o1' : (FloatKind.f64.format.order b 4832362400168542208 == some .gt) = false := o1
        have o2' : (FloatKind.f64.format.order b 0 == some .gt) = decide (0 < n) := o2
        have hcv : ∀ W : World, (convert 23 3 (.float .f64 b)).run Tryz.prog W = .ok (.int .i64 (n : Int)) W := fun W => run_convert_float_int W 23 3 .f64 .i64 b _ (by rw [Tryz.underlying23]; rfl) Tryz.underlying3 hti
        have HA : Hid _ := HVS.out n hn
        clear hn o1 o2 HVN HVS hti
        have HZ : Hid (ANS = .tuple #[.string (baL (ttx n)), .int .i64 0]) := by show _ = _; rw [HA.out]; unfold ttT; rw [if_neg (by simp)]
        have hd1 : (n : Int) / 3600 = ((n / 3600 : Nat) : Int) := by omega
        have hd2 : (n : Int) / 60 % 60 = ((n / 60 % 60 : Nat) : Int) := by omega
        have hd3 : (n : Int) % 60 = ((n % 60 : Nat) : Int) := by omega
        have HD1 : Hid _ := hd1
        have HD2 : Hid _ := hd2
        have HD3 : Hid _ := hd3
        clear hd1 hd2 hd3
        obtain ⟨h, hh⟩ : ∃ h, n / 3600 = h := ⟨_, rfl⟩
        obtain ⟨mi, hmi⟩ : ∃ mi, n / 60 % 60 = mi := ⟨_, rfl⟩
        obtain ⟨se, hse⟩ : ∃ se, n % 60 = se := ⟨_, rfl⟩
        have HTX : Hid (ttx n = [80, 84] ++ padL h 2 ++ 72 :: (padL mi 2 ++ 77 :: (padL se 2 ++ [83]))) := by show _ = _; unfold ttx; rw [hh, hmi, hse]
        have b1 : h ≤ 1125899906842624 := by omega
        have b2 : mi < 60 := by omega
        have b3 : se < 60 := by omega
        rw [hh] at HD1
        rw [hmi] at HD2
        rw [hse] at HD3
        clear hh hmi hse
        generalize ttx n = TX at *
        go_wp2_with fail
        rw [HD1.out]
        refine (HPP.out h 2 _ (by omega) (by omega) G0.out).mono ?_
        rintro e w4 ⟨rfl, hF⟩
        have Gw4 : Hid _ := (G0.out).trans hF
        clear hF
        have hA : (baL (padL h 2)).size ≤ 30 := pad_len h 2 (by omega) (by omega)
        obtain ⟨A, HA1⟩ : ∃ X, Hid (baL (padL h 2) = X) := ⟨_, rfl⟩
        rw [HA1.out] at hA ⊢
        go_wp2_with fail
        rw [HD2.out]
        refine (HPP.out mi 2 _ (by omega) (by omega) Gw4.out).mono ?_
        rintro e w5 ⟨rfl, hF⟩
        have Gw5 : Hid _ := (Gw4.out).trans hF
        clear hF
        have hB : (baL (padL mi 2)).size ≤ 30 := pad_len mi 2 (by omega) (by omega)
        obtain ⟨B, HB⟩ : ∃ X, Hid (baL (padL mi 2) = X) := ⟨_, rfl⟩
        rw [HB.out] at hB ⊢
        go_wp2_with fail
        rw [HD3.out]
        refine (HPP.out se 2 _ (by omega) (by omega) Gw5.out).mono ?_
        rintro e w6 ⟨rfl, hF⟩
        have Gw6 : Hid _ := (Gw5.out).trans hF
        clear hF
        have hC : (baL (padL se 2)).size ≤ 30 := pad_len se 2 (by omega) (by omega)
        obtain ⟨C, HC⟩ : ∃ X, Hid (baL (padL se 2) = X) := ⟨_, rfl⟩
        rw [HC.out] at hC ⊢
        go_wp2_with fail
        have EQ : Hid (⟨#[80, 84]⟩ ++ A ++ ⟨#[72]⟩ ++ B ++ ⟨#[77]⟩ ++ C ++ ⟨#[83]⟩ = baL TX) := by
          show _ = _
          rw [HTX.out]
          have e1 : baL (padL h 2) = A := HA1.out
          have e2 : baL (padL mi 2) = B := HB.out
          have e3 : baL (padL se 2) = C := HC.out
          rw [← e1, ← e2, ← e3, show (⟨#[80, 84]⟩ : ByteArray) = baL [80, 84] from rfl]
          simp only [ba_one, baL_append, List.append_assoc, List.cons_append, List.nil_append]
        go_ret2
        refine ⟨?_, Gw6.out⟩
        rw [HZ.out, ← EQ.out]
        rfl
#print axioms timeText_any
#print axioms rtimeText_any
end Go.Proofs.YtfoclhpnlemmnaaGreatDoor
