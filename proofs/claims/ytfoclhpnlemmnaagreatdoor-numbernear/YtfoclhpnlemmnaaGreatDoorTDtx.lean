/- DateText of both: contracts. -/
import Derived.Test.YtfoclhpnlemmnaaGreatDoorTRef
import Derived.Test.YtfoclhpnlemmnaaGreatDoorNClk
namespace Go.Proofs.YtfoclhpnlemmnaaGreatDoor
open Go.RowKit Ieee

def dateT (y m d : Nat) : List UInt8 := padL y 4 ++ 45 :: (padL m 2 ++ 45 :: padL d 2)
def timeT (h m s : Nat) : List UInt8 := padL h 2 ++ 58 :: (padL m 2 ++ 58 :: padL s 2)
open Classical in
/-- The date of a day. -/
noncomputable def ymd (n : Int) : Nat × Nat × Nat := if h : ∃ p : Nat × Nat × Nat, IsDay n (p.1 : Int) p.2.1 (p.2.2 : Int) then h.choose else (0, 0, 0)
theorem ymd_of {n : Int} {y m d : Nat} (h : IsDay n (y : Int) m (d : Int)) : ymd n = (y, m, d) := by
  have hex : ∃ p : Nat × Nat × Nat, IsDay n (p.1 : Int) p.2.1 (p.2.2 : Int) := ⟨(y, m, d), h⟩
  unfold ymd
  rw [dif_pos hex]
  obtain ⟨e1, e2, e3⟩ := hex.choose_spec.unique h
  apply Prod.ext
  · simp only; omega
  · apply Prod.ext
    · simp only; omega
    · simp only; omega
/-- The text of a second, counted from the first day on. -/
noncomputable def dtx (n : Nat) : List UInt8 := dateT (ymd ((n / 86400 : Nat) - 693593 : Int)).1 (ymd ((n / 86400 : Nat) - 693593 : Int)).2.1 (ymd ((n / 86400 : Nat) - 693593 : Int)).2.2 ++ (if n % 86400 = 0 then [] else 84 :: timeT (n % 86400 / 3600) (n % 86400 / 60 % 60) (n % 86400 % 60))
noncomputable def dtV (x : Nat) : Value := if finB x = false then .tuple #[.string ⟨#[]⟩, .int .i64 80] else match secF x with
  | none => .tuple #[.string ⟨#[]⟩, .int .i64 81]
  | some n => .tuple #[.string (baL (dtx (n + 59926435200).toNat)), .int .i64 0]
theorem secF_some {x : Nat} {k : Int} (h : secF x = some k) : ∃ n : Nat, k = (n : Int) - 59926435200 ∧ n < 315537897600 := by
  unfold secF at h
  split at h
  · cases h
  · rename_i hc
    injection h with h
    refine ⟨(k + 59926435200).toNat, ?_, ?_⟩ <;> omega
theorem pad_len (n least : Nat) (hn : n ≤ 9223372036854775807) (hl : least ≤ 4) : (baL (padL n least)).size ≤ 30 := by
  have := dec_len19 n hn
  rw [baL_size]
  unfold padL
  simp
  omega
theorem ba_one (c : UInt8) : (⟨#[c]⟩ : ByteArray) = baL [c] := rfl
theorem tail_zero {n : Nat} : n % 86400 = 0 ↔ n % 86400 / 3600 = 0 ∧ n % 86400 / 60 % 60 = 0 ∧ n % 86400 % 60 = 0 := by omega

set_option maxRecDepth 100000 in
set_option maxHeartbeats 2000000 in
theorem dateText_any (x : Nat) (hx : x < 18446744073709551616) (w : World) (hT : MTab w) (hU : UTab w) : Calls Tryz.prog 6 #[.float .f64 x] w fun e w' => e = .returned (dtV x) ∧ Fr noB w w' := by
  have HK := clock_any x hx w
  cases hf : finB x with
  | false =>
    rw [clkV_nan hf] at HK
    have hV : dtV x = .tuple #[.string ⟨#[]⟩, .int .i64 80] := by unfold dtV; rw [if_pos hf]
    rw [hV]
    clear hV hf
    go_enter Tryz.func6, Tryz.ntmps6
    go_wp2_with (go_at_call 16; refine HK.mono ?_; rintro e w1 ⟨rfl, m1, rfl⟩)
    go_ret2
    exact ⟨rfl, (Fr.refl noB w).drewN m1⟩
  | true =>
    cases hs : secF x with
    | none =>
      rw [clkV_none hf hs] at HK
      have hV : dtV x = .tuple #[.string ⟨#[]⟩, .int .i64 81] := by unfold dtV; rw [if_neg (by simp [hf]), hs]
      rw [hV]
      clear hV hf hs
      go_enter Tryz.func6, Tryz.ntmps6
      go_wp2_with (go_at_call 16; refine HK.mono ?_; rintro e w1 ⟨rfl, m1, rfl⟩)
      go_ret2
      exact ⟨rfl, (Fr.refl noB w).drewN m1⟩
    | some k =>
      obtain ⟨n, rfl, hn⟩ := secF_some hs
      rw [clkV_some hf hs] at HK
      have hV : dtV x = .tuple #[.string (baL (dtx n)), .int .i64 0] := by
        unfold dtV
        rw [if_neg (by simp [hf]), hs]
        simp only
        rw [show ((n : Int) - 59926435200 + 59926435200).toNat = n by omega]
      rw [hV]
      clear hV hf hs
      unfold clkT at HK
      have HTX : Hid (dtx n = dateT (ymd ((n / 86400 : Nat) - 693593 : Int)).1 (ymd ((n / 86400 : Nat) - 693593 : Int)).2.1 (ymd ((n / 86400 : Nat) - 693593 : Int)).2.2 ++ (if n % 86400 / 3600 = 0 ∧ n % 86400 / 60 % 60 = 0 ∧ n % 86400 % 60 = 0 then [] else 84 :: timeT (n % 86400 / 3600) (n % 86400 / 60 % 60) (n % 86400 % 60))) := by
        show _ = _
        unfold dtx
        congr 1
        by_cases h0 : n % 86400 = 0
        · rw [if_pos h0, if_pos (tail_zero.1 h0)]
        · rw [if_neg h0, if_neg (fun h => h0 (tail_zero.2 h))]
      generalize dtx n = TX at *
      obtain ⟨day, hday⟩ : ∃ day : Int, ((n / 86400 : Nat) : Int) - 693593 = day := ⟨_, rfl⟩
      obtain ⟨h, hh⟩ : ∃ h, n % 86400 / 3600 = h := ⟨_, rfl⟩
      obtain ⟨mi, hmi⟩ : ∃ mi, n % 86400 / 60 % 60 = mi := ⟨_, rfl⟩
      obtain ⟨se, hse⟩ : ∃ se, n % 86400 % 60 = se := ⟨_, rfl⟩
      rw [hday, hh, hmi, hse] at HK HTX
      have b1 : -693593 ≤ day := by omega
      have b2 : day ≤ 2958465 := by omega
      have b3 : h < 24 := by omega
      have b4 : mi < 60 := by omega
      have b5 : se < 60 := by omega
      clear hday hh hmi hse hn
      have HDO : Hid (∀ W, Fr noB w W → _) := fun W hW => dateOf_any day b1 b2 W (hT.fr hW)
      have HPP : Hid (∀ (a b : Nat) (W : World), a ≤ 9223372036854775807 → b ≤ 4 → Fr noB w W → Calls Tryz.prog 18 #[.int .i64 (a : Int), .int .i64 (b : Int)] W fun e w' => e = .returned (.string (baL (padL a b))) ∧ Fr noB W w') := fun a b W ha hb hW => padded_any a b ha hb W (hU.fr hW)
      have HTD : Hid (∀ (a : Nat) (W : World), a ≤ 9223372036854775807 → Fr noB w W → Calls Tryz.prog 19 #[.int .i64 (a : Int)] W fun e w' => e = .returned (.string (baL (padL a 2))) ∧ Fr noB W w') := fun a W ha hW => two_any a ha W (hU.fr hW)
      by_cases hz : h = 0 ∧ mi = 0 ∧ se = 0
      · have HTZ : Hid (TX = dateT (ymd day).1 (ymd day).2.1 (ymd day).2.2) := by show _ = _; rw [HTX.out, if_pos hz, List.append_nil]
        clear HTX
        obtain ⟨rfl, rfl, rfl⟩ := hz
        go_enter Tryz.func6, Tryz.ntmps6
        go_wp2_with fail
        refine HK.mono ?_
        rintro e w1 ⟨rfl, m1, rfl⟩
        have G1 : Hid (Fr noB w (w.drewN m1)) := (Fr.refl noB w).drewN m1
        go_wp2_with fail
        refine (HDO.out _ G1.out).mono ?_
        rintro e w2 ⟨⟨y, m, d, rfl, hD⟩, hF⟩
        have Gw2 : Hid _ := G1.out.trans hF
        clear hF
        obtain ⟨Y, rfl⟩ : ∃ Y : Nat, y = (Y : Int) := ⟨y.toNat, by have := hD.1; omega⟩
        obtain ⟨D, rfl⟩ : ∃ D : Nat, d = (D : Int) := ⟨d.toNat, by have := hD.2.2.2.2.1; omega⟩
        have y1 : Y ≤ 9999 := by have := hD.2.1; omega
        have y2 : m ≤ 12 := hD.2.2.2.1
        have y3 : D ≤ 31 := by have := hD.2.2.2.2.2.1; have := (domF_bounds (Y : Int) m).2; omega
        have HTY : Hid (ymd day = (Y, m, D)) := ymd_of hD
        clear hD
        go_wp2_with fail
        refine (HPP.out Y 4 _ (by omega) (by omega) Gw2.out).mono ?_
        rintro e w3 ⟨rfl, hF⟩
        have Gw3 : Hid _ := (Gw2.out).trans hF
        clear hF
        have hA : (baL (padL Y 4)).size ≤ 30 := pad_len Y 4 (by omega) (by omega)
        obtain ⟨A, HA⟩ : ∃ X, Hid (baL (padL Y 4) = X) := ⟨_, rfl⟩
        rw [HA.out] at hA ⊢
        go_wp2_with fail
        refine (HTD.out m _ (by omega) Gw3.out).mono ?_
        rintro e w4 ⟨rfl, hF⟩
        have Gw4 : Hid _ := (Gw3.out).trans hF
        clear hF
        have hB : (baL (padL m 2)).size ≤ 30 := pad_len m 2 (by omega) (by omega)
        obtain ⟨B, HB⟩ : ∃ X, Hid (baL (padL m 2) = X) := ⟨_, rfl⟩
        rw [HB.out] at hB ⊢
        go_wp2_with fail
        refine (HTD.out D _ (by omega) Gw4.out).mono ?_
        rintro e w5 ⟨rfl, hF⟩
        have Gw5 : Hid _ := (Gw4.out).trans hF
        clear hF
        have hC : (baL (padL D 2)).size ≤ 30 := pad_len D 2 (by omega) (by omega)
        obtain ⟨C, HC⟩ : ∃ X, Hid (baL (padL D 2) = X) := ⟨_, rfl⟩
        rw [HC.out] at hC ⊢
        go_wp2_with fail
        have EQ : A ++ ⟨#[45]⟩ ++ B ++ ⟨#[45]⟩ ++ C = baL TX := by
          rw [HTZ.out, HTY.out]
          have e1 : baL (padL Y 4) = A := HA.out
          have e2 : baL (padL m 2) = B := HB.out
          have e3 : baL (padL D 2) = C := HC.out
          rw [← e1, ← e2, ← e3]
          simp only [ba_one, baL_append, dateT, List.append_assoc, List.cons_append, List.nil_append]
        go_ret2
        refine ⟨?_, Gw5.out⟩
        rw [← EQ]
        rfl
      · have HTZ : Hid (TX = dateT (ymd day).1 (ymd day).2.1 (ymd day).2.2 ++ 84 :: timeT h mi se) := by show _ = _; rw [HTX.out, if_neg hz]
        clear HTX
        have hz3 : ¬ h = 0 ∨ (h = 0 ∧ ¬ mi = 0) ∨ (h = 0 ∧ mi = 0 ∧ ¬ se = 0) := by omega
        clear hz
        rcases hz3 with hz | ⟨rfl, hz⟩ | ⟨rfl, rfl, hz⟩
        · have hzi : ¬ (h : Int) = 0 := by omega
          go_enter Tryz.func6, Tryz.ntmps6
          go_wp2_with fail
          refine HK.mono ?_
          rintro e w1 ⟨rfl, m1, rfl⟩
          have G1 : Hid (Fr noB w (w.drewN m1)) := (Fr.refl noB w).drewN m1
          go_wp2_with fail
          refine (HDO.out _ G1.out).mono ?_
          rintro e w2 ⟨⟨y, m, d, rfl, hD⟩, hF⟩
          have Gw2 : Hid _ := G1.out.trans hF
          clear hF
          obtain ⟨Y, rfl⟩ : ∃ Y : Nat, y = (Y : Int) := ⟨y.toNat, by have := hD.1; omega⟩
          obtain ⟨D, rfl⟩ : ∃ D : Nat, d = (D : Int) := ⟨d.toNat, by have := hD.2.2.2.2.1; omega⟩
          have y1 : Y ≤ 9999 := by have := hD.2.1; omega
          have y2 : m ≤ 12 := hD.2.2.2.1
          have y3 : D ≤ 31 := by have := hD.2.2.2.2.2.1; have := (domF_bounds (Y : Int) m).2; omega
          have HTY : Hid (ymd day = (Y, m, D)) := ymd_of hD
          clear hD
          go_wp2_with fail
          refine (HPP.out Y 4 _ (by omega) (by omega) Gw2.out).mono ?_
          rintro e w3 ⟨rfl, hF⟩
          have Gw3 : Hid _ := (Gw2.out).trans hF
          clear hF
          have hA : (baL (padL Y 4)).size ≤ 30 := pad_len Y 4 (by omega) (by omega)
          obtain ⟨A, HA⟩ : ∃ X, Hid (baL (padL Y 4) = X) := ⟨_, rfl⟩
          rw [HA.out] at hA ⊢
          go_wp2_with fail
          refine (HTD.out m _ (by omega) Gw3.out).mono ?_
          rintro e w4 ⟨rfl, hF⟩
          have Gw4 : Hid _ := (Gw3.out).trans hF
          clear hF
          have hB : (baL (padL m 2)).size ≤ 30 := pad_len m 2 (by omega) (by omega)
          obtain ⟨B, HB⟩ : ∃ X, Hid (baL (padL m 2) = X) := ⟨_, rfl⟩
          rw [HB.out] at hB ⊢
          go_wp2_with fail
          refine (HTD.out D _ (by omega) Gw4.out).mono ?_
          rintro e w5 ⟨rfl, hF⟩
          have Gw5 : Hid _ := (Gw4.out).trans hF
          clear hF
          have hC : (baL (padL D 2)).size ≤ 30 := pad_len D 2 (by omega) (by omega)
          obtain ⟨C, HC⟩ : ∃ X, Hid (baL (padL D 2) = X) := ⟨_, rfl⟩
          rw [HC.out] at hC ⊢
          go_wp2_with fail
          refine (HTD.out h _ (by omega) Gw5.out).mono ?_
          rintro e w6 ⟨rfl, hF⟩
          have Gw6 : Hid _ := (Gw5.out).trans hF
          clear hF
          have hE : (baL (padL h 2)).size ≤ 30 := pad_len h 2 (by omega) (by omega)
          obtain ⟨E, HE⟩ : ∃ X, Hid (baL (padL h 2) = X) := ⟨_, rfl⟩
          rw [HE.out] at hE ⊢
          go_wp2_with fail
          refine (HTD.out mi _ (by omega) Gw6.out).mono ?_
          rintro e w7 ⟨rfl, hF⟩
          have Gw7 : Hid _ := (Gw6.out).trans hF
          clear hF
          have hG : (baL (padL mi 2)).size ≤ 30 := pad_len mi 2 (by omega) (by omega)
          obtain ⟨G, HG⟩ : ∃ X, Hid (baL (padL mi 2) = X) := ⟨_, rfl⟩
          rw [HG.out] at hG ⊢
          go_wp2_with fail
          refine (HTD.out se _ (by omega) Gw7.out).mono ?_
          rintro e w8 ⟨rfl, hF⟩
          have Gw8 : Hid _ := (Gw7.out).trans hF
          clear hF
          have hK : (baL (padL se 2)).size ≤ 30 := pad_len se 2 (by omega) (by omega)
          obtain ⟨K, HK2⟩ : ∃ X, Hid (baL (padL se 2) = X) := ⟨_, rfl⟩
          rw [HK2.out] at hK ⊢
          go_wp2_with fail
          have EQ : A ++ ⟨#[45]⟩ ++ B ++ ⟨#[45]⟩ ++ C ++ ⟨#[84]⟩ ++ E ++ ⟨#[58]⟩ ++ G ++ ⟨#[58]⟩ ++ K = baL TX := by
            rw [HTZ.out, HTY.out]
            have e1 : baL (padL Y 4) = A := HA.out
            have e2 : baL (padL m 2) = B := HB.out
            have e3 : baL (padL D 2) = C := HC.out
            have e4 : baL (padL h 2) = E := HE.out
            have e5 : baL (padL mi 2) = G := HG.out
            have e6 : baL (padL se 2) = K := HK2.out
            rw [← e1, ← e2, ← e3, ← e4, ← e5, ← e6]
            simp only [ba_one, baL_append, dateT, timeT, List.append_assoc, List.cons_append, List.nil_append]
          go_ret2
          refine ⟨?_, Gw8.out⟩
          rw [← EQ]
          rfl
        · have hzi : ¬ (mi : Int) = 0 := by omega
          go_enter Tryz.func6, Tryz.ntmps6
          go_wp2_with fail
          refine HK.mono ?_
          rintro e w1 ⟨rfl, m1, rfl⟩
          have G1 : Hid (Fr noB w (w.drewN m1)) := (Fr.refl noB w).drewN m1
          go_wp2_with fail
          refine (HDO.out _ G1.out).mono ?_
          rintro e w2 ⟨⟨y, m, d, rfl, hD⟩, hF⟩
          have Gw2 : Hid _ := G1.out.trans hF
          clear hF
          obtain ⟨Y, rfl⟩ : ∃ Y : Nat, y = (Y : Int) := ⟨y.toNat, by have := hD.1; omega⟩
          obtain ⟨D, rfl⟩ : ∃ D : Nat, d = (D : Int) := ⟨d.toNat, by have := hD.2.2.2.2.1; omega⟩
          have y1 : Y ≤ 9999 := by have := hD.2.1; omega
          have y2 : m ≤ 12 := hD.2.2.2.1
          have y3 : D ≤ 31 := by have := hD.2.2.2.2.2.1; have := (domF_bounds (Y : Int) m).2; omega
          have HTY : Hid (ymd day = (Y, m, D)) := ymd_of hD
          clear hD
          go_wp2_with fail
          refine (HPP.out Y 4 _ (by omega) (by omega) Gw2.out).mono ?_
          rintro e w3 ⟨rfl, hF⟩
          have Gw3 : Hid _ := (Gw2.out).trans hF
          clear hF
          have hA : (baL (padL Y 4)).size ≤ 30 := pad_len Y 4 (by omega) (by omega)
          obtain ⟨A, HA⟩ : ∃ X, Hid (baL (padL Y 4) = X) := ⟨_, rfl⟩
          rw [HA.out] at hA ⊢
          go_wp2_with fail
          refine (HTD.out m _ (by omega) Gw3.out).mono ?_
          rintro e w4 ⟨rfl, hF⟩
          have Gw4 : Hid _ := (Gw3.out).trans hF
          clear hF
          have hB : (baL (padL m 2)).size ≤ 30 := pad_len m 2 (by omega) (by omega)
          obtain ⟨B, HB⟩ : ∃ X, Hid (baL (padL m 2) = X) := ⟨_, rfl⟩
          rw [HB.out] at hB ⊢
          go_wp2_with fail
          refine (HTD.out D _ (by omega) Gw4.out).mono ?_
          rintro e w5 ⟨rfl, hF⟩
          have Gw5 : Hid _ := (Gw4.out).trans hF
          clear hF
          have hC : (baL (padL D 2)).size ≤ 30 := pad_len D 2 (by omega) (by omega)
          obtain ⟨C, HC⟩ : ∃ X, Hid (baL (padL D 2) = X) := ⟨_, rfl⟩
          rw [HC.out] at hC ⊢
          go_wp2_with fail
          refine (HTD.out 0 _ (by omega) Gw5.out).mono ?_
          rintro e w6 ⟨rfl, hF⟩
          have Gw6 : Hid _ := (Gw5.out).trans hF
          clear hF
          have hE : (baL (padL 0 2)).size ≤ 30 := pad_len 0 2 (by omega) (by omega)
          obtain ⟨E, HE⟩ : ∃ X, Hid (baL (padL 0 2) = X) := ⟨_, rfl⟩
          rw [HE.out] at hE ⊢
          go_wp2_with fail
          refine (HTD.out mi _ (by omega) Gw6.out).mono ?_
          rintro e w7 ⟨rfl, hF⟩
          have Gw7 : Hid _ := (Gw6.out).trans hF
          clear hF
          have hG : (baL (padL mi 2)).size ≤ 30 := pad_len mi 2 (by omega) (by omega)
          obtain ⟨G, HG⟩ : ∃ X, Hid (baL (padL mi 2) = X) := ⟨_, rfl⟩
          rw [HG.out] at hG ⊢
          go_wp2_with fail
          refine (HTD.out se _ (by omega) Gw7.out).mono ?_
          rintro e w8 ⟨rfl, hF⟩
          have Gw8 : Hid _ := (Gw7.out).trans hF
          clear hF
          have hK : (baL (padL se 2)).size ≤ 30 := pad_len se 2 (by omega) (by omega)
          obtain ⟨K, HK2⟩ : ∃ X, Hid (baL (padL se 2) = X) := ⟨_, rfl⟩
          rw [HK2.out] at hK ⊢
          go_wp2_with fail
          have EQ : A ++ ⟨#[45]⟩ ++ B ++ ⟨#[45]⟩ ++ C ++ ⟨#[84]⟩ ++ E ++ ⟨#[58]⟩ ++ G ++ ⟨#[58]⟩ ++ K = baL TX := by
            rw [HTZ.out, HTY.out]
            have e1 : baL (padL Y 4) = A := HA.out
            have e2 : baL (padL m 2) = B := HB.out
            have e3 : baL (padL D 2) = C := HC.out
            have e4 : baL (padL 0 2) = E := HE.out
            have e5 : baL (padL mi 2) = G := HG.out
            have e6 : baL (padL se 2) = K := HK2.out
            rw [← e1, ← e2, ← e3, ← e4, ← e5, ← e6]
            simp only [ba_one, baL_append, dateT, timeT, List.append_assoc, List.cons_append, List.nil_append]
          go_ret2
          refine ⟨?_, Gw8.out⟩
          rw [← EQ]
          rfl
        · have hzi : ¬ (se : Int) = 0 := by omega
          go_enter Tryz.func6, Tryz.ntmps6
          go_wp2_with fail
          refine HK.mono ?_
          rintro e w1 ⟨rfl, m1, rfl⟩
          have G1 : Hid (Fr noB w (w.drewN m1)) := (Fr.refl noB w).drewN m1
          go_wp2_with fail
          refine (HDO.out _ G1.out).mono ?_
          rintro e w2 ⟨⟨y, m, d, rfl, hD⟩, hF⟩
          have Gw2 : Hid _ := G1.out.trans hF
          clear hF
          obtain ⟨Y, rfl⟩ : ∃ Y : Nat, y = (Y : Int) := ⟨y.toNat, by have := hD.1; omega⟩
          obtain ⟨D, rfl⟩ : ∃ D : Nat, d = (D : Int) := ⟨d.toNat, by have := hD.2.2.2.2.1; omega⟩
          have y1 : Y ≤ 9999 := by have := hD.2.1; omega
          have y2 : m ≤ 12 := hD.2.2.2.1
          have y3 : D ≤ 31 := by have := hD.2.2.2.2.2.1; have := (domF_bounds (Y : Int) m).2; omega
          have HTY : Hid (ymd day = (Y, m, D)) := ymd_of hD
          clear hD
          go_wp2_with fail
          refine (HPP.out Y 4 _ (by omega) (by omega) Gw2.out).mono ?_
          rintro e w3 ⟨rfl, hF⟩
          have Gw3 : Hid _ := (Gw2.out).trans hF
          clear hF
          have hA : (baL (padL Y 4)).size ≤ 30 := pad_len Y 4 (by omega) (by omega)
          obtain ⟨A, HA⟩ : ∃ X, Hid (baL (padL Y 4) = X) := ⟨_, rfl⟩
          rw [HA.out] at hA ⊢
          go_wp2_with fail
          refine (HTD.out m _ (by omega) Gw3.out).mono ?_
          rintro e w4 ⟨rfl, hF⟩
          have Gw4 : Hid _ := (Gw3.out).trans hF
          clear hF
          have hB : (baL (padL m 2)).size ≤ 30 := pad_len m 2 (by omega) (by omega)
          obtain ⟨B, HB⟩ : ∃ X, Hid (baL (padL m 2) = X) := ⟨_, rfl⟩
          rw [HB.out] at hB ⊢
          go_wp2_with fail
          refine (HTD.out D _ (by omega) Gw4.out).mono ?_
          rintro e w5 ⟨rfl, hF⟩
          have Gw5 : Hid _ := (Gw4.out).trans hF
          clear hF
          have hC : (baL (padL D 2)).size ≤ 30 := pad_len D 2 (by omega) (by omega)
          obtain ⟨C, HC⟩ : ∃ X, Hid (baL (padL D 2) = X) := ⟨_, rfl⟩
          rw [HC.out] at hC ⊢
          go_wp2_with fail
          refine (HTD.out 0 _ (by omega) Gw5.out).mono ?_
          rintro e w6 ⟨rfl, hF⟩
          have Gw6 : Hid _ := (Gw5.out).trans hF
          clear hF
          have hE : (baL (padL 0 2)).size ≤ 30 := pad_len 0 2 (by omega) (by omega)
          obtain ⟨E, HE⟩ : ∃ X, Hid (baL (padL 0 2) = X) := ⟨_, rfl⟩
          rw [HE.out] at hE ⊢
          go_wp2_with fail
          refine (HTD.out 0 _ (by omega) Gw6.out).mono ?_
          rintro e w7 ⟨rfl, hF⟩
          have Gw7 : Hid _ := (Gw6.out).trans hF
          clear hF
          have hG : (baL (padL 0 2)).size ≤ 30 := pad_len 0 2 (by omega) (by omega)
          obtain ⟨G, HG⟩ : ∃ X, Hid (baL (padL 0 2) = X) := ⟨_, rfl⟩
          rw [HG.out] at hG ⊢
          go_wp2_with fail
          refine (HTD.out se _ (by omega) Gw7.out).mono ?_
          rintro e w8 ⟨rfl, hF⟩
          have Gw8 : Hid _ := (Gw7.out).trans hF
          clear hF
          have hK : (baL (padL se 2)).size ≤ 30 := pad_len se 2 (by omega) (by omega)
          obtain ⟨K, HK2⟩ : ∃ X, Hid (baL (padL se 2) = X) := ⟨_, rfl⟩
          rw [HK2.out] at hK ⊢
          go_wp2_with fail
          have EQ : A ++ ⟨#[45]⟩ ++ B ++ ⟨#[45]⟩ ++ C ++ ⟨#[84]⟩ ++ E ++ ⟨#[58]⟩ ++ G ++ ⟨#[58]⟩ ++ K = baL TX := by
            rw [HTZ.out, HTY.out]
            have e1 : baL (padL Y 4) = A := HA.out
            have e2 : baL (padL m 2) = B := HB.out
            have e3 : baL (padL D 2) = C := HC.out
            have e4 : baL (padL 0 2) = E := HE.out
            have e5 : baL (padL 0 2) = G := HG.out
            have e6 : baL (padL se 2) = K := HK2.out
            rw [← e1, ← e2, ← e3, ← e4, ← e5, ← e6]
            simp only [ba_one, baL_append, dateT, timeT, List.append_assoc, List.cons_append, List.nil_append]
          go_ret2
          refine ⟨?_, Gw8.out⟩
          rw [← EQ]
          rfl

set_option maxRecDepth 100000 in
set_option maxHeartbeats 2000000 in
theorem rdateText_any (x : Nat) (w : World) (hU : UTab w) : Calls Tryz.prog 7 #[.float .f64 x] w fun e w' => e = .returned (dtV x) ∧ Fr noB w w' := by
  have HK := rclock_any x w
  cases hf : finB x with
  | false =>
    rw [clkV_nan hf] at HK
    have hV : dtV x = .tuple #[.string ⟨#[]⟩, .int .i64 80] := by unfold dtV; rw [if_pos hf]
    rw [hV]
    clear hV hf
    go_enter Tryz.func7, Tryz.ntmps7
    go_wp2_with (go_at_call 20; refine HK.mono ?_; rintro e w1 ⟨rfl, m1, rfl⟩)
    go_ret2
    exact ⟨rfl, (Fr.refl noB w).drewN m1⟩
  | true =>
    cases hs : secF x with
    | none =>
      rw [clkV_none hf hs] at HK
      have hV : dtV x = .tuple #[.string ⟨#[]⟩, .int .i64 81] := by unfold dtV; rw [if_neg (by simp [hf]), hs]
      rw [hV]
      clear hV hf hs
      go_enter Tryz.func7, Tryz.ntmps7
      go_wp2_with (go_at_call 20; refine HK.mono ?_; rintro e w1 ⟨rfl, m1, rfl⟩)
      go_ret2
      exact ⟨rfl, (Fr.refl noB w).drewN m1⟩
    | some k =>
      obtain ⟨n, rfl, hn⟩ := secF_some hs
      rw [clkV_some hf hs] at HK
      have hV : dtV x = .tuple #[.string (baL (dtx n)), .int .i64 0] := by
        unfold dtV
        rw [if_neg (by simp [hf]), hs]
        simp only
        rw [show ((n : Int) - 59926435200 + 59926435200).toNat = n by omega]
      rw [hV]
      clear hV hf hs
      unfold clkT at HK
      have HTX : Hid (dtx n = dateT (ymd ((n / 86400 : Nat) - 693593 : Int)).1 (ymd ((n / 86400 : Nat) - 693593 : Int)).2.1 (ymd ((n / 86400 : Nat) - 693593 : Int)).2.2 ++ (if n % 86400 / 3600 = 0 ∧ n % 86400 / 60 % 60 = 0 ∧ n % 86400 % 60 = 0 then [] else 84 :: timeT (n % 86400 / 3600) (n % 86400 / 60 % 60) (n % 86400 % 60))) := by
        show _ = _
        unfold dtx
        congr 1
        by_cases h0 : n % 86400 = 0
        · rw [if_pos h0, if_pos (tail_zero.1 h0)]
        · rw [if_neg h0, if_neg (fun h => h0 (tail_zero.2 h))]
      generalize dtx n = TX at *
      obtain ⟨day, hday⟩ : ∃ day : Int, ((n / 86400 : Nat) : Int) - 693593 = day := ⟨_, rfl⟩
      obtain ⟨h, hh⟩ : ∃ h, n % 86400 / 3600 = h := ⟨_, rfl⟩
      obtain ⟨mi, hmi⟩ : ∃ mi, n % 86400 / 60 % 60 = mi := ⟨_, rfl⟩
      obtain ⟨se, hse⟩ : ∃ se, n % 86400 % 60 = se := ⟨_, rfl⟩
      rw [hday, hh, hmi, hse] at HK HTX
      have b1 : -693593 ≤ day := by omega
      have b2 : day ≤ 2958465 := by omega
      have b3 : h < 24 := by omega
      have b4 : mi < 60 := by omega
      have b5 : se < 60 := by omega
      clear hday hh hmi hse hn
      have HDO : Hid (∀ W, Fr noB w W → _) := fun W hW => rdate_any day b1 b2 W
      have HPP : Hid (∀ (a b : Nat) (W : World), a ≤ 9223372036854775807 → b ≤ 4 → Fr noB w W → Calls Tryz.prog 22 #[.int .i64 (a : Int), .int .i64 (b : Int)] W fun e w' => e = .returned (.string (baL (padL a b))) ∧ Fr noB W w') := fun a b W ha hb hW => rpadded_any a b ha hb W (hU.fr hW)
      by_cases hz : h = 0 ∧ mi = 0 ∧ se = 0
      · have HTZ : Hid (TX = dateT (ymd day).1 (ymd day).2.1 (ymd day).2.2) := by show _ = _; rw [HTX.out, if_pos hz, List.append_nil]
        clear HTX
        obtain ⟨rfl, rfl, rfl⟩ := hz
        go_enter Tryz.func7, Tryz.ntmps7
        go_wp2_with fail
        refine HK.mono ?_
        rintro e w1 ⟨rfl, m1, rfl⟩
        have G1 : Hid (Fr noB w (w.drewN m1)) := (Fr.refl noB w).drewN m1
        go_wp2_with fail
        refine (HDO.out _ G1.out).mono ?_
        rintro e w2 ⟨⟨y, m, d, rfl, hD⟩, hF⟩
        have Gw2 : Hid _ := G1.out.trans hF
        clear hF
        obtain ⟨Y, rfl⟩ : ∃ Y : Nat, y = (Y : Int) := ⟨y.toNat, by have := hD.1; omega⟩
        obtain ⟨D, rfl⟩ : ∃ D : Nat, d = (D : Int) := ⟨d.toNat, by have := hD.2.2.2.2.1; omega⟩
        have y1 : Y ≤ 9999 := by have := hD.2.1; omega
        have y2 : m ≤ 12 := hD.2.2.2.1
        have y3 : D ≤ 31 := by have := hD.2.2.2.2.2.1; have := (domF_bounds (Y : Int) m).2; omega
        have HTY : Hid (ymd day = (Y, m, D)) := ymd_of hD
        clear hD
        go_wp2_with fail
        refine (HPP.out Y 4 _ (by omega) (by omega) Gw2.out).mono ?_
        rintro e w3 ⟨rfl, hF⟩
        have Gw3 : Hid _ := (Gw2.out).trans hF
        clear hF
        have hA : (baL (padL Y 4)).size ≤ 30 := pad_len Y 4 (by omega) (by omega)
        obtain ⟨A, HA⟩ : ∃ X, Hid (baL (padL Y 4) = X) := ⟨_, rfl⟩
        rw [HA.out] at hA ⊢
        go_wp2_with fail
        refine (HPP.out m 2 _ (by omega) (by omega) Gw3.out).mono ?_
        rintro e w4 ⟨rfl, hF⟩
        have Gw4 : Hid _ := (Gw3.out).trans hF
        clear hF
        have hB : (baL (padL m 2)).size ≤ 30 := pad_len m 2 (by omega) (by omega)
        obtain ⟨B, HB⟩ : ∃ X, Hid (baL (padL m 2) = X) := ⟨_, rfl⟩
        rw [HB.out] at hB ⊢
        go_wp2_with fail
        refine (HPP.out D 2 _ (by omega) (by omega) Gw4.out).mono ?_
        rintro e w5 ⟨rfl, hF⟩
        have Gw5 : Hid _ := (Gw4.out).trans hF
        clear hF
        have hC : (baL (padL D 2)).size ≤ 30 := pad_len D 2 (by omega) (by omega)
        obtain ⟨C, HC⟩ : ∃ X, Hid (baL (padL D 2) = X) := ⟨_, rfl⟩
        rw [HC.out] at hC ⊢
        go_wp2_with fail
        have EQ : A ++ ⟨#[45]⟩ ++ B ++ ⟨#[45]⟩ ++ C = baL TX := by
          rw [HTZ.out, HTY.out]
          have e1 : baL (padL Y 4) = A := HA.out
          have e2 : baL (padL m 2) = B := HB.out
          have e3 : baL (padL D 2) = C := HC.out
          rw [← e1, ← e2, ← e3]
          simp only [ba_one, baL_append, dateT, List.append_assoc, List.cons_append, List.nil_append]
        go_ret2
        refine ⟨?_, Gw5.out⟩
        rw [← EQ]
        rfl
      · have HTZ : Hid (TX = dateT (ymd day).1 (ymd day).2.1 (ymd day).2.2 ++ 84 :: timeT h mi se) := by show _ = _; rw [HTX.out, if_neg hz]
        clear HTX
        have hz3 : ¬ h = 0 ∨ (h = 0 ∧ ¬ mi = 0) ∨ (h = 0 ∧ mi = 0 ∧ ¬ se = 0) := by omega
        clear hz
        rcases hz3 with hz | ⟨rfl, hz⟩ | ⟨rfl, rfl, hz⟩
        · have hzi : ¬ (h : Int) = 0 := by omega
          go_enter Tryz.func7, Tryz.ntmps7
          go_wp2_with fail
          refine HK.mono ?_
          rintro e w1 ⟨rfl, m1, rfl⟩
          have G1 : Hid (Fr noB w (w.drewN m1)) := (Fr.refl noB w).drewN m1
          go_wp2_with fail
          refine (HDO.out _ G1.out).mono ?_
          rintro e w2 ⟨⟨y, m, d, rfl, hD⟩, hF⟩
          have Gw2 : Hid _ := G1.out.trans hF
          clear hF
          obtain ⟨Y, rfl⟩ : ∃ Y : Nat, y = (Y : Int) := ⟨y.toNat, by have := hD.1; omega⟩
          obtain ⟨D, rfl⟩ : ∃ D : Nat, d = (D : Int) := ⟨d.toNat, by have := hD.2.2.2.2.1; omega⟩
          have y1 : Y ≤ 9999 := by have := hD.2.1; omega
          have y2 : m ≤ 12 := hD.2.2.2.1
          have y3 : D ≤ 31 := by have := hD.2.2.2.2.2.1; have := (domF_bounds (Y : Int) m).2; omega
          have HTY : Hid (ymd day = (Y, m, D)) := ymd_of hD
          clear hD
          go_wp2_with fail
          refine (HPP.out Y 4 _ (by omega) (by omega) Gw2.out).mono ?_
          rintro e w3 ⟨rfl, hF⟩
          have Gw3 : Hid _ := (Gw2.out).trans hF
          clear hF
          have hA : (baL (padL Y 4)).size ≤ 30 := pad_len Y 4 (by omega) (by omega)
          obtain ⟨A, HA⟩ : ∃ X, Hid (baL (padL Y 4) = X) := ⟨_, rfl⟩
          rw [HA.out] at hA ⊢
          go_wp2_with fail
          refine (HPP.out m 2 _ (by omega) (by omega) Gw3.out).mono ?_
          rintro e w4 ⟨rfl, hF⟩
          have Gw4 : Hid _ := (Gw3.out).trans hF
          clear hF
          have hB : (baL (padL m 2)).size ≤ 30 := pad_len m 2 (by omega) (by omega)
          obtain ⟨B, HB⟩ : ∃ X, Hid (baL (padL m 2) = X) := ⟨_, rfl⟩
          rw [HB.out] at hB ⊢
          go_wp2_with fail
          refine (HPP.out D 2 _ (by omega) (by omega) Gw4.out).mono ?_
          rintro e w5 ⟨rfl, hF⟩
          have Gw5 : Hid _ := (Gw4.out).trans hF
          clear hF
          have hC : (baL (padL D 2)).size ≤ 30 := pad_len D 2 (by omega) (by omega)
          obtain ⟨C, HC⟩ : ∃ X, Hid (baL (padL D 2) = X) := ⟨_, rfl⟩
          rw [HC.out] at hC ⊢
          go_wp2_with fail
          refine (HPP.out h 2 _ (by omega) (by omega) Gw5.out).mono ?_
          rintro e w6 ⟨rfl, hF⟩
          have Gw6 : Hid _ := (Gw5.out).trans hF
          clear hF
          have hE : (baL (padL h 2)).size ≤ 30 := pad_len h 2 (by omega) (by omega)
          obtain ⟨E, HE⟩ : ∃ X, Hid (baL (padL h 2) = X) := ⟨_, rfl⟩
          rw [HE.out] at hE ⊢
          go_wp2_with fail
          refine (HPP.out mi 2 _ (by omega) (by omega) Gw6.out).mono ?_
          rintro e w7 ⟨rfl, hF⟩
          have Gw7 : Hid _ := (Gw6.out).trans hF
          clear hF
          have hG : (baL (padL mi 2)).size ≤ 30 := pad_len mi 2 (by omega) (by omega)
          obtain ⟨G, HG⟩ : ∃ X, Hid (baL (padL mi 2) = X) := ⟨_, rfl⟩
          rw [HG.out] at hG ⊢
          go_wp2_with fail
          refine (HPP.out se 2 _ (by omega) (by omega) Gw7.out).mono ?_
          rintro e w8 ⟨rfl, hF⟩
          have Gw8 : Hid _ := (Gw7.out).trans hF
          clear hF
          have hK : (baL (padL se 2)).size ≤ 30 := pad_len se 2 (by omega) (by omega)
          obtain ⟨K, HK2⟩ : ∃ X, Hid (baL (padL se 2) = X) := ⟨_, rfl⟩
          rw [HK2.out] at hK ⊢
          go_wp2_with fail
          have EQ : (A ++ ⟨#[45]⟩ ++ B ++ ⟨#[45]⟩ ++ C) ++ (⟨#[84]⟩ ++ E ++ ⟨#[58]⟩ ++ G ++ ⟨#[58]⟩ ++ K) = baL TX := by
            rw [HTZ.out, HTY.out]
            have e1 : baL (padL Y 4) = A := HA.out
            have e2 : baL (padL m 2) = B := HB.out
            have e3 : baL (padL D 2) = C := HC.out
            have e4 : baL (padL h 2) = E := HE.out
            have e5 : baL (padL mi 2) = G := HG.out
            have e6 : baL (padL se 2) = K := HK2.out
            rw [← e1, ← e2, ← e3, ← e4, ← e5, ← e6]
            simp only [ba_one, baL_append, dateT, timeT, List.append_assoc, List.cons_append, List.nil_append]
          go_ret2
          refine ⟨?_, Gw8.out⟩
          rw [← EQ]
          rfl
        · have hzi : ¬ (mi : Int) = 0 := by omega
          go_enter Tryz.func7, Tryz.ntmps7
          go_wp2_with fail
          refine HK.mono ?_
          rintro e w1 ⟨rfl, m1, rfl⟩
          have G1 : Hid (Fr noB w (w.drewN m1)) := (Fr.refl noB w).drewN m1
          go_wp2_with fail
          refine (HDO.out _ G1.out).mono ?_
          rintro e w2 ⟨⟨y, m, d, rfl, hD⟩, hF⟩
          have Gw2 : Hid _ := G1.out.trans hF
          clear hF
          obtain ⟨Y, rfl⟩ : ∃ Y : Nat, y = (Y : Int) := ⟨y.toNat, by have := hD.1; omega⟩
          obtain ⟨D, rfl⟩ : ∃ D : Nat, d = (D : Int) := ⟨d.toNat, by have := hD.2.2.2.2.1; omega⟩
          have y1 : Y ≤ 9999 := by have := hD.2.1; omega
          have y2 : m ≤ 12 := hD.2.2.2.1
          have y3 : D ≤ 31 := by have := hD.2.2.2.2.2.1; have := (domF_bounds (Y : Int) m).2; omega
          have HTY : Hid (ymd day = (Y, m, D)) := ymd_of hD
          clear hD
          go_wp2_with fail
          refine (HPP.out Y 4 _ (by omega) (by omega) Gw2.out).mono ?_
          rintro e w3 ⟨rfl, hF⟩
          have Gw3 : Hid _ := (Gw2.out).trans hF
          clear hF
          have hA : (baL (padL Y 4)).size ≤ 30 := pad_len Y 4 (by omega) (by omega)
          obtain ⟨A, HA⟩ : ∃ X, Hid (baL (padL Y 4) = X) := ⟨_, rfl⟩
          rw [HA.out] at hA ⊢
          go_wp2_with fail
          refine (HPP.out m 2 _ (by omega) (by omega) Gw3.out).mono ?_
          rintro e w4 ⟨rfl, hF⟩
          have Gw4 : Hid _ := (Gw3.out).trans hF
          clear hF
          have hB : (baL (padL m 2)).size ≤ 30 := pad_len m 2 (by omega) (by omega)
          obtain ⟨B, HB⟩ : ∃ X, Hid (baL (padL m 2) = X) := ⟨_, rfl⟩
          rw [HB.out] at hB ⊢
          go_wp2_with fail
          refine (HPP.out D 2 _ (by omega) (by omega) Gw4.out).mono ?_
          rintro e w5 ⟨rfl, hF⟩
          have Gw5 : Hid _ := (Gw4.out).trans hF
          clear hF
          have hC : (baL (padL D 2)).size ≤ 30 := pad_len D 2 (by omega) (by omega)
          obtain ⟨C, HC⟩ : ∃ X, Hid (baL (padL D 2) = X) := ⟨_, rfl⟩
          rw [HC.out] at hC ⊢
          go_wp2_with fail
          refine (HPP.out 0 2 _ (by omega) (by omega) Gw5.out).mono ?_
          rintro e w6 ⟨rfl, hF⟩
          have Gw6 : Hid _ := (Gw5.out).trans hF
          clear hF
          have hE : (baL (padL 0 2)).size ≤ 30 := pad_len 0 2 (by omega) (by omega)
          obtain ⟨E, HE⟩ : ∃ X, Hid (baL (padL 0 2) = X) := ⟨_, rfl⟩
          rw [HE.out] at hE ⊢
          go_wp2_with fail
          refine (HPP.out mi 2 _ (by omega) (by omega) Gw6.out).mono ?_
          rintro e w7 ⟨rfl, hF⟩
          have Gw7 : Hid _ := (Gw6.out).trans hF
          clear hF
          have hG : (baL (padL mi 2)).size ≤ 30 := pad_len mi 2 (by omega) (by omega)
          obtain ⟨G, HG⟩ : ∃ X, Hid (baL (padL mi 2) = X) := ⟨_, rfl⟩
          rw [HG.out] at hG ⊢
          go_wp2_with fail
          refine (HPP.out se 2 _ (by omega) (by omega) Gw7.out).mono ?_
          rintro e w8 ⟨rfl, hF⟩
          have Gw8 : Hid _ := (Gw7.out).trans hF
          clear hF
          have hK : (baL (padL se 2)).size ≤ 30 := pad_len se 2 (by omega) (by omega)
          obtain ⟨K, HK2⟩ : ∃ X, Hid (baL (padL se 2) = X) := ⟨_, rfl⟩
          rw [HK2.out] at hK ⊢
          go_wp2_with fail
          have EQ : (A ++ ⟨#[45]⟩ ++ B ++ ⟨#[45]⟩ ++ C) ++ (⟨#[84]⟩ ++ E ++ ⟨#[58]⟩ ++ G ++ ⟨#[58]⟩ ++ K) = baL TX := by
            rw [HTZ.out, HTY.out]
            have e1 : baL (padL Y 4) = A := HA.out
            have e2 : baL (padL m 2) = B := HB.out
            have e3 : baL (padL D 2) = C := HC.out
            have e4 : baL (padL 0 2) = E := HE.out
            have e5 : baL (padL mi 2) = G := HG.out
            have e6 : baL (padL se 2) = K := HK2.out
            rw [← e1, ← e2, ← e3, ← e4, ← e5, ← e6]
            simp only [ba_one, baL_append, dateT, timeT, List.append_assoc, List.cons_append, List.nil_append]
          go_ret2
          refine ⟨?_, Gw8.out⟩
          rw [← EQ]
          rfl
        · have hzi : ¬ (se : Int) = 0 := by omega
          go_enter Tryz.func7, Tryz.ntmps7
          go_wp2_with fail
          refine HK.mono ?_
          rintro e w1 ⟨rfl, m1, rfl⟩
          have G1 : Hid (Fr noB w (w.drewN m1)) := (Fr.refl noB w).drewN m1
          go_wp2_with fail
          refine (HDO.out _ G1.out).mono ?_
          rintro e w2 ⟨⟨y, m, d, rfl, hD⟩, hF⟩
          have Gw2 : Hid _ := G1.out.trans hF
          clear hF
          obtain ⟨Y, rfl⟩ : ∃ Y : Nat, y = (Y : Int) := ⟨y.toNat, by have := hD.1; omega⟩
          obtain ⟨D, rfl⟩ : ∃ D : Nat, d = (D : Int) := ⟨d.toNat, by have := hD.2.2.2.2.1; omega⟩
          have y1 : Y ≤ 9999 := by have := hD.2.1; omega
          have y2 : m ≤ 12 := hD.2.2.2.1
          have y3 : D ≤ 31 := by have := hD.2.2.2.2.2.1; have := (domF_bounds (Y : Int) m).2; omega
          have HTY : Hid (ymd day = (Y, m, D)) := ymd_of hD
          clear hD
          go_wp2_with fail
          refine (HPP.out Y 4 _ (by omega) (by omega) Gw2.out).mono ?_
          rintro e w3 ⟨rfl, hF⟩
          have Gw3 : Hid _ := (Gw2.out).trans hF
          clear hF
          have hA : (baL (padL Y 4)).size ≤ 30 := pad_len Y 4 (by omega) (by omega)
          obtain ⟨A, HA⟩ : ∃ X, Hid (baL (padL Y 4) = X) := ⟨_, rfl⟩
          rw [HA.out] at hA ⊢
          go_wp2_with fail
          refine (HPP.out m 2 _ (by omega) (by omega) Gw3.out).mono ?_
          rintro e w4 ⟨rfl, hF⟩
          have Gw4 : Hid _ := (Gw3.out).trans hF
          clear hF
          have hB : (baL (padL m 2)).size ≤ 30 := pad_len m 2 (by omega) (by omega)
          obtain ⟨B, HB⟩ : ∃ X, Hid (baL (padL m 2) = X) := ⟨_, rfl⟩
          rw [HB.out] at hB ⊢
          go_wp2_with fail
          refine (HPP.out D 2 _ (by omega) (by omega) Gw4.out).mono ?_
          rintro e w5 ⟨rfl, hF⟩
          have Gw5 : Hid _ := (Gw4.out).trans hF
          clear hF
          have hC : (baL (padL D 2)).size ≤ 30 := pad_len D 2 (by omega) (by omega)
          obtain ⟨C, HC⟩ : ∃ X, Hid (baL (padL D 2) = X) := ⟨_, rfl⟩
          rw [HC.out] at hC ⊢
          go_wp2_with fail
          refine (HPP.out 0 2 _ (by omega) (by omega) Gw5.out).mono ?_
          rintro e w6 ⟨rfl, hF⟩
          have Gw6 : Hid _ := (Gw5.out).trans hF
          clear hF
          have hE : (baL (padL 0 2)).size ≤ 30 := pad_len 0 2 (by omega) (by omega)
          obtain ⟨E, HE⟩ : ∃ X, Hid (baL (padL 0 2) = X) := ⟨_, rfl⟩
          rw [HE.out] at hE ⊢
          go_wp2_with fail
          refine (HPP.out 0 2 _ (by omega) (by omega) Gw6.out).mono ?_
          rintro e w7 ⟨rfl, hF⟩
          have Gw7 : Hid _ := (Gw6.out).trans hF
          clear hF
          have hG : (baL (padL 0 2)).size ≤ 30 := pad_len 0 2 (by omega) (by omega)
          obtain ⟨G, HG⟩ : ∃ X, Hid (baL (padL 0 2) = X) := ⟨_, rfl⟩
          rw [HG.out] at hG ⊢
          go_wp2_with fail
          refine (HPP.out se 2 _ (by omega) (by omega) Gw7.out).mono ?_
          rintro e w8 ⟨rfl, hF⟩
          have Gw8 : Hid _ := (Gw7.out).trans hF
          clear hF
          have hK : (baL (padL se 2)).size ≤ 30 := pad_len se 2 (by omega) (by omega)
          obtain ⟨K, HK2⟩ : ∃ X, Hid (baL (padL se 2) = X) := ⟨_, rfl⟩
          rw [HK2.out] at hK ⊢
          go_wp2_with fail
          have EQ : (A ++ ⟨#[45]⟩ ++ B ++ ⟨#[45]⟩ ++ C) ++ (⟨#[84]⟩ ++ E ++ ⟨#[58]⟩ ++ G ++ ⟨#[58]⟩ ++ K) = baL TX := by
            rw [HTZ.out, HTY.out]
            have e1 : baL (padL Y 4) = A := HA.out
            have e2 : baL (padL m 2) = B := HB.out
            have e3 : baL (padL D 2) = C := HC.out
            have e4 : baL (padL 0 2) = E := HE.out
            have e5 : baL (padL 0 2) = G := HG.out
            have e6 : baL (padL se 2) = K := HK2.out
            rw [← e1, ← e2, ← e3, ← e4, ← e5, ← e6]
            simp only [ba_one, baL_append, dateT, timeT, List.append_assoc, List.cons_append, List.nil_append]
          go_ret2
          refine ⟨?_, Gw8.out⟩
          rw [← EQ]
          rfl
#print axioms dateText_any
#print axioms rdateText_any
end Go.Proofs.YtfoclhpnlemmnaaGreatDoor
