/- allDigits, hoursOf, daysIn: the program's contracts. -/
import Derived.Test.YtfoclhpnlemmnaaGreatDoorTNum
import Derived.Test.YtfoclhpnlemmnaaGreatDoorTDiv
namespace Go.Proofs.YtfoclhpnlemmnaaGreatDoor
open Go.RowKit

theorem get_at (s : ByteArray) (k : Nat) (h : k < s.size) : s.get! k = s[k] := by simp [ByteArray.get!, getElem!_pos, h]; rfl
theorem decode_dig (s : ByteArray) (k : Nat) (h : k < s.size) : dgI ((Utf8.decode s k).1 : Int) = dgB (s[k]'h) ∧ (dgB (s[k]'h) = true → Utf8.decode s k = ((s[k]'h).toNat, 1)) := by
  by_cases ha : (s[k]'h).toNat < 128
  · have e := decode_ascii s k h ha
    rw [e]
    exact ⟨dgI_nat _, fun _ => rfl⟩
  · have hf : dgB (s[k]'h) = false := by unfold dgB; rw [decide_eq_false (by omega)]
    refine ⟨?_, fun hd => by rw [hf] at hd; cases hd⟩
    have h0 : (s.get! k).toNat < 256 := (s.get! k).toNat_lt
    have hg : ¬ (s.get! k).toNat < 128 := by rw [get_at s k h]; exact ha
    have hbig : 128 ≤ (Utf8.decode s k).1 := by
      rw [Lib.decode_at]
      unfold Lib.decodeN
      rw [if_neg hg]
      repeat' split
      all_goals simp only
      all_goals omega
    rw [hf]
    unfold dgI
    rw [decide_eq_false (by omega)]
set_option maxRecDepth 100000 in
set_option maxHeartbeats 1000000 in
theorem allDigits_any (s : ByteArray) (w : World) (h0 : 0 < s.size) : Calls Tryz.prog 61 #[.string s] w fun e w' => e = .returned (.bool (s.data.toList.all dgB)) ∧ Fr noB w w' := by
  obtain ⟨ANS, hANS⟩ : ∃ A, s.data.toList.all dgB = A := ⟨_, rfl⟩
  have HANS : Hid (s.data.toList.all dgB = ANS) := hANS
  rw [hANS]
  clear hANS
  have hne : ¬ s.toList = [] := by
    rw [ByteArray.toList_eq]
    intro h
    have h1 : s.data.toList.length = 0 := by rw [h]; rfl
    have h2 : s.data.toList.length = s.size := by simp
    omega
  go_enter Tryz.func61, Tryz.ntmps61
  go_wp2_with fail
  go_loopw [] (fun w' => ∃ (pos : Nat), w' = w.iter s pos ∧ pos ≤ s.size ∧ Hid ((s.data.toList.drop pos).all dgB = ANS)) (fun w' => s.size - w'.iterPos w.heap.size)
  case atStart => exact ⟨0, rfl, Nat.zero_le _, HANS⟩
  case round =>
    obtain ⟨pos, rfl, hps, HC⟩ := hrel
    by_cases hp : pos < s.size
    · have hnx : ∀ ty, (Instr.next (.pointer (some ⟨w.heap.size, 0, none⟩)) true ty).run Tryz.prog (w.iter s pos) = _ := fun ty => run_next_any w s pos ty hp
      obtain ⟨d1, d2⟩ := decode_dig s pos hp
      have HD := isDigit_any ((Utf8.decode s pos).1 : Int)
      rw [d1] at HD
      have HC2 := HC.out
      rw [drop_at s pos hp, List.all_cons] at HC2
      cases hd : dgB (s[pos]'hp) with
      | true =>
        rw [hd] at HD HC2
        have hdec := d2 hd
        rw [hdec] at HD hnx
        have HC3 : Hid ((s.data.toList.drop (pos + 1)).all dgB = ANS) := by rw [Bool.true_and] at HC2; exact HC2
        clear HC HC2 d1 d2 hd hdec HANS
        simp only at hnx HD
        go_wp2_with (go_at_call 56; with_reducible refine (HD _).mono ?_; rintro e w3 ⟨rfl, rfl⟩)
        go_roundw
        case rel => exact ⟨pos + 1, rfl, by omega, HC3⟩
        case measure => simp; omega
      | false =>
        rw [hd] at HD HC2
        rw [Bool.false_and] at HC2
        subst HC2
        have HF : Hid (Fr noB w (w.iter s (pos + (Utf8.decode s pos).2))) := (Fr.refl noB w).alloc _
        clear HC d1 d2 hd HANS
        go_wp2_with (go_at_call 56; with_reducible refine (HD _).mono ?_; rintro e w3 ⟨rfl, rfl⟩)
        go_ret
        exact ⟨rfl, HF.out⟩
    · have hnx : ∀ ty, (Instr.next (.pointer (some ⟨w.heap.size, 0, none⟩)) true ty).run Tryz.prog (w.iter s pos) = _ := fun ty => run_next_end w s pos ty hp
      have HC2 := HC.out
      rw [List.drop_of_length_le (show s.data.toList.length ≤ pos by simp; omega)] at HC2
      have : true = ANS := by simpa using HC2
      subst this
      clear HC HC2 HANS
      go_wp2_with fail
      go_ret
      exact ⟨ret_bool (by simp [hne]), (Fr.refl noB w).alloc _⟩
/-- The number of hours of a text. -/
def hoursF (L : List UInt8) : Option Nat := if L.length < 2 ∨ 13 < L.length ∨ (2 < L.length ∧ L.head? = some 48) ∨ L.all dgB = false then none else some (numOf L)
def hoursV (o : Option Nat) : Value := match o with
  | none => .tuple #[.int .i64 0, .bool false]
  | some n => .tuple #[.int .i64 (n : Int), .bool true]
theorem head_at (s : ByteArray) (h : 0 < s.size) : s.data.toList.head? = some (s[0]'h) := by
  have := drop_at s 0 h
  rw [List.drop_zero] at this
  rw [this]
  rfl
theorem pow_13 {k a : Nat} (h : a < 10 ^ k) (hk : k ≤ 13) : a < 10000000000000 := by
  have := Nat.pow_le_pow_right (show 1 ≤ 10 by omega) hk
  have e : (10 : Nat) ^ 13 = 10000000000000 := by decide
  omega
set_option maxRecDepth 100000 in
set_option maxHeartbeats 1000000 in
theorem hoursOf_any (s : ByteArray) (w : World) : Calls Tryz.prog 37 #[.string s] w fun e w' => e = .returned (hoursV (hoursF s.data.toList)) ∧ Fr noB w w' := by
  have hlen : s.data.toList.length = s.size := by simp
  by_cases c1 : s.size < 2
  · have hN : hoursF s.data.toList = none := by unfold hoursF; rw [if_pos (Or.inl (by omega))]
    rw [hN]
    clear hN hlen
    go_enter Tryz.func37, Tryz.ntmps37
    go_wp2_with fail
    go_ret2
    exact ⟨rfl, Fr.refl _ _⟩
  by_cases c2 : 13 < s.size
  · have hN : hoursF s.data.toList = none := by unfold hoursF; rw [if_pos (Or.inr (Or.inl (by omega)))]
    rw [hN]
    clear hN hlen
    go_enter Tryz.func37, Tryz.ntmps37
    go_wp2_with fail
    go_ret2
    exact ⟨rfl, Fr.refl _ _⟩
  have h0 : 0 < s.size := by omega
  have HH := head_at s h0
  by_cases c3 : 2 < s.size ∧ (s[0]'h0) = 48
  · have hN : hoursF s.data.toList = none := by unfold hoursF; rw [if_pos (Or.inr (Or.inr (Or.inl ⟨by omega, by rw [HH, c3.2]⟩)))]
    rw [hN]
    obtain ⟨c3, c4⟩ := c3
    have c5 : (s[0]'h0).toNat = 48 := by rw [c4]; rfl
    clear hN hlen HH c4
    go_enter Tryz.func37, Tryz.ntmps37
    go_wp2_with fail
    go_ret2
    exact ⟨rfl, Fr.refl _ _⟩
  have HA := allDigits_any s
  cases hd : s.data.toList.all dgB with
  | false =>
    have hN : hoursF s.data.toList = none := by unfold hoursF; rw [if_pos (Or.inr (Or.inr (Or.inr hd)))]
    rw [hN]
    rw [hd] at HA
    by_cases c4 : 2 < s.size
    · have c5 : ¬ (s[0]'h0).toNat = 48 := fun e => c3 ⟨c4, UInt8.toNat_inj.1 (by rw [e]; rfl)⟩
      clear hN hlen HH hd c3
      go_enter Tryz.func37, Tryz.ntmps37
      go_wp2_with (go_at_call 61; with_reducible refine (HA _ h0).mono ?_; rintro e w3 ⟨rfl, hF3⟩)
      go_ret2
      exact ⟨rfl, hF3⟩
    · clear hN hlen HH hd c3
      go_enter Tryz.func37, Tryz.ntmps37
      go_wp2_with (go_at_call 61; with_reducible refine (HA _ h0).mono ?_; rintro e w3 ⟨rfl, hF3⟩)
      go_ret2
      exact ⟨rfl, hF3⟩
  | true =>
    have hN : hoursF s.data.toList = some (numOf s.data.toList) := by
      unfold hoursF
      rw [if_neg]
      rintro (h | h | h | h)
      · omega
      · omega
      · rw [HH] at h; exact c3 ⟨by omega, Option.some.inj h.2⟩
      · rw [hd] at h; cases h
    rw [hN]
    rw [hd] at HA
    have HDG : Hid (∀ c ∈ s.data.toList, dgB c = true) := List.all_eq_true.1 hd
    obtain ⟨ANS, hANS⟩ : ∃ A, numOf s.data.toList = A := ⟨_, rfl⟩
    have HANS : Hid (numFrom 0 s.data.toList = ANS) := hANS
    rw [hANS]
    clear hN hlen HH hd hANS
    have loop : ∀ (w3 : World), Fr noB w w3 → ∀ (pos a : Nat), pos < s.size → a < 10 ^ pos → numFrom a (s.data.toList.drop pos) = ANS → ∃ hp : pos < s.size, dgB (s[pos]'hp) = true ∧ Utf8.decode s pos = ((s[pos]'hp).toNat, 1) ∧ numFrom (a * 10 + ((s[pos]'hp).toNat - 48)) (s.data.toList.drop (pos + 1)) = ANS := by
      intro w3 _ pos a hp _ hc
      have hdg : dgB (s[pos]'hp) = true := HDG.out _ (by
        have : (s[pos]'hp) ∈ s.data.toList.drop pos := by rw [drop_at s pos hp]; exact List.mem_cons_self
        exact List.mem_of_mem_drop this)
      refine ⟨hp, hdg, (decode_dig s pos hp).2 hdg, ?_⟩
      rw [drop_at s pos hp] at hc
      exact hc
    have LOOP : Hid _ := loop
    clear loop
    have b1 : decide ((s.size : Int) < 2) = false := decide_eq_false (by omega)
    have b2 : decide ((13 : Int) < (s.size : Int)) = false := decide_eq_false (by omega)
    by_cases c4 : 2 < s.size
    all_goals
      first
        | (have c5 : ¬ (s[0]'h0).toNat = 48 := fun e => c3 ⟨c4, UInt8.toNat_inj.1 (by rw [e]; rfl)⟩
           have b3 : (((s[0]'h0).toNat : Int) == 48) = false := by rw [beq_eq_false_iff_ne]; omega)
        | skip
      clear c3
      go_enter Tryz.func37, Tryz.ntmps37
      go_wp2_with (go_at_call 61; with_reducible refine (HA _ h0).mono ?_; rintro e w3 ⟨rfl, hF3⟩)
      have HF3 : Hid (Fr noB w w3) := hF3
      clear hF3
      go_loopw [5] (fun hv w' => ∃ (pos a : Nat), hv = .int .i64 (a : Int) ∧ w' = w3.iter s pos ∧ pos ≤ s.size ∧ a < 10 ^ pos ∧ Hid (numFrom a (s.data.toList.drop pos) = ANS)) (fun _ w' => s.size - w'.iterPos w3.heap.size)
      case atStart => exact ⟨0, 0, rfl, rfl, Nat.zero_le _, by decide, HANS⟩
      case round =>
        obtain ⟨pos, a, rfl, rfl, hps, ha, HC⟩ := hrel
        by_cases hp : pos < s.size
        · have hnx : ∀ ty, (Instr.next (.pointer (some ⟨w3.heap.size, 0, none⟩)) true ty).run Tryz.prog (w3.iter s pos) = _ := fun ty => run_next_any w3 s pos ty hp
          obtain ⟨_, hdg, hdec, hc2⟩ := LOOP.out w3 HF3.out pos a hp ha HC.out
          rw [hdec] at hnx
          simp only at hnx
          have hdr : 48 ≤ (s[pos]'hp).toNat ∧ (s[pos]'hp).toNat ≤ 57 := by simpa [dgB] using hdg
          have ha13 := pow_13 ha (by omega)
          obtain ⟨c, hcc⟩ : ∃ c, (s[pos]'hp).toNat = c := ⟨_, rfl⟩
          rw [hcc] at hnx hdr hc2
          have HC3 : Hid _ := hc2
          have HA10 : Hid (a * 10 + (c - 48) < 10 ^ (pos + 1)) := by show _ < _; rw [Nat.pow_succ]; omega
          have HV : Hid (((a * 10 + (c - 48) : Nat) : Int) = (a : Int) * 10 + ((c : Int) - 48)) := by show _ = _; omega
          clear HC hdec hdg hc2 ha hcc
          go_wp2_with fail
          go_roundw
          case rel => exact ⟨pos + 1, a * 10 + (c - 48), by rw [HV.out], rfl, by omega, HA10.out, HC3⟩
          case measure => simp; omega
        · have hnx : ∀ ty, (Instr.next (.pointer (some ⟨w3.heap.size, 0, none⟩)) true ty).run Tryz.prog (w3.iter s pos) = _ := fun ty => run_next_end w3 s pos ty hp
          have HC2 := HC.out
          rw [List.drop_of_length_le (show s.data.toList.length ≤ pos by simp; omega)] at HC2
          have HC3 : Hid (a = ANS) := HC2
          clear HC HC2 ha
          go_wp2_with fail
          go_ret2
          rw [← HC3.out]
          exact ⟨rfl, HF3.out.alloc _⟩
theorem run_quo (n : Nat) (hn : n < 144115188075855872) (W : World) : (binOp .quo 23 (.float .f64 (floatOfInt .f64 (n : Int))) (.float .f64 4680673776000565248)).run Tryz.prog W = .ok (.float .f64 (dayQ n)) W := run_float_arith W .quo 23 .f64 _ _ _ (dayQ_spec n hn).1
set_option maxRecDepth 100000 in
theorem daysIn_any (h m s : Nat) (hh : h < 10000000000000) (hm : m < 1000) (hs : s < 1000) (w : World) : Calls Tryz.prog 32 #[.int .i64 (h : Int), .int .i64 (m : Int), .int .i64 (s : Int)] w fun e w' => e = .returned (.float .f64 (dayQ (h * 3600 + (m * 60 + s)))) ∧ w' = w := by
  have HQ := run_quo (h * 3600 + (m * 60 + s)) (by omega)
  rw [show ((h * 3600 + (m * 60 + s) : Nat) : Int) = (h : Int) * 3600 + ((m : Int) * 60 + (s : Int)) by omega] at HQ
  generalize dayQ (h * 3600 + (m * 60 + s)) = q at *
  go_enter Tryz.func32, Tryz.ntmps32
  go_wp2_with fail
  go_ret
  exact ⟨rfl, rfl⟩
#print axioms hoursOf_any
#print axioms daysIn_any
end Go.Proofs.YtfoclhpnlemmnaaGreatDoor
