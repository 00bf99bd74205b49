/- Shift of a decimal: its contract. -/
import Derived.Test.YtnklmcmdlobicaaGreatDoorXAsg
namespace Go.Proofs.YtnklmcmdlobicaaGreatDoor
open Go.RowKit
theorem rsh_dp (k : Nat) (L : List Nat) (dp : Int) (hk : k ≤ 60) (h : GoodD L) : dp - 860 ≤ (rsh k L dp).2 ∧ (rsh k L dp).2 ≤ dp := by
  obtain ⟨_, _, f3, f4, _⟩ := rs_facts k L hk h
  have hg := (rsh_good k L dp h).1
  unfold rsh at hg ⊢
  rw [trimP_good _ _ (show GoodD (trimD _) from hg)]
  simp only
  omega
theorem lsh_dp (k : Nat) (L : List Nat) (dp : Int) (h1 : 1 ≤ k) (hk : k ≤ 60) (h : GoodD L) : dp ≤ (lsh k L dp).2 ∧ (lsh k L dp).2 ≤ dp + 60 := by
  obtain ⟨_, _, f3⟩ := lsO_good k h1 hk L h
  obtain ⟨⟨c1, c2⟩, _⟩ := cheat_ok k h1 hk
  have hg := (lsh_good k h1 hk L dp h).1
  unfold lsh at hg ⊢
  rw [trimP_good _ _ (show GoodD (trimD _) from hg)]
  simp only
  split at f3 <;> omega
/-- What a shift leaves. -/
def shF (e : Int) (x : List Nat × Int) : List Nat × Int := if e = 0 then x else if 0 < e then lshs 20 e.toNat x else rshs 20 (-e).toNat x
theorem decOf_sh (m : Nat) (e : Int) : decOf m e = shF e (asgD m) := rfl
set_option maxRecDepth 100000 in
set_option maxHeartbeats 2000000 in
theorem shift_any (b M : Nat) (e : Int) (L : List Nat) (dp : Int) (w : World) (he1 : -1074 ≤ e) (he2 : e ≤ 971) (hD : DecIs w b L dp) (hG : GoodD L) (hdp1 : -1000 ≤ dp) (hdp2 : dp ≤ 1000) (hT : CTab w M) (hb : M ≤ b) :
    Calls Tryz.prog 181 #[.pointer (some ⟨b, 0, none⟩), .int .i64 e] w fun en w' => en = .returned (.tuple #[]) ∧ DecIs w' b (shF e (L, dp)).1 (shF e (L, dp)).2 ∧ Fr (oneB b) w w' := by
  obtain ⟨C, tr, hD1, h8, hC⟩ := id hD
  have c8 := hD1.nd
  have hLp : 1 ≤ L.length := by
    obtain ⟨⟨a0, t0, e0, _⟩, _⟩ := id hG
    rw [e0]; simp
  have hLz : ((L.length : Int) == 0) = false := by rw [beq_eq_false_iff_ne]; omega
  have HD : Hid (DecIs w b L dp) := hD
  have HG : Hid (GoodD L) := hG
  have HT : Hid (CTab w M) := hT
  clear hD hG hD1 hC hT
  by_cases h0 : e = 0
  · subst h0
    go_enter Tryz.func181, Tryz.ntmps181
    go_wp2_with fail
    go_end0
    exact ⟨rfl, HD.out, Fr.refl _ _⟩
  · by_cases hp : 0 < e
    · obtain ⟨n, hn⟩ : ∃ n : Nat, e = (n : Int) := ⟨e.toNat, by omega⟩
      subst hn
      have HS : Hid (shF (n : Int) (L, dp) = lshs 20 n (L, dp)) := by show _ = _; unfold shF; rw [if_neg h0, if_pos hp]; rfl
      have hn0 : 0 < n := by omega
      go_enter Tryz.func181, Tryz.ntmps181
      go_wp2_with fail
      go_loopg [1] 20 (fun f kv wr => ∃ (q : Nat) (x : List Nat × Int), kv = .int .i64 (q : Int) ∧ 1 ≤ q ∧ q ≤ 60 + 60 * f ∧ q ≤ 971 ∧ Fr (oneB b) w wr ∧ Hid (f ≤ 20 ∧ lshs f q x = lshs 20 n (L, dp) ∧ DecIs wr b x.1 x.2 ∧ GoodD x.1 ∧ dp ≤ x.2 ∧ x.2 ≤ dp + 60 * (20 - f)))
      case atStart => exact ⟨n, (L, dp), rfl, by omega, by omega, by omega, Fr.refl _ _, ⟨Nat.le_refl _, rfl, HD.out, HG.out, by simp, by simp⟩⟩
      case round =>
        obtain ⟨q, x, rfl, hq1, hq2, hq3, hF, HX⟩ := hrel
        have HT2 : CTab wr M := HT.out.fr hF hb
        by_cases hq : 60 < q
        · cases gk with
          | zero => exact absurd hq (by omega)
          | succ g =>
            have HC1 : Hid (Calls Tryz.prog 223 #[.pointer (some ⟨b, 0, none⟩), .int .u64 60] wr fun en w' => en = .returned (.tuple #[]) ∧ DecIs w' b (lsh 60 x.1 x.2).1 (lsh 60 x.1 x.2).2 ∧ Fr (oneB b) wr w') := by
              obtain ⟨x1, x2, x3, x4, x5, x6⟩ := HX.out
              exact lsh_any b 60 M x.1 x.2 wr (by omega) (by omega) x3 x4 (by omega) (by omega) HT2
            have HN : Hid (g ≤ 20 ∧ lshs g (q - 60) (lsh 60 x.1 x.2) = lshs 20 n (L, dp) ∧ GoodD (lsh 60 x.1 x.2).1 ∧ dp ≤ (lsh 60 x.1 x.2).2 ∧ (lsh 60 x.1 x.2).2 ≤ dp + 60 * (20 - g)) := by
              obtain ⟨x1, x2, x3, x4, x5, x6⟩ := HX.out
              have hd := lsh_dp 60 x.1 x.2 (by omega) (by omega) HX.out.2.2.2.1
              refine ⟨by omega, ?_, (lsh_good 60 (by omega) (by omega) x.1 x.2 HX.out.2.2.2.1).1, by omega, by omega⟩
              rw [← x2]
              show _ = if 60 < q then _ else _
              rw [if_pos hq]
            obtain ⟨q2, hq2e⟩ : ∃ q2, q - 60 = q2 := ⟨_, rfl⟩
            rw [hq2e] at HN
            have e2 : (q : Int) - 60 = (q2 : Int) := by omega
            have HF : Hid (Fr (oneB b) w wr) := hF
            clear HX hF HT2
            go_wp2_with (go_at_call 223; refine HC1.out.mono ?_; rintro en w4 ⟨rfl, hI, hF4⟩)
            go_roundg g
            case measure => omega
            case rel => exact ⟨q2, lsh 60 x.1 x.2, by go_num, by omega, by omega, by omega, HF.out.trans hF4, ⟨HN.out.1, HN.out.2.1, hI, HN.out.2.2.1, HN.out.2.2.2.1, HN.out.2.2.2.2⟩⟩
        · have HC1 : Hid (Calls Tryz.prog 223 #[.pointer (some ⟨b, 0, none⟩), .int .u64 (q : Int)] wr fun en w' => en = .returned (.tuple #[]) ∧ DecIs w' b (lsh q x.1 x.2).1 (lsh q x.1 x.2).2 ∧ Fr (oneB b) wr w') := by
            obtain ⟨x1, x2, x3, x4, x5, x6⟩ := HX.out
            exact lsh_any b q M x.1 x.2 wr (by omega) (by omega) x3 x4 (by omega) (by omega) HT2
          have HE : Hid (shF (n : Int) (L, dp) = lsh q x.1 x.2) := by
            show _ = _
            rw [HS.out, ← HX.out.2.1]
            cases gk with
            | zero => rfl
            | succ g => show (if 60 < q then _ else _) = _; rw [if_neg hq]
          have hq' : ¬ (60 : Int) < (q : Int) := by omega
          have HF : Hid (Fr (oneB b) w wr) := hF
          clear HX hF HT2
          go_wp2_with (go_at_call 223; refine HC1.out.mono ?_; rintro en w4 ⟨rfl, hI, hF4⟩)
          go_end0
          rw [HE.out]
          exact ⟨rfl, hI, HF.out.trans hF4⟩
    · obtain ⟨n, hn⟩ : ∃ n : Nat, e = -(n : Int) := ⟨(-e).toNat, by omega⟩
      subst hn
      have HS : Hid (shF (-(n : Int)) (L, dp) = rshs 20 n (L, dp)) := by show _ = _; unfold shF; rw [if_neg h0, if_neg hp, Int.neg_neg]; rfl
      have hneg : -(n : Int) < 0 := by omega
      go_enter Tryz.func181, Tryz.ntmps181
      go_wp2_with fail
      go_loopg [1] 20 (fun f kv wr => ∃ (q : Nat) (x : List Nat × Int), kv = .int .i64 (-(q : Int)) ∧ 1 ≤ q ∧ q ≤ 60 + 60 * f ∧ q ≤ 1074 ∧ Fr (oneB b) w wr ∧ Hid (f ≤ 20 ∧ rshs f q x = rshs 20 n (L, dp) ∧ DecIs wr b x.1 x.2 ∧ GoodD x.1 ∧ dp - 860 * (20 - f) ≤ x.2 ∧ x.2 ≤ dp))
      case atStart => exact ⟨n, (L, dp), rfl, by omega, by omega, by omega, Fr.refl _ _, ⟨Nat.le_refl _, rfl, HD.out, HG.out, by simp, by simp⟩⟩
      case round =>
        obtain ⟨q, x, rfl, hq1, hq2, hq3, hF, HX⟩ := hrel
        have HT2 : CTab wr M := HT.out.fr hF hb
        by_cases hq : 60 < q
        · cases gk with
          | zero => exact absurd hq (by omega)
          | succ g =>
            have HC1 : Hid (Calls Tryz.prog 224 #[.pointer (some ⟨b, 0, none⟩), .int .u64 60] wr fun en w' => en = .returned (.tuple #[]) ∧ DecIs w' b (rsh 60 x.1 x.2).1 (rsh 60 x.1 x.2).2 ∧ Fr (oneB b) wr w') := by
              obtain ⟨x1, x2, x3, x4, x5, x6⟩ := HX.out
              exact rsh_any b 60 x.1 x.2 wr (by omega) (by omega) x3 x4 (by omega) (by omega)
            have HN : Hid (g ≤ 20 ∧ rshs g (q - 60) (rsh 60 x.1 x.2) = rshs 20 n (L, dp) ∧ GoodD (rsh 60 x.1 x.2).1 ∧ dp - 860 * (20 - g) ≤ (rsh 60 x.1 x.2).2 ∧ (rsh 60 x.1 x.2).2 ≤ dp) := by
              obtain ⟨x1, x2, x3, x4, x5, x6⟩ := HX.out
              have hd := rsh_dp 60 x.1 x.2 (by omega) HX.out.2.2.2.1
              refine ⟨by omega, ?_, (rsh_good 60 x.1 x.2 HX.out.2.2.2.1).1, by omega, by omega⟩
              rw [← x2]
              show _ = if 60 < q then _ else _
              rw [if_pos hq]
            obtain ⟨q2, hq2e⟩ : ∃ q2, q - 60 = q2 := ⟨_, rfl⟩
            rw [hq2e] at HN
            have e2 : -(q : Int) + 60 = -(q2 : Int) := by omega
            have HF : Hid (Fr (oneB b) w wr) := hF
            clear HX hF HT2
            go_wp2_with (go_at_call 224; refine HC1.out.mono ?_; rintro en w4 ⟨rfl, hI, hF4⟩)
            go_roundg g
            case measure => omega
            case rel => exact ⟨q2, rsh 60 x.1 x.2, by go_num, by omega, by omega, by omega, HF.out.trans hF4, ⟨HN.out.1, HN.out.2.1, hI, HN.out.2.2.1, HN.out.2.2.2.1, HN.out.2.2.2.2⟩⟩
        · have HC1 : Hid (Calls Tryz.prog 224 #[.pointer (some ⟨b, 0, none⟩), .int .u64 (q : Int)] wr fun en w' => en = .returned (.tuple #[]) ∧ DecIs w' b (rsh q x.1 x.2).1 (rsh q x.1 x.2).2 ∧ Fr (oneB b) wr w') := by
            obtain ⟨x1, x2, x3, x4, x5, x6⟩ := HX.out
            exact rsh_any b q x.1 x.2 wr (by omega) (by omega) x3 x4 (by omega) (by omega)
          have HE : Hid (shF (-(n : Int)) (L, dp) = rsh q x.1 x.2) := by
            show _ = _
            rw [HS.out, ← HX.out.2.1]
            cases gk with
            | zero => rfl
            | succ g => show (if 60 < q then _ else _) = _; rw [if_neg hq]
          have hq' : ¬ -(q : Int) < -60 := by omega
          have HF : Hid (Fr (oneB b) w wr) := hF
          clear HX hF HT2
          go_wp2_with (go_at_call 224; refine HC1.out.mono ?_; rintro en w4 ⟨rfl, hI, hF4⟩)
          go_end0
          rw [HE.out]
          exact ⟨rfl, hI, HF.out.trans hF4⟩
#print axioms shift_any
end Go.Proofs.YtnklmcmdlobicaaGreatDoor
