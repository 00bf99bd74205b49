/- FormatFloat with the format f and all places told: its contract. -/
import Derived.Test.YtnklmcmdlobicaaGreatDoorXFtF
import Derived.Test.YtnklmcmdlobicaaGreatDoorXFxR
namespace Go.Proofs.YtnklmcmdlobicaaGreatDoor
open Go.RowKit Ieee Go.Shelf

/-- A float's digits, those of nought too. -/
def dD (y : Nat) : List Nat := if y = 0 then [] else aD y
def dP (y : Nat) : Int := if y = 0 then 0 else aP y
theorem d_facts (y : Nat) (hy : y < 9218868437227405312) : ((dD y).length : Int) - dP y ≤ 1074 ∧ dP y ≤ 400 ∧ ∀ z ∈ dD y, 48 ≤ z ∧ z ≤ 57 := by
  unfold dD dP
  split
  · exact ⟨by simp, by omega, fun z hz => by cases hz⟩
  · obtain ⟨_, _, h3, h4, h5⟩ := a_facts y (by omega) hy
    exact ⟨h3, h4, h5⟩
set_option maxRecDepth 100000 in
set_option maxHeartbeats 1000000 in
theorem iformatf_any (y P M : Nat) (w : World) (hy : y < 9218868437227405312) (hP1 : 1074 ≤ P) (hP2 : P ≤ 1100) (hO : OTab w) (hT : CTab w M) :
    Calls Tryz.prog 67 #[.float .f64 y, .int .u8 102, .int .i64 (P : Int), .int .i64 64] w fun e w' => e = .returned (.string (baOf (fInt (dD y) (dP y) ++ 46 :: fFrac (dD y) (dP y) P))) ∧ Fr noB w w' := by
  obtain ⟨i0, hi, hz0, hz1, hz2⟩ := info_parts infoU8
  obtain ⟨d1, d2, d3⟩ := d_facts y hy
  have hs1 : ∀ z ∈ fInt (dD y) (dP y) ++ 46 :: fFrac (dD y) (dP y) P, z < 256 := by
    intro z hz
    rcases List.mem_append.1 hz with h | h
    · have := fInt_mem _ _ d3 z h; omega
    · rcases List.mem_cons.1 h with h | h
      · omega
      · have := fFrac_mem _ _ _ d3 z h; omega
  have hs2 : fInt (dD y) (dP y) ++ 46 :: fFrac (dD y) (dP y) P ≠ [] := by simp
  obtain ⟨pc, hpc⟩ : ∃ pc, P + 4 = pc := ⟨_, rfl⟩
  have HFT : Hid (∀ W : World, Fr noB w W → W.ownsRow w.heap.size 5 1 (.slice (some ⟨w.heap.size, 0, none⟩) 0 pc) 0 [] → Calls Tryz.prog 108 #[.slice (some ⟨w.heap.size, 0, none⟩) 0 pc, .float .f64 y, .int .u8 102, .int .i64 (P : Int)] W fun e w' => ∃ v', e = .returned v' ∧ Own W w.heap.size (.slice (some ⟨w.heap.size, 0, none⟩) 0 pc) (fInt (dD y) (dP y) ++ 46 :: fFrac (dD y) (dP y) P) w' v') := by
    intro W hF ho
    by_cases h0 : y = 0
    · subst h0
      have h := ftoaf_nought w.heap.size P _ _ W (by omega) hP2 ho hF.size
      simpa [dD, dP] using h
    · have h := ftoaf_any y w.heap.size P M _ _ W (by omega) hy hP1 hP2 ho hF.size (hO.fr hF) (hT.low hF (fun _ _ h => h.elim))
      unfold dD dP
      rw [if_neg h0, if_neg h0]
      exact h
  generalize fInt (dD y) (dP y) ++ 46 :: fFrac (dD y) (dP y) P = T at *
  have HS : Hid _ := And.intro hs1 hs2
  have e1 : (P : Int) + 4 = (pc : Int) := by omega
  have e2 : max (pc : Int) 24 = (pc : Int) := by omega
  have hpb : pc ≤ 1200 := by omega
  clear hs1 hs2 hO hT d1 d2 d3 hpc
  go_enter Tryz.func67, Tryz.ntmps67
  go_wp2_with (at_make; refine wpList_make_own _ rfl _ _ 71 rfl w.heap.size 5 i0 (.int .u8 0) 1 Tryz.underlying71 hi hz0 hz1 .i64 .i64 _ pc rfl rfl (by omega) (by rw [hz2]; omega) (by unfold maxLen; omega) (Nat.le_refl _) ?_)
  intro w1 ho hg
  have hF1 : Fr noB w w1 := (Fr.refl noB w).grown hg (fun k hk => by cases hk)
  have HC := HFT.out w1 hF1 ho
  have HF1 : Hid _ := hF1
  clear hF1 ho hg
  go_wp2_with (go_at_call 108; refine HC.mono ?_; rintro e w2 ⟨v', rfl, hO⟩; have htx := hO.text HS.out.1 HS.out.2; have HO : Hid _ := hO; clear hO)
  go_ret
  exact ⟨rfl, HF1.out.then HO.out.fr (fun k hk => Or.inr (by
    have hk' : some w.heap.size = some k := hk
    cases hk'
    exact Nat.le_refl _))⟩
set_option maxRecDepth 100000 in
set_option maxHeartbeats 1000000 in
theorem formatf_any (y P M : Nat) (w : World) (hy : y < 9218868437227405312) (hP1 : 1074 ≤ P) (hP2 : P ≤ 1100) (hO : OTab w) (hT : CTab w M) :
    Calls Tryz.prog 36 #[.float .f64 y, .int .u8 102, .int .i64 (P : Int), .int .i64 64] w fun e w' => e = .returned (.string (baOf (fInt (dD y) (dP y) ++ 46 :: fFrac (dD y) (dP y) P))) ∧ Fr noB w w' := by
  have HC := iformatf_any y P M w hy hP1 hP2 hO hT
  generalize baOf (fInt (dD y) (dP y) ++ 46 :: fFrac (dD y) (dP y) P) = T at *
  go_enter Tryz.func36, Tryz.ntmps36
  go_wp2_with (go_at_call 67; with_reducible refine HC.mono ?_; rintro e w2 ⟨rfl, hO⟩)
  go_ret
  exact ⟨rfl, hO⟩
/-- The digits ahead of the point, and 1074 behind it. -/
def dW (y : Nat) : List UInt8 := (fInt (dD y) (dP y)).map UInt8.ofNat
def dF (y : Nat) : List UInt8 := (fFrac (dD y) (dP y) 1074).map UInt8.ofNat
theorem dw_len (y : Nat) (hy : y < 9218868437227405312) : 1 ≤ (dW y).length ∧ (dW y).length ≤ 400 ∧ (dF y).length = 1074 := by
  obtain ⟨d1, d2, d3⟩ := d_facts y hy
  have h := fInt_len (dD y) (dP y) d2
  unfold dW dF
  rw [List.length_map, List.length_map, fFrac_len _ _ _ d1]
  exact ⟨h.1, h.2, rfl⟩
theorem dw_mem (y : Nat) (hy : y < 9218868437227405312) : ∀ z ∈ dW y ++ dF y, 48 ≤ z.toNat ∧ z.toNat ≤ 57 := by
  obtain ⟨d1, d2, d3⟩ := d_facts y hy
  have key : ∀ n : Nat, 48 ≤ n ∧ n ≤ 57 → 48 ≤ (UInt8.ofNat n).toNat ∧ (UInt8.ofNat n).toNat ≤ 57 := by
    intro n h
    rw [UInt8.toNat_ofNat', Nat.mod_eq_of_lt (by omega)]
    exact h
  intro z hz
  rcases List.mem_append.1 hz with h | h
  · obtain ⟨n, hn, rfl⟩ := List.mem_map.1 h
    exact key n (fInt_mem _ _ d3 n hn)
  · obtain ⟨n, hn, rfl⟩ := List.mem_map.1 h
    exact key n (fFrac_mem _ _ _ d3 n hn)
theorem format1074 (y M : Nat) (w : World) (hy : y < 9218868437227405312) (hO : OTab w) (hT : CTab w M) :
    Calls Tryz.prog 36 #[.float .f64 y, .int .u8 102, .int .i64 1074, .int .i64 64] w fun e w' => e = .returned (.string (baL (dW y ++ 46 :: dF y))) ∧ Fr noB w w' := by
  have h := formatf_any y 1074 M w hy (by omega) (by omega) hO hT
  have e : baOf (fInt (dD y) (dP y) ++ 46 :: fFrac (dD y) (dP y) 1074) = baL (dW y ++ 46 :: dF y) := by
    unfold baOf baL dW dF
    simp
  rw [e] at h
  exact h
theorem format1100 (y M : Nat) (w : World) (hy : y < 9218868437227405312) (hO : OTab w) (hT : CTab w M) :
    Calls Tryz.prog 36 #[.float .f64 y, .int .u8 102, .int .i64 1100, .int .i64 64] w fun e w' => e = .returned (.string (baL (dW y ++ 46 :: (dF y ++ List.replicate 26 48)))) ∧ Fr noB w w' := by
  have h := formatf_any y 1100 M w hy (by omega) (by omega) hO hT
  have e : baOf (fInt (dD y) (dP y) ++ 46 :: fFrac (dD y) (dP y) 1100) = baL (dW y ++ 46 :: (dF y ++ List.replicate 26 48)) := by
    obtain ⟨d1, d2, d3⟩ := d_facts y hy
    rw [fFrac_more (dD y) (dP y) 1074 26 d1]
    unfold baOf baL dW dF
    simp
  rw [e] at h
  exact h
/-- What Fixed says of a float that is finite, with p places. -/
def fxT (x p : Nat) : List UInt8 := fxL (decide (9223372036854775808 < x)) (if 53 ≤ ((dF (absN x)).getD p 0).toNat then rsL (dW (absN x) ++ (dF (absN x)).take p) else dW (absN x) ++ (dF (absN x)).take p) p
theorem abs_fin (x : Nat) (hf : finB x = true) : absN x < 9218868437227405312 := (fin_iff x).1 hf
theorem pfixed_fin (x p M : Nat) (w : World) (hx : x < 18446744073709551616) (hf : finB x = true) (hp : p ≤ 30) (hX : XTab w) (hO : OTab w) (hT : CTab w M) :
    Calls Tryz.prog 14 #[.float .f64 x, .int .i64 (p : Int)] w fun e w' => e = .returned (.tuple #[.string (baL (fxT x p)), .int .i64 0]) ∧ Fr noB w w' := by
  have ha := abs_fin x hf
  obtain ⟨l1, l2, l3⟩ := dw_len (absN x) ha
  exact pfixed_of x p (dW (absN x)) (dF (absN x)) w hx hf hp l1 l2 l3 (dw_mem (absN x) ha) hX (fun W hW => format1074 (absN x) M W ha (hO.fr hW) (hT.low hW (fun _ _ h => h.elim)))
theorem rfixed_fin (x p M : Nat) (w : World) (hx : x < 18446744073709551616) (hf : finB x = true) (hp : p ≤ 30) (hO : OTab w) (hT : CTab w M) :
    Calls Tryz.prog 11 #[.float .f64 x, .int .i64 (p : Int)] w fun e w' => e = .returned (.tuple #[.string (baL (fxT x p)), .int .i64 0]) ∧ Fr noB w w' := by
  have ha := abs_fin x hf
  obtain ⟨l1, l2, l3⟩ := dw_len (absN x) ha
  exact rfixed_of x p (dW (absN x)) (dF (absN x)) (List.replicate 26 48) w hx hf hp l1 l2 l3 (by simp) (dw_mem (absN x) ha) (fun W hW => format1100 (absN x) M W ha (hO.fr hW) (hT.low hW (fun _ _ h => h.elim)))
#print axioms pfixed_fin
#print axioms rfixed_fin
end Go.Proofs.YtnklmcmdlobicaaGreatDoor
