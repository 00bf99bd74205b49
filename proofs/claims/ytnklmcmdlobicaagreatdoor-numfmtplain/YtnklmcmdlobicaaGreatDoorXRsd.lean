/- The digits of the whole number that is one more: the program's raised. -/
import Derived.Test.YtnklmcmdlobicaaGreatDoorXPad
namespace Go.Proofs.YtnklmcmdlobicaaGreatDoor
open Go.RowKit Ieee Go.Shelf

/-- One more. -/
def rsL (L : List UInt8) : List UInt8 :=
  let K := Lib.trimRightB L 57
  match K.getLast? with
  | none => 49 :: List.replicate (L.length - K.length) 48
  | some c => K.dropLast ++ (c + 1) :: List.replicate (L.length - K.length) 48
theorem conv_dig (c : Nat) (h1 : 48 ≤ c) (h2 : c ≤ 57) (w : World) : (convert 5 9 (.int .u8 (c : Int))).run Tryz.prog w = .ok (.string (baL [UInt8.ofNat c])) w := by
  have e : c = 48 ∨ c = 49 ∨ c = 50 ∨ c = 51 ∨ c = 52 ∨ c = 53 ∨ c = 54 ∨ c = 55 ∨ c = 56 ∨ c = 57 := by omega
  rcases e with rfl | rfl | rfl | rfl | rfl | rfl | rfl | rfl | rfl | rfl <;> (show _ = _; kernel_rfl)
theorem trim_suffix (L : List UInt8) : ∃ T, L = Lib.trimRightB L 57 ++ T := by
  unfold Lib.trimRightB
  obtain ⟨t, ht⟩ := List.dropWhile_suffix (p := fun x : UInt8 => x == 57) (l := L.reverse)
  refine ⟨t.reverse, ?_⟩
  have := congrArg List.reverse ht
  simp only [List.reverse_append, List.reverse_reverse] at this
  exact this.symm
theorem trim_last (L : List UInt8) (c : UInt8) (h : (Lib.trimRightB L 57).getLast? = some c) : c ≠ 57 := by
  unfold Lib.trimRightB at h
  rw [List.getLast?_reverse] at h
  rintro rfl
  have := List.head?_dropWhile_not (p := fun x : UInt8 => x == 57) (l := L.reverse)
  rw [h] at this
  simp at this
theorem bl_at (L : List UInt8) (s : ByteArray) (hs : s = ⟨L.toArray⟩) (i : Nat) (h : i < s.size) (h2 : i < L.length) : (s[i]'h) = L[i] := by
  subst hs
  show (L.toArray)[i]'_ = _
  simp
set_option maxRecDepth 100000 in
set_option maxHeartbeats 1000000 in
theorem raised_any (L : List UInt8) (hd : ∀ z ∈ L, 48 ≤ z.toNat ∧ z.toNat ≤ 57) (hl : L.length ≤ 900) (w : World) : Calls Tryz.prog 40 #[.string (baL L)] w fun e w' => e = .returned (.string (baL (rsL L))) ∧ Fr noB w w' := by
  have HT := trimS_any (baL L) 57 (by decide)
  rw [baL_list] at HT
  have hzL : (baL L).size = L.length := baL_size L
  obtain ⟨T, hT⟩ := trim_suffix L
  have hlast := trim_last L
  unfold rsL
  have HT2 : Hid (∀ W, Calls Tryz.prog 50 #[.string (baL L), .string ⟨#[57]⟩] W fun e w' => e = .returned (.string (baL (Lib.trimRightB L 57))) ∧ w' = W) := fun W => HT W (by rw [hzL]; omega)
  clear HT
  have hlen : L.length = (Lib.trimRightB L 57).length + T.length := by
    have := congrArg List.length hT
    rw [List.length_append] at this
    exact this
  have hmem : ∀ z ∈ Lib.trimRightB L 57, 48 ≤ z.toNat ∧ z.toNat ≤ 57 := fun z hz => hd z (by rw [hT]; exact List.mem_append_left _ hz)
  generalize Lib.trimRightB L 57 = K at *
  have hsub : L.length - K.length = T.length := by omega
  dsimp only
  rw [hsub]
  have HR := repeat_any T.length (by omega)
  cases hk : K.getLast? with
  | none =>
    have hK : K = [] := List.getLast?_eq_none_iff.1 hk
    subst hK
    have a1 : (⟨#[49]⟩ : ByteArray) ++ baL (List.replicate T.length 48) = baL (49 :: List.replicate T.length 48) := baL_append [49] _
    have z1 : (baL (List.replicate T.length (48 : UInt8))).size ≤ 900 := by rw [baL_size]; simp; omega
    have e0 : (L.length : Int) - 0 = (T.length : Int) := by simp at hlen; omega
    have hb : baL [] = ⟨#[]⟩ := rfl
    rw [hb] at HT2
    have htl : T.length ≤ 900 := by omega
    simp only [List.length_nil, Nat.zero_add] at hlen
    rw [hlen] at hzL
    generalize baL (49 :: List.replicate T.length 48) = R1 at *
    generalize baL (List.replicate T.length 48) = R0 at *
    generalize baL L = D at *
    clear hd hl hT hlast hmem hk hsub hb e0 hlen
    generalize T.length = t at *
    go_enter Tryz.func40, Tryz.ntmps40
    go_wp2_with (first
      | (go_at_call 50; with_reducible refine (HT2.out _).mono ?_; rintro e w1 ⟨rfl, h1⟩; subst h1)
      | (go_at_call 46; with_reducible refine (HR _).mono ?_; rintro e w2 ⟨rfl, hF2⟩))
    go_ret
    exact ⟨rfl, hF2⟩
  | some c =>
    have hc57 := hlast c hk
    have hcm := hmem c (List.mem_of_getLast? hk)
    obtain ⟨J, hKe⟩ := List.getLast?_eq_some_iff.1 hk
    subst hKe
    dsimp only
    rw [List.dropLast_concat]
    clear hk
    have hc56 : c.toNat ≤ 56 := by
      have : c.toNat ≠ 57 := fun h => hc57 (UInt8.toNat_inj.1 h)
      omega
    have hzK : (baL (J ++ [c])).size = J.length + 1 := by rw [baL_size]; simp
    have x1 : (baL (J ++ [c])).extract 0 J.length = baL J := by rw [baL_cut]; simp
    have hcv := conv_dig (c.toNat + 1) (by omega) (by omega)
    have hc1 : UInt8.ofNat (c.toNat + 1) = c + 1 := by
      apply UInt8.toNat_inj.1
      simp
    rw [hc1, show ((c.toNat + 1 : Nat) : Int) = (c.toNat : Int) + 1 by omega] at hcv
    have hat : ∀ h, ((baL (J ++ [c]))[J.length]'h).toNat = c.toNat := by
      intro h
      have := bl_at (J ++ [c]) (baL (J ++ [c])) rfl J.length h (by simp)
      rw [this]
      simp
    have a1 : baL J ++ baL [c + 1] = baL (J ++ [c + 1]) := baL_append _ _
    have a2 : baL (J ++ [c + 1]) ++ baL (List.replicate T.length 48) = baL (J ++ (c + 1) :: List.replicate T.length 48) := by rw [baL_append]; simp
    have hlen2 : L.length = J.length + 1 + T.length := by rw [hlen]; simp
    have z0 : (baL J).size ≤ 900 := by rw [baL_size]; omega
    have z1 : (baL (List.replicate T.length (48 : UInt8))).size ≤ 900 := by rw [baL_size]; simp; omega
    have z2 : (baL (J ++ [c + 1])).size ≤ 901 := by rw [baL_size]; simp; omega
    have z3 : (baL [c + 1]).size = 1 := rfl
    rw [hlen2] at hzL
    have hne : (baL (J ++ [c])).toList.isEmpty = false := by rw [baL_empty]; cases J <;> rfl
    generalize baL (J ++ (c + 1) :: List.replicate T.length 48) = R2 at *
    generalize baL (J ++ [c + 1]) = R1 at *
    generalize baL (List.replicate T.length 48) = R0 at *
    generalize baL (J ++ [c]) = KB at *
    generalize baL [c + 1] = CB at *
    generalize baL J = JB at *
    generalize baL L = D at *
    have b1 : J.length ≤ 900 := by omega
    have b2 : T.length ≤ 900 := by omega
    clear hd hT hlast hmem hsub hlen hc57 hc1 hl hlen2
    generalize T.length = t at *
    generalize J.length = jl at *
    generalize c.toNat = cn at *
    have bj : (jl : Int) ≤ (jl : Int) + 1 := by omega
    have hsum : ((jl : Int) + 1 + (t : Int)) - ((jl : Int) + 1) = (t : Int) := by omega
    go_enter Tryz.func40, Tryz.ntmps40
    go_wp2_with (first
      | (go_at_call 50; with_reducible refine (HT2.out _).mono ?_; rintro e w1 ⟨rfl, h1⟩; subst h1)
      | (go_at_call 46; with_reducible refine (HR _).mono ?_; rintro e w2 ⟨rfl, hF2⟩))
    go_region
    all_goals
      go_wp2_with fail
      go_ret
      exact ⟨rfl, by first | exact hF2 | exact hF2.drew⟩
#print axioms raised_any
end Go.Proofs.YtnklmcmdlobicaaGreatDoor
