/- Split: the program's contract and the document's; CharsNames: the law's walk. -/
import Derived.Test.YtpefadblmgcpcaaDoorCNmR
import Derived.Test.YtpefadblmgcpcaaDoorCLiv
namespace Go.Proofs.YtpefadblmgcpcaaDoor
open Go.RowKit Go.Shelf

/-- A name's prefix, and its own name. -/
def splF (s : ByteArray) : ByteArray × ByteArray × Bool :=
  if idxF s 58 = -1 then (if nameF s then (⟨#[]⟩, s, true) else (⟨#[]⟩, ⟨#[]⟩, false))
  else if nameF (s.extract 0 (idxF s 58).toNat) && nameF (s.extract ((idxF s 58).toNat + 1) s.size) then (s.extract 0 (idxF s 58).toNat, s.extract ((idxF s 58).toNat + 1) s.size, true)
  else (⟨#[]⟩, ⟨#[]⟩, false)
theorem name_no_colon (s : ByteArray) (h : nameF s = true) (q : Nat) (hq : q < s.size) : s.get! q ≠ 58 := by
  intro e
  have e2 : (s.get! q).toNat = 58 := by rw [e]; rfl
  unfold nameF at h
  simp only [Bool.and_eq_true] at h
  have h2 := h.1.2
  unfold nameL at h2
  rw [List.all_eq_true] at h2
  have := h2 _ (ascii_run s q hq (by omega) s.size 0 (by omega) (Nat.zero_le _))
  simp only [e2] at this
  revert this
  cases (q != 0 || startF ((58 : Nat) : Int)) <;> decide
theorem ret3 {a b c d : ByteArray} {x y : Bool} (h : (a, b, x) = (c, d, y)) : Ending.returned (.tuple #[.string a, .string b, .bool x]) = .returned (.tuple #[.string c, .string d, .bool y]) := by
  injection h with h1 h2
  injection h2 with h2 h3
  rw [h1, h2, h3]
set_option maxRecDepth 100000 in
set_option maxHeartbeats 2000000 in
theorem split_any (s : ByteArray) (w : World) (hs : s.size ≤ 1048576) : Calls Tryd.prog 10 #[.string s] w fun e w' => e = .returned (.tuple #[.string (splF s).1, .string (splF s).2.1, .bool (splF s).2.2]) ∧ Fr noB w w' := by
  rcases idxF_cases s 58 with ⟨hix, _⟩ | ⟨i, hix, hil, _, _⟩
  · have HK := cut_miss s 58 w hix
    have HN := name_any s
    have HC := fun w => clone_any s w (by omega)
    have hsp : splF s = if nameF s then (⟨#[]⟩, s, true) else (⟨#[]⟩, ⟨#[]⟩, false) := by unfold splF; rw [if_pos hix]
    rw [hsp]
    clear hix hsp
    cases hn : nameF s with
    | true =>
      rw [hn] at HN
      clear hn
      go_enter Tryd.func10, Tryd.ntmps10
      go_wp2_with (first | (go_at_call 36; refine HK.mono ?_; rintro e w1 ⟨rfl, hF1⟩) | (go_at_call 13; with_reducible refine (HN _).mono ?_; rintro e w2 ⟨rfl, hF2⟩) | (go_at_call 37; with_reducible refine (HC _).mono ?_; rintro e w3 ⟨rfl, hF3⟩))
      go_ret3
      exact ⟨rfl, (hF1.trans hF2).trans hF3⟩
    | false =>
      rw [hn] at HN
      clear hn
      go_enter Tryd.func10, Tryd.ntmps10
      go_wp2_with (first | (go_at_call 36; refine HK.mono ?_; rintro e w1 ⟨rfl, hF1⟩) | (go_at_call 13; with_reducible refine (HN _).mono ?_; rintro e w2 ⟨rfl, hF2⟩))
      go_ret3
      exact ⟨rfl, hF1.trans hF2⟩
  · have HK := cut_hit s 58 i w hix hil (by omega)
    have hsp : splF s = if nameF (s.extract 0 i) && nameF (s.extract (i + 1) s.size) then (s.extract 0 i, s.extract (i + 1) s.size, true) else (⟨#[]⟩, ⟨#[]⟩, false) := by
      unfold splF
      rw [if_neg (by omega), hix]
      rfl
    rw [hsp]
    have hz1 : (s.extract 0 i).size ≤ 1048576 := by simp; omega
    have hz2 : (s.extract (i + 1) s.size).size ≤ 1048576 := by simp; omega
    clear hix hsp
    generalize s.extract 0 i = X at *
    generalize s.extract (i + 1) s.size = Y at *
    have HNX := name_any X
    have HNY := name_any Y
    have HCX := fun w => clone_any X w (by omega)
    have HCY := fun w => clone_any Y w (by omega)
    cases hx : nameF X with
    | false =>
      rw [hx] at HNX
      clear hx
      go_enter Tryd.func10, Tryd.ntmps10
      go_wp2_with (first | (go_at_call 36; refine HK.mono ?_; rintro e w1 ⟨rfl, hF1⟩) | (go_at_call 13; with_reducible refine (HNX _).mono ?_; rintro e w2 ⟨rfl, hF2⟩))
      go_ret3
      exact ⟨rfl, hF1.trans hF2⟩
    | true =>
      rw [hx] at HNX
      clear hx
      cases hy : nameF Y with
      | false =>
        rw [hy] at HNY
        clear hy
        go_enter Tryd.func10, Tryd.ntmps10
        go_wp2_with (first | (go_at_call 36; refine HK.mono ?_; rintro e w1 ⟨rfl, hF1⟩) | (go_at_call 13; (first | with_reducible refine (HNX _).mono ?_ | with_reducible refine (HNY _).mono ?_); rintro e w2 ⟨rfl, hF2⟩))
        go_ret3
        refine ⟨rfl, ?_⟩
        repeat first | assumption | refine Fr.trans ?_ (by assumption)
      | true =>
        rw [hy] at HNY
        clear hy
        go_enter Tryd.func10, Tryd.ntmps10
        go_wp2_with (first | (go_at_call 36; refine HK.mono ?_; rintro e w1 ⟨rfl, hF1⟩) | (go_at_call 13; (first | with_reducible refine (HNX _).mono ?_ | with_reducible refine (HNY _).mono ?_); rintro e w2 ⟨rfl, hF2⟩) | (go_at_call 37; (first | with_reducible refine (HCX _).mono ?_ | with_reducible refine (HCY _).mono ?_); rintro e w3 ⟨rfl, hF3⟩))
        go_ret3
        refine ⟨rfl, ?_⟩
        repeat first | assumption | refine Fr.trans ?_ (by assumption)
set_option maxRecDepth 100000 in
set_option maxHeartbeats 2000000 in
theorem rsplit_any (s : ByteArray) (w : World) (hs : s.size ≤ 1048576) (hT : Tabs w) : Calls Tryd.prog 11 #[.string s] w fun e w' => e = .returned (.tuple #[.string (splF s).1, .string (splF s).2.1, .bool (splF s).2.2]) ∧ Fr noB w w' := by
  have HN := rname_any s w hs hT
  have HT : Hid (Tabs w) := hT
  clear hT
  cases hn : nameF s with
  | true =>
    have hsp : splF s = (⟨#[]⟩, s, true) := by
      rcases idxF_cases s 58 with ⟨hix, _⟩ | ⟨i, hix, hil, h58, _⟩
      · unfold splF; rw [if_pos hix, hn]; rfl
      · exact absurd h58 (name_no_colon s hn i hil)
    rw [hsp]
    rw [hn] at HN
    clear hn hsp
    go_enter Tryd.func11, Tryd.ntmps11
    go_wp2_with (go_at_call 14; refine HN.mono ?_; rintro e w1 ⟨rfl, hF1⟩)
    go_ret3
    exact ⟨rfl, hF1⟩
  | false =>
    rw [hn] at HN
    have HSP : Hid (splF s = if idxF s 58 = -1 then (⟨#[]⟩, ⟨#[]⟩, false) else if nameF (s.extract 0 (idxF s 58).toNat) && nameF (s.extract ((idxF s 58).toNat + 1) s.size) then (s.extract 0 (idxF s 58).toNat, s.extract ((idxF s 58).toNat + 1) s.size, true)
        else (⟨#[]⟩, ⟨#[]⟩, false)) := by show splF s = _; unfold splF; rw [hn]; rfl
    clear hn
    go_enter Tryd.func11, Tryd.ntmps11
    go_wp2_with (go_at_call 14; refine HN.mono ?_; rintro e w1 ⟨rfl, hF1⟩)
    clear HN
    go_loop [5] (fun iv => ∃ k : Nat, k ≤ s.size ∧ iv = .int .i64 (k : Int) ∧ Hid (∀ q, q < k → s.get! q ≠ 58)) (fun iv => s.size - (intOf iv).toNat)
    case atStart => exact ⟨0, Nat.zero_le _, rfl, fun q h => absurd h (Nat.not_lt_zero _)⟩
    case round =>
      obtain ⟨k, hk, rfl, HA⟩ := hrel
      by_cases hlt : k < s.size
      · have hgk : s.get! k = s[k] := by simp [ByteArray.get!, getElem!_pos, hlt]; rfl
        by_cases h58 : s[k] = 58
        · have hix : idxF s 58 = (k : Int) := by
            rcases idxF_cases s 58 with ⟨_, hno⟩ | ⟨i, hix, hil, hi58, hino⟩
            · exact absurd (hgk.trans h58) (hno k hlt)
            · rcases Nat.lt_trichotomy i k with h | h | h
              · exact absurd hi58 (HA.out i h)
              · rw [hix, h]
              · exact absurd (hgk.trans h58) (hino k h)
          have hsp := HSP.out
          rw [if_neg (by omega), hix, show ((k : Nat) : Int).toNat = k from rfl] at hsp
          have hz1 : (s.extract 0 k).size ≤ 1048576 := by simp; omega
          have hz2 : (s.extract (k + 1) s.size).size ≤ 1048576 := by simp; omega
          have HNX := fun w h => rname_any (s.extract 0 k) w hz1 h
          have HNY := fun w h => rname_any (s.extract (k + 1) s.size) w hz2 h
          have hk1 : (k : Int) + 1 ≤ (s.size : Int) := by omega
          have hkz : (k : Int) ≤ (s.size : Int) := by omega
          have hk0 : (0 : Int) ≤ (k : Int) + 1 := by omega
          have h58n : (s[k].toNat : Int) = 58 := by rw [h58]; rfl
          have HKT := HT.out.keep hF1
          have HT1 : Hid (Tabs w1) := HKT
          clear hix hz1 hz2 hgk h58 HA HKT
          cases hx : nameF (s.extract 0 k) with
          | false =>
            rw [hx] at HNX hsp
            have HSP2 : Hid (splF s = (⟨#[]⟩, ⟨#[]⟩, false)) := hsp
            clear hx hsp HSP
            go_wp2_with (go_at_call 14; with_reducible refine (HNX _ HT1.out).mono ?_; rintro e w2 ⟨rfl, hF2⟩)
            go_ret3
            rw [HSP2.out]
            exact ⟨rfl, hF1.trans hF2⟩
          | true =>
            rw [hx] at HNX hsp
            cases hy : nameF (s.extract (k + 1) s.size) with
            | false =>
              rw [hy] at HNY hsp
              have HSP2 : Hid (splF s = (⟨#[]⟩, ⟨#[]⟩, false)) := hsp
              clear hx hy hsp HSP
              go_wp2_with (go_at_call 14; (first | (with_reducible refine (HNX _ HT1.out).mono ?_; rintro e w2 ⟨rfl, hF2⟩) | (with_reducible refine (HNY _ (HT1.out.keep hF2)).mono ?_; rintro e w3 ⟨rfl, hF3⟩)))
              go_ret3
              rw [HSP2.out]
              exact ⟨rfl, (hF1.trans hF2).trans hF3⟩
            | true =>
              rw [hy] at HNY hsp
              have HSP2 : Hid (splF s = (s.extract 0 k, s.extract (k + 1) s.size, true)) := hsp
              clear hx hy hsp HSP
              go_wp2_with (go_at_call 14; (first | (with_reducible refine (HNX _ HT1.out).mono ?_; rintro e w2 ⟨rfl, hF2⟩) | (with_reducible refine (HNY _ (HT1.out.keep hF2)).mono ?_; rintro e w3 ⟨rfl, hF3⟩)))
              go_region
              go_wp2
              go_ret3
              rw [HSP2.out]
              exact ⟨rfl, ((hF1.trans hF2).trans hF3).drewN 1⟩
        · have h58n : ¬ (s[k].toNat : Int) = 58 := by
            intro e
            exact h58 (UInt8.toNat_inj.1 (show s[k].toNat = 58 by omega))
          have HA2 : Hid (∀ q, q < k + 1 → s.get! q ≠ 58) := fun q hq => by
            rcases Nat.lt_or_ge q k with h | h
            · exact HA.out q h
            · have : q = k := by omega
              subst this
              rw [hgk]; exact h58
          clear hgk h58 HA
          go_wp2
          go_round
          case rel => exact ⟨k + 1, by omega, by go_num, HA2⟩
          case measure => simp [intOf]; omega
      · have HSP2 : Hid (splF s = (⟨#[]⟩, ⟨#[]⟩, false)) := by
          show splF s = _
          rw [HSP.out]
          rcases idxF_cases s 58 with ⟨hix, _⟩ | ⟨i, hix, hil, hi58, hino⟩
          · rw [if_pos hix]
          · exact absurd hi58 (HA.out i (by omega))
        clear HSP HA
        go_wp2
        go_ret3
        rw [HSP2.out]
        exact ⟨rfl, hF1⟩
#print axioms rsplit_any
end Go.Proofs.YtpefadblmgcpcaaDoor
