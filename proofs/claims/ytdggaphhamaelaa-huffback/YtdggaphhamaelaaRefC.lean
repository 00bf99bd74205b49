/- The contracts of the document's Codes (gridironref02), of sameCodes and begun. -/
import Derived.Test.YtdggaphhamaelaaCodes
import Derived.Deep.LoopGhost
import Derived.Deep.QuietTactic
import Derived.BigQuiet
namespace Go.Proofs.Ytdggaphhamaelaa
open Go.RowKit

set_option maxHeartbeats 400000 in
theorem refcodes_bad (v : Value) (L : List Int) (w : World) (hv : Ns .i64 w v L) (hc : chk L ≠ 0) :
    Calls Try.prog 18 #[v] w fun e w' => e = .returned (.tuple #[.slice none 0 0, .int .i64 (chk L)]) ∧ w' = w := by
  have HC := refcheck_any v L w hv
  generalize chk L = c at *
  have hb : (c == 0) = false := by simpa using hc
  obtain ⟨ao, cap, rfl, h1, h2, h4, h3⟩ := hv
  go_enter Try.func18, Try.ntmps18
  go_wp2_with (go_at_call 12; refine HC.mono ?_; rintro e w1 ⟨rfl, rfl⟩)
  go_ret2
  exact ⟨rfl, rfl⟩

/-- The number that comes next at symbol k among those of length l + 1. -/
def nxR (M : List Nat) (l k : Nat) : Nat := firstN (cntN M) (l + 1) + cntN (M.take k) (l + 1)
theorem nxR_zero (M : List Nat) (l : Nat) : nxR M l 0 = 2 * (firstN (cntN M) l + cntN M l) := by simp [nxR, cntN_nil, firstN]
theorem nxR_all (M : List Nat) (l : Nat) : nxR M l M.length = firstN (cntN M) (l + 1) + cntN M (l + 1) := by simp [nxR]
theorem nxR_hit (M : List Nat) (l k : Nat) (h : k < M.length) (e : M[k] = l + 1) : nxR M l (k + 1) = nxR M l k + 1 ∧ nxR M l k = codeN M k := by
  constructor
  · unfold nxR
    rw [take_snoc M k h, e, cntN_snoc _ _ (by omega)]
    simp [upd]; omega
  · unfold nxR codeN
    rw [getD_get M k h, e, if_neg (by omega)]
theorem nxR_miss (M : List Nat) (l k : Nat) (h : k < M.length) (e : ¬ M[k] = l + 1) : nxR M l (k + 1) = nxR M l k := by
  unfold nxR
  rw [take_snoc M k h]
  by_cases h0 : M[k] = 0
  · rw [h0, cntN_snoc0]
  · rw [cntN_snoc _ _ (by omega)]
    simp [upd, show ¬ l + 1 = M[k] by omega]
theorem nxR_le {M : List Nat} (hM : Code M) (l k : Nat) (hl : l < 15) : nxR M l k ≤ 32768 := nextN_le hM k (l + 1) (by omega)
/-- The symbols that have their codes at symbol k among those of length l + 1. -/
def donR (M : List Nat) (l k : Nat) : Nat → Bool := fun i => decide (M.getD i 0 ≤ l ∨ (M.getD i 0 = l + 1 ∧ i < k))

set_option maxHeartbeats 1600000 in
theorem refcodes_good (v : Value) (M : List Nat) (w : World) (hv : Ns .i64 w v (up M)) (hM : Code M) :
    Calls Try.prog 18 #[v] w fun e w' => ∃ g, e = .returned (.tuple #[.slice (some ⟨g, 0, none⟩) M.length M.length, .int .i64 0]) ∧ w.heap.size ≤ g ∧ RowN w' g 45 .u32 (codesN M) ∧ Fr noB w w' := by
  obtain ⟨i0, hi, hz0, hz1, hz2⟩ := info_parts Try.infoU
  have HC := refcheck_any v (up M) w hv
  rw [hM.ok] at HC
  have hl := hM.short
  obtain ⟨ao, cap, rfl, h1, h2, h4, h3⟩ := hv
  rw [length_up] at *
  have hat : NsAt .i64 w ao (up M) := h3
  clear h3
  unfold maxLen at h2
  go_enter Try.func18, Try.ntmps18
  go_wp2_with (first | (go_at_call 12; refine HC.mono ?_; rintro e w1 ⟨rfl, rfl⟩) | (at_make; refine wpList_make_full _ rfl (.tmp 15) (.tmp 15) 34 rfl _ 45 i0 (.int .u32 0) 1 Try.underlying34 hi hz0 hz1 .i64 .i64 _ _ M.length rfl rfl rfl rfl (by rw [hz2]; omega) (by unfold maxLen; omega) (Nat.le_refl _) ?_))
  intro w4 hown hgrow
  have hrow := made_nums hown
  have hF4 : Fr noB w1 w4 := (Fr.refl _ _).grown hgrow (by simp)
  obtain ⟨p, hp⟩ : ∃ p, p = w1.heap.size := ⟨_, rfl⟩
  have hsz : w1.heap.size ≤ p := by omega
  rw [← hp] at hrow ⊢
  have hnone : partN M (donR M 0 0) = List.replicate M.length 0 := partN_none M _ (fun i hi => by
    unfold donR codeN
    by_cases e : M.getD i 0 = 0
    · left; rw [if_pos e]
    · right; simp at e ⊢; omega)
  rw [← hnone] at hrow
  clear hown hgrow HC hp hnone
  go_wp2_with fail
  go_loopg [6, 7] 15 (fun g nx lv wr => ∃ l : Nat, l ≤ 15 ∧ g = 15 - l ∧ nx = .int .u32 ((firstN (cntN M) l + cntN M l : Nat) : Int) ∧ lv = .int .i64 ((l : Int) + 1) ∧ RowN wr p 45 .u32 (partN M (donR M l 0)) ∧ Fr noB w1 wr)
  case atStart => exact ⟨0, Nat.zero_le _, rfl, rfl, rfl, hrow, hF4⟩
  case round =>
    clear hrow hF4
    obtain ⟨l, hl15, rfl, rfl, rfl, hrow, hF⟩ := hrel
    have hfl := hM.fits
    by_cases hlt : l < 15
    · have h5 := hfl l (by omega)
      have h6 := pow_le_15 l (by omega)
      have HZ : Hid (nxR M l 0 = 2 * (firstN (cntN M) l + cntN M l)) := nxR_zero M l
      generalize firstN (cntN M) l + cntN M l = q at *
      clear hfl
      have hl1 : (l : Int) + 1 ≤ 15 := by omega
      go_wp2_with fail
      go_loopg [6, 8] M.length (fun g nx iv wi => ∃ k : Nat, k ≤ M.length ∧ g = M.length - k ∧ nx = .int .u32 ((nxR M l k : Nat) : Int) ∧ iv = .int .i64 (k : Int) ∧ RowN wi p 45 .u32 (partN M (donR M l k)) ∧ Fr noB w1 wi)
      case atStart =>
        refine ⟨0, Nat.zero_le _, rfl, ?_, rfl, hrow, hF⟩
        rw [HZ.out]
        exact congrArg (Value.int .u32) (by omega)
      case round =>
        clear hrow hF HZ
        obtain ⟨k, hk, rfl, rfl, rfl, hrow, hF⟩ := hrel
        by_cases hkM : k < M.length
        · obtain ⟨b, off, rfl, hb, hcell⟩ := (hat.keep hF).get k (by simpa using hkM)
          rw [up_get _ _ hkM] at hcell
          have hn := nxR_le hM l k hlt
          have cr := hrow.cell k (by simpa using hkM)
          have fr := freeOf k hrow
          have hget : M.getD k 0 = M[k] := getD_get M k hkM
          have HG : Hid (M.getD k 0 = M[k]) := hget
          clear hget
          by_cases hx : M[k] = l + 1
          · have E : Hid _ := nxR_hit M l k hkM hx
            have X : Hid (M[k] = l + 1) := hx
            have hx' : (((M[k] : Nat) : Int) == (l : Int) + 1) = true := by rw [beq_iff_eq]; omega
            clear hx
            generalize M[k] = x at *
            go_wp2
            go_roundg (M.length - (k + 1))
            case measure => omega
            case rel =>
              have h1 := hrow.set k (nxR M l k)
              obtain ⟨e1, e2⟩ := E.out
              rw [e2, partN_set M (donR M l k) (donR M l (k + 1)) k (by unfold donR; rw [HG.out, X.out]; simp) (fun i hi _ => by unfold donR; apply decide_eq_decide.2; omega)] at h1
              refine ⟨k + 1, by omega, rfl, by rw [e1]; go_num, by go_num, ?_, ?_⟩
              · rw [e2]; exact h1
              · exact hF.setCell ⟨p, k, none⟩ (Or.inr hsz) _
          · have E : Hid _ := nxR_miss M l k hkM hx
            have X : Hid (¬ M[k] = l + 1) := hx
            have hx' : (((M[k] : Nat) : Int) == (l : Int) + 1) = false := by rw [beq_eq_false_iff_ne]; omega
            clear hx
            generalize M[k] = x at *
            go_wp2
            go_roundg (M.length - (k + 1))
            case measure => omega
            case rel =>
              refine ⟨k + 1, by omega, rfl, by rw [E.out], by go_num, ?_, hF⟩
              rw [← partN_same M (donR M l k) (donR M l (k + 1)) (fun i hi => Or.inr ?_)]
              · exact hrow
              · unfold donR
                apply decide_eq_decide.2
                by_cases e : i = k
                · subst e; rw [HG.out]; have := X.out; omega
                · omega
        · have hkM' : k = M.length := by omega
          subst hkM'
          have HN : Hid (nxR M l M.length = firstN (cntN M) (l + 1) + cntN M (l + 1)) := nxR_all M l
          go_wp2_with fail
          go_roundg (15 - (l + 1))
          case measure => omega
          case rel =>
            refine ⟨l + 1, by omega, rfl, by rw [HN.out], by go_num, ?_, hF⟩
            rw [← partN_same M (donR M l M.length) (donR M (l + 1) 0) (fun i hi => Or.inr ?_)]
            · exact hrow
            · unfold donR
              apply decide_eq_decide.2
              omega
    · have hl' : l = 15 := by omega
      subst hl'
      go_wp2_with fail
      go_ret2
      refine ⟨p, rfl, hsz, ?_, hF⟩
      rw [partN_all M _ (fun i hi => Or.inr ?_)] at hrow
      · exact hrow
      · unfold donR
        have := hM.le M[i] (List.getElem_mem hi)
        rw [getD_get M i hi]
        simp; omega
#print axioms refcodes_good
end Go.Proofs.Ytdggaphhamaelaa
