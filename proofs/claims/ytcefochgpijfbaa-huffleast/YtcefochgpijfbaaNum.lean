/- The contracts of huff.allNumbers. -/
import Derived.Test.YtcefochgpijfbaaRef
import Derived.Deep.LoopGhost
import Derived.Deep.QuietTactic
import Derived.BigQuiet
namespace Go.Proofs.Ytcefochgpijfbaa
open Go.RowKit

/-- Is a number from 0 to 2^31? -/
def numB (x : Int) : Bool := decide (0 ≤ x ∧ x ≤ 2147483648)
/-- Are all? -/
def numsB (L : List Int) : Bool := L.all numB
theorem numsB_no (L : List Int) (k : Nat) (h : k < L.length) (hb : L[k] < 0 ∨ 2147483648 < L[k]) : numsB L = false := by
  unfold numsB
  rw [List.all_eq_false]
  exact ⟨_, List.getElem_mem h, by unfold numB; simp; omega⟩
theorem numsB_yes (L : List Int) (h : ∀ i (hi : i < L.length), 0 ≤ L[i] ∧ L[i] ≤ 2147483648) : numsB L = true := by
  unfold numsB
  rw [List.all_eq_true]
  intro x hx
  obtain ⟨i, hi, rfl⟩ := List.getElem_of_mem hx
  have := h i hi
  unfold numB; simp; omega
theorem numsB_get {L : List Int} (h : numsB L = true) (i : Nat) (hi : i < L.length) : 0 ≤ L[i] ∧ L[i] ≤ 2147483648 := by
  unfold numsB at h
  rw [List.all_eq_true] at h
  have := h _ (List.getElem_mem hi)
  unfold numB at this
  simpa using this

set_option maxHeartbeats 800000 in
theorem allNumbers_any (v : Value) (L : List Int) (w : World) (hv : Ns .i64 w v L) :
    Calls Try.prog 9 #[v] w fun e w' => e = .returned (.bool (numsB L)) ∧ w' = w := by
  obtain ⟨ao, cap, rfl, h1, h2, h4, h3⟩ := hv
  have hat : NsAt .i64 w ao L := h3
  clear h3
  unfold maxLen at h2
  go_enter Try.func9, Try.ntmps9
  go_wp2_with fail
  go_loop [7] (fun i => ∃ k : Nat, k ≤ L.length ∧ i = .int .i64 (k : Int) ∧ ∀ i (hi : i < L.length), i < k → 0 ≤ L[i] ∧ L[i] ≤ 2147483648) (fun i => L.length - (intOf i).toNat)
  case atStart => exact ⟨0, Nat.zero_le _, rfl, fun _ _ h => absurd h (by omega)⟩
  case round =>
    obtain ⟨k, hk, rfl, hall⟩ := hrel
    by_cases hlt : k < L.length
    · obtain ⟨b, off, rfl, hb, hcell⟩ := hat.get k hlt
      by_cases hbad : L[k] < 0 ∨ 2147483648 < L[k]
      · have HC1 : Hid (numsB L = false) := numsB_no L k hlt hbad
        clear hall
        generalize L[k] = x at *
        rcases hbad with hbad | hbad
        · go_wp2
          go_ret
          exact ⟨ret_bool HC1.out.symm, rfl⟩
        · have hx0 : ¬ x < 0 := by omega
          go_wp2
          go_ret
          exact ⟨ret_bool HC1.out.symm, rfl⟩
      · have hall' : ∀ i (hi : i < L.length), i < k + 1 → 0 ≤ L[i] ∧ L[i] ≤ 2147483648 := by
          intro i hi hik
          by_cases e : i = k
          · subst e; omega
          · exact hall i hi (by omega)
        clear hall
        have hx0 : ¬ L[k] < 0 := by omega
        have hx1 : ¬ 2147483648 < L[k] := by omega
        clear hbad
        generalize L[k] = x at *
        go_wp2
        go_round
        case rel => exact ⟨k + 1, by omega, by go_num, hall'⟩
        case measure => simp [intOf]; omega
    · have HY : Hid (numsB L = true) := numsB_yes L (fun i hi => hall i hi (by omega))
      clear hall
      go_wp2_with fail
      go_ret
      exact ⟨ret_bool HY.out.symm, rfl⟩
end Go.Proofs.Ytcefochgpijfbaa
