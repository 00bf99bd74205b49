/- The contracts of sameCodes and begun (gridironlaw02). -/
import Derived.Test.YtcefochgpijfbaaCodes
import Derived.Deep.LoopGhost
import Derived.Deep.QuietTactic
import Derived.BigQuiet
namespace Go.Proofs.Ytcefochgpijfbaa
open Go.RowKit

set_option maxHeartbeats 800000 in
theorem sameCodes_yes (a b : Value) (L : List Int) (w : World) (ha : Ns .u32 w a L) (hb : Ns .u32 w b L) :
    Calls Try.prog 13 #[a, b] w fun e w' => e = .returned (.bool true) ∧ Fr noB w w' := by
  obtain ⟨ao, acap, rfl, a1, a2, a4, a3⟩ := ha
  obtain ⟨bo, bcap, rfl, b1, b2, b4, b3⟩ := hb
  have hat : NsAt .u32 w ao L := a3
  have hbt : NsAt .u32 w bo L := b3
  clear a3 b3
  unfold maxLen at a2
  go_enter Try.func13, Try.ntmps13
  go_wp2_with fail
  go_loopw [13] (fun i wr => ∃ k : Nat, k ≤ L.length ∧ i = .int .i64 (k : Int) ∧ ∃ m, wr = w.drewN m) (fun i _ => L.length - (intOf i).toNat)
  case atStart => exact ⟨0, Nat.zero_le _, rfl, 0, rfl⟩
  case round =>
    obtain ⟨k, hk, rfl, m, rfl⟩ := hrel
    by_cases hlt : k < L.length
    · obtain ⟨b, off, rfl, hb, hcell⟩ := hat.get k hlt
      obtain ⟨c, off2, rfl, hc, hcell2⟩ := hbt.get k hlt
      generalize L[k] = x at *
      go_wp2_with fail
      go_quiet (fail)
      go_wp2
      go_roundw
      case rel => exact ⟨k + 1, by omega, by go_num, _, rfl⟩
      case measure => simp [intOf]; omega
    · go_wp2_with fail
      go_ret
      exact ⟨rfl, (Fr.refl _ _).drewN _⟩

theorem code_11 : Code [1, 1] := ⟨by decide, by decide, by decide, by decide⟩
theorem codes_11 : codesN [1, 1] = [0, 1] := by decide
theorem chk_111 : chk (up [1, 1, 1]) = 20 := chk_over [1, 1, 1] (by decide) (by decide) (by decide)

/-- A new row of numbers reads as such. -/
theorem ns_alloc (w : World) (e : TypeId) (k : IntKind) (C : List Nat) (h : C.length ≤ maxLen) : Ns k (w.alloc (.cells (nVals k C).toArray e (0, 0))) (.slice (some ⟨w.heap.size, 0, none⟩) C.length C.length) (up C) :=
  RowN.ns (heap_alloc_new _ _) h

set_option maxHeartbeats 800000 in
theorem begun_any (w : World) :
    Calls Try.prog 6 #[] w fun e w' => e = .returned (.bool true) ∧ Fr noB w w' := by
  go_enter Try.func6, Try.ntmps6
  go_wp2_with fail
  refine (codes_good _ [1, 1] _ (ns_alloc w 3 .i64 [1, 1] (by decide)) code_11).mono ?_
  rintro e w1 ⟨g, rfl, hg, hrow, hF1⟩
  rw [codes_11] at hrow
  go_wp2_with fail
  have hns := hrow.ns (by decide)
  refine (sameCodes_yes _ _ (up [0, 1]) _ (hns.keep ((Fr.refl noB _).alloc _)) (ns_alloc w1 42 .u32 [0, 1] (by decide))).mono ?_
  rintro e w2 ⟨rfl, hF2⟩
  go_wp2_with fail
  refine (check_any _ (up [1, 1, 1]) _ (ns_alloc w2 3 .i64 [1, 1, 1] (by decide))).mono ?_
  rintro e w3 ⟨rfl, hF3⟩
  rw [chk_111]
  go_wp2
  go_ret
  exact ⟨rfl, (((((Fr.refl noB w).alloc _).trans hF1).alloc _).trans hF2).alloc _ |>.trans hF3⟩
#print axioms begun_any
end Go.Proofs.Ytcefochgpijfbaa
