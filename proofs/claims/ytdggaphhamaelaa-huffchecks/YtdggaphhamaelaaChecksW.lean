/- The walk of the law HuffChecks. -/
import Derived.Test.YtdggaphhamaelaaSame
import Derived.Test.YtdggaphhamaelaaTot
namespace Go.Proofs.Ytdggaphhamaelaa
open Go.RowKit

set_option maxHeartbeats 800000 in
theorem checks_walk (v c : Value) (L C : List Int) (w : World) (hv : Ns .i64 w v L) (hc : Ns .i64 w c C) :
    Calls Try.prog 4 #[v, c] w fun e w' => e = .returned (.bool true) ∧ Below w.heap.size w w' := by
  have HT := total_any c v C L w hc hv
  have HR := reftotal_any c v C L w hc hv
  have HC := fun w1 (hF : Fr noB w w1) => check_any v L w1 (hv.keep hF)
  have HK := fun w1 (hF : Fr noB w w1) => refcheck_any v L w1 (hv.keep hF)
  generalize totA C L = t at *
  obtain ⟨t1, t2⟩ := t
  generalize chk L = q at *
  obtain ⟨ao, acap, rfl, a1, a2, a4, a3⟩ := hv
  obtain ⟨bo, bcap, rfl, b1, b2, b4, b3⟩ := hc
  clear a3 b3
  go_enter Try.func4, Try.ntmps4
  go_wp2_with fail
  refine HT.mono ?_
  rintro e w1 ⟨rfl, rfl⟩
  go_wp2_with fail
  refine HR.mono ?_
  rintro e w2 ⟨rfl, hF2⟩
  go_wp2_with fail
  refine (begun_any _).mono ?_
  rintro e w3 ⟨rfl, hF3⟩
  go_wp2_with fail
  refine (HC _ (hF2.trans hF3)).mono ?_
  rintro e w4 ⟨rfl, hF4⟩
  go_wp2_with fail
  refine (HK _ ((hF2.trans hF3).trans hF4)).mono ?_
  rintro e w5 ⟨rfl, rfl⟩
  go_wp2
  go_ret
  exact ⟨rfl, ((hF2.trans hF3).trans hF4).below (Nat.le_refl _) (fun k hk => hk.elim)⟩
end Go.Proofs.Ytdggaphhamaelaa
