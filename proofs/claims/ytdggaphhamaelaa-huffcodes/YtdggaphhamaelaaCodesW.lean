/- The walk of the law HuffCodes. -/
import Derived.Test.YtdggaphhamaelaaSame
namespace Go.Proofs.Ytdggaphhamaelaa
open Go.RowKit

theorem ns_nil (k : IntKind) (w : World) : Ns k w (.slice none 0 0) [] := ⟨none, 0, rfl, Nat.le_refl _, by unfold maxLen; omega, fun _ => rfl, Or.inl rfl⟩

set_option maxHeartbeats 800000 in
theorem codes_walk (v : Value) (L : List Int) (w : World) (hv : Ns .i64 w v L) :
    Calls Try.prog 5 #[v] w fun e w' => e = .returned (.bool true) ∧ Below w.heap.size w w' := by
  by_cases hc : chk L = 0
  · obtain ⟨M, rfl, hM⟩ := code_of L hc
    have HC := codes_good v M w hv hM
    have HR := fun w1 (hF : Fr noB w w1) => refcodes_good v M w1 (hv.keep hF) hM
    have hlen : (codesN M).length = M.length := codesN_length M
    have HL : Hid ((codesN M).length = M.length) := hlen
    have hl := hM.short
    clear hlen hc
    obtain ⟨ao, acap, rfl, a1, a2, a4, a3⟩ := hv
    clear a3
    rw [length_up] at *
    go_enter Try.func5, Try.ntmps5
    go_wp2_with fail
    refine HC.mono ?_
    rintro e w1 ⟨g, rfl, hg, hrow, hF1⟩
    go_wp2_with fail
    refine (HR _ hF1).mono ?_
    rintro e w2 ⟨g2, rfl, hg2, hrow2, hF2⟩
    go_wp2_with fail
    refine (begun_any _).mono ?_
    rintro e w3 ⟨rfl, hF3⟩
    have n1 := ((hrow.keep hF2 id).keep hF3 id).ns (by rw [HL.out]; unfold maxLen; omega)
    have n2 := (hrow2.keep hF3 id).ns (by rw [HL.out]; unfold maxLen; omega)
    rw [HL.out] at n1 n2
    go_wp2_with fail
    refine (sameCodes_yes _ _ _ _ n1 n2).mono ?_
    rintro e w4 ⟨rfl, hF4⟩
    go_wp2
    go_ret
    exact ⟨rfl, (((hF1.trans hF2).trans hF3).trans hF4).below (Nat.le_refl _) (fun k hk => hk.elim)⟩
  · have HC := codes_bad v L w hv hc
    have HR := fun w1 (hF : Fr noB w w1) => refcodes_bad v L w1 (hv.keep hF) hc
    generalize chk L = q at *
    obtain ⟨ao, acap, rfl, a1, a2, a4, a3⟩ := hv
    clear a3 hc
    go_enter Try.func5, Try.ntmps5
    go_wp2_with fail
    refine HC.mono ?_
    rintro e w1 ⟨rfl, hF1⟩
    go_wp2_with fail
    refine (HR _ hF1).mono ?_
    rintro e w2 ⟨rfl, rfl⟩
    go_wp2_with fail
    refine (begun_any _).mono ?_
    rintro e w3 ⟨rfl, hF3⟩
    go_wp2_with fail
    refine (sameCodes_yes _ _ [] _ (ns_nil _ _) (ns_nil _ _)).mono ?_
    rintro e w4 ⟨rfl, hF4⟩
    go_wp2
    go_ret
    exact ⟨rfl, ((hF1.trans hF3).trans hF4).below (Nat.le_refl _) (fun k hk => hk.elim)⟩
end Go.Proofs.Ytdggaphhamaelaa
