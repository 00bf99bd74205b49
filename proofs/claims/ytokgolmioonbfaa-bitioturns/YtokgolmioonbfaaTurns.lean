/- Proved: for every v and n the law BitioTurns answers true: bitio.Reverse is the document's number, and turned twice the lowest n bits of v come back. No condition. -/
import Derived.Test.YtokgolmioonbfaaRows
import Derived.Test.YtokgolmioonbfaaLive
import Derived.ProofKit
import Derived.OpenShut
import Derived.Deep.CutRange
namespace Go.Proofs.Ytokgolmioonbfaa.bitioTurns
open Go.ChangeShapes Go.WideShapes Go.ChangeAt Go.RowKit

theorem own : ownKnob Try.prog.godebug = none := by kernel_rfl

theorem ret_bool {a b : Bool} (h : a = b) : Ending.returned (.bool a) = .returned (.bool b) := by rw [h]

theorem mask_u32 (v n : Nat) (hv : v < 4294967296) (hn : n < 32) : bits .and .u32 (v : Int) ((2 ^ n - 1) % 4294967296) = ((v % 2 ^ n : Nat) : Int) := by
  have h1 := pow_lt_32 n hn
  have h2 : 0 < 2 ^ n := Nat.pow_pos (by decide)
  have h3 : (((2 : Int) ^ n) - 1) % 4294967296 = ((2 ^ n - 1 : Nat) : Int) := by
    have h4 : ((2 : Int) ^ n) = ((2 ^ n : Nat) : Int) := by simp
    rw [h4]; omega
  rw [h3, u32_and_nat _ _ hv (by omega), Nat.and_two_pow_sub_one_eq_mod]

theorem same_u32 (v n : Nat) (hv : v < 4294967296) (hn : n < 32) : (((revN (revN v n) n : Nat) : Int) == bits .and .u32 (v : Int) ((2 ^ n - 1) % 4294967296)) = true := by
  rw [mask_u32 v n hv hn, revN_rev]; simp

set_option maxHeartbeats 800000 in
theorem walk_less (v n : Nat) (hn2 : n < 32) (hv : v < 4294967296) (w : World) :
    Calls Try.prog 6 #[.int .u32 (v : Int), .int .i64 (n : Int)] w fun e w' => e = .returned (.bool true) ∧ Below w.heap.size w w' := by
  have hr := revN_lt v n (by omega)
  go_enter Try.func6, Try.ntmps6
  go_wp2_with fail
  refine (live_any _).mono ?_
  rintro e w1 ⟨rfl, hF⟩
  go_wp2_with fail
  refine (reverse_yes v n _ (by omega) (by omega)).mono ?_
  rintro e w2 ⟨rfl, rfl⟩
  go_wp2_with fail
  refine (refrev_yes v n _ (by omega)).mono ?_
  rintro e w2 ⟨rfl, rfl⟩
  go_upto_region 8 with fail
  go_wp2_with fail
  refine (reverse_yes v n _ (by omega) (by omega)).mono ?_
  rintro e w2 ⟨rfl, rfl⟩
  go_wp2_with fail
  refine (reverse_yes (revN v n) n _ hr (by omega)).mono ?_
  rintro e w2 ⟨rfl, rfl⟩
  go_wp2_with fail
  go_ret
  exact ⟨ret_bool (same_u32 v n hv hn2), hF.below (Nat.le_refl _) (fun k hk => hk.elim)⟩

set_option maxHeartbeats 800000 in
theorem walk (a0 : Int) (a1 : Int) (h0 : 0 ≤ a0) (h1 : a0 < 4294967296) (w : World) :
    Calls Try.prog 6 #[.int .u32 a0, .int .i64 a1] w fun e w' => e = .returned (.bool true) ∧ Below w.heap.size w w' := by
  by_cases hn : a1 < 0 ∨ 32 < a1
  · go_enter Try.func6, Try.ntmps6
    go_wp2_with fail
    refine (live_any _).mono ?_
    rintro e w1 ⟨rfl, hF⟩
    go_wp2_with (first | (go_at_call 34; refine (reverse_no _ _ _ hn).mono ?_; rintro e w2 ⟨rfl, rfl⟩) | (go_at_call 35; refine (refrev_no _ _ _ hn).mono ?_; rintro e w2 ⟨rfl, rfl⟩))
    all_goals
      go_ret
      exact ⟨rfl, hF.below (Nat.le_refl _) (fun k hk => hk.elim)⟩
  · obtain ⟨v, rfl⟩ := Int.eq_ofNat_of_zero_le h0
    obtain ⟨n, rfl⟩ := Int.eq_ofNat_of_zero_le (show 0 ≤ a1 by omega)
    have hr := revN_lt v n (by omega)
    by_cases hn2 : n < 32
    · exact walk_less v n hn2 (by omega) w
    · have hn3 : n = 32 := by omega
      subst hn3
      have he : ((((revN (revN v 32) 32 : Nat) : Int)) == (v : Int)) = true := by
        rw [revN_rev]; simp; omega
      go_enter Try.func6, Try.ntmps6
      go_wp2_with fail
      refine (live_any _).mono ?_
      rintro e w1 ⟨rfl, hF⟩
      go_wp2_with fail
      refine (reverse_yes v 32 _ (by omega) (by omega)).mono ?_
      rintro e w2 ⟨rfl, rfl⟩
      go_wp2_with fail
      refine (refrev_yes v 32 _ (by omega)).mono ?_
      rintro e w2 ⟨rfl, rfl⟩
      go_wp2_with fail
      refine (reverse_yes v 32 _ (by omega) (by omega)).mono ?_
      rintro e w2 ⟨rfl, rfl⟩
      go_wp2_with fail
      refine (reverse_yes (revN v 32) 32 _ hr (by omega)).mono ?_
      rintro e w2 ⟨rfl, rfl⟩
      go_wp2_with fail
      go_ret
      exact ⟨rfl, hF.below (Nat.le_refl _) (fun k hk => hk.elim)⟩

set_option maxRecDepth 100000 in
theorem lifted (os : Os) (started : os.Started) (H : Type) (enc : TypeId × Value → H) :
    ReturnsInHanded {} Try.checked os 6 .any (Rows.bitioTurnsSpec.pre6 enc Try.prog Try.f6 Rows.bitioTurnsRow.domain false) (Rows.bitioTurnsSpec.post enc Try.prog Try.f6 false true false false) := by
  refine returnsInHanded_of_change (C := Try.checked) own started (by kernel_rfl) Try.func6
    (ChangeSpec.witness6 (enc := enc) (C := Try.checked) false ⟨#[], #[.int .u32 0, .int .i64 0], []⟩ 8 (by kernel_rfl) (by kernel_rfl) (by kernel_rfl) (by kernel_rfl)) ?_
  intro W base args ds gs before hval0 hW hcnd _
  have hval : ∀ (j : Nat) t v, Try.f6.params[j]? = some t → args[j]? = some v → Value.okWide Try.prog W .any base t v := hval0
  have hW' := hW
  obtain ⟨p, q, hA0, hV, rfl, hfz, hnd⟩ := hW
  have hA : DataW.TrodAll enc Try.prog W 0 (fun _ => true) true Try.f6.params.toList args.toList ds p := hA0
  rw [Try.params6] at hA hval
  obtain ⟨v0, vs0, d0, ds0, p0, q0, hargs, rfl, rfl, h0, r0⟩ := trodAll_cons hA
  obtain ⟨v1, vs1, d1, ds1, p1, q1, rfl, rfl, rfl, h1, r1⟩ := trodAll_cons r0
  obtain ⟨rfl, rfl, rfl⟩ := trodAll_nil r1
  obtain rfl : args = #[v0, v1] := by cases args; simp_all
  obtain ⟨rfl, rfl⟩ := trodVars_none hV
  obtain ⟨a0, rfl, rfl, rfl, w0⟩ := open_int Try.underlying29 (hval 0 29 v0 rfl rfl) h0
  obtain ⟨a1, rfl, rfl, rfl, w1⟩ := open_int Try.underlying3 (hval 1 3 v1 rfl rfl) h1
  clear hA0 hval0
  simp only [List.append_nil] at hW'
  have hb := bounds_u32 w0
  refine (walk a0 a1 (by omega) (by omega) W).mono fun e W' ⟨he, bel⟩ => ?_
  subst he
  exact ⟨_, rfl, _, _, _, [], _, [], hW', trodAll_mk1 (shut_bool Try.underlying4 _), (trodAll_cons_mk (shut_int Try.underlying29 w0) (trodAll_cons_mk (shut_int Try.underlying3 w1) trodAll_mk0)), rfl, bel.frame _, fun h => by cases h⟩

theorem over : Rows.bitioTurnsRow.holds Try.pinned (OpenSpec.ofChange Rows.bitioTurnsSpec) :=
  OpenClaim.holds_of_wide 6 Try.f6 rfl rfl rfl rfl rfl rfl rfl ⟨rfl, rfl, rfl, rfl, rfl⟩ rfl rfl rfl rfl rfl (by kernel_rfl) Try.func6 (by kernel_rfl)
    (of_decide_eq_true (by kernel_rfl)) (by unfold Func.isWrapper; first | (rw [if_pos (by decide +kernel)]; kernel_rfl) | (rw [if_neg (by decide +kernel)]; exact ⟨rfl, rfl⟩))
    (fun os started H enc _ => lifted os started H enc)

end Go.Proofs.Ytokgolmioonbfaa.bitioTurns
namespace Go.Proofs.Ytokgolmioonbfaa
theorem turns_holds : Rows.BitioTurnsSaid := bitioTurns.over
#print axioms turns_holds
end Go.Proofs.Ytokgolmioonbfaa
