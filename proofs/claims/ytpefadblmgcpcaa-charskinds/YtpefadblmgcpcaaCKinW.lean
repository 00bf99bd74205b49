/- CharsKinds: the law's walk. -/
import Derived.Test.YtpefadblmgcpcaaCLiv
import Derived.Test.YtpefadblmgcpcaaCRef
namespace Go.Proofs.Ytpefadblmgcpcaa
open Go.RowKit

set_option maxRecDepth 100000 in
theorem space_any (r : Int) (w : World) : Calls Try.prog 7 #[.int .i32 r] w fun e w' => e = .returned (.bool (spaceF r)) ∧ w' = w := by
  go_enter Try.func7, Try.ntmps7
  go_wp2_with fail
  all_goals
    go_ret
    exact ⟨ret_bool (by unfold spaceF; simp_all), rfl⟩
set_option maxRecDepth 100000 in
theorem rspace_any (r : Int) (w : World) : Calls Try.prog 8 #[.int .i32 r] w fun e w' => e = .returned (.bool (spaceF r)) ∧ w' = w := by
  go_enter Try.func8, Try.ntmps8
  go_wp2_with fail
  all_goals
    go_ret
    exact ⟨ret_bool (by unfold spaceF; simp_all), rfl⟩
set_option maxRecDepth 100000 in
set_option maxHeartbeats 1000000 in
theorem kinds_walk (r : Int) (w : World) : Calls Try.prog 3 #[.int .i32 r] w fun e w' => e = .returned (.bool true) ∧ Below w.heap.size w w' := by
  have H0 := live_true
  have H1 := char_any r
  have H2 := rchar_any r
  have H3 := space_any r
  have H4 := rspace_any r
  have H5 := start_any r
  have H6 := rstart_any r
  have H7 := nmc_any r
  have H8 := rnmc_any r
  generalize charF r = c at *
  generalize spaceF r = s at *
  generalize startF r = a at *
  generalize nmcF r = n at *
  go_enter Try.func3, Try.ntmps3
  go_wp2_with (first
    | (go_at_call 4; refine (H0 _).mono ?_; rintro e w0 ⟨rfl, hF0⟩)
    | (go_at_call 5; refine (H1 _).mono ?_; rintro e w1 ⟨rfl, rfl⟩)
    | (go_at_call 6; refine (H2 _).mono ?_; rintro e w2 ⟨rfl, hF2⟩)
    | (go_at_call 7; refine (H3 _).mono ?_; rintro e w3 ⟨rfl, rfl⟩)
    | (go_at_call 8; refine (H4 _).mono ?_; rintro e w4 ⟨rfl, rfl⟩)
    | (go_at_call 9; refine (H5 _).mono ?_; rintro e w5 ⟨rfl, rfl⟩)
    | (go_at_call 10; refine (H6 _).mono ?_; rintro e w6 ⟨rfl, hF6⟩)
    | (go_at_call 11; refine (H7 _).mono ?_; rintro e w7 ⟨rfl, rfl⟩)
    | (go_at_call 12; refine (H8 _).mono ?_; rintro e w8 ⟨rfl, hF8⟩))
  go_ret
  exact ⟨rfl, (((hF0.trans hF2).trans hF6).trans hF8).below (Nat.le_refl _) (fun _ h => h.elim)⟩
end Go.Proofs.Ytpefadblmgcpcaa
