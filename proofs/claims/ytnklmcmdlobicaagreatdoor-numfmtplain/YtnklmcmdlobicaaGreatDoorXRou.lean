/- Round of a decimal to more digits than it has: its contract. -/
import Derived.Test.YtnklmcmdlobicaaGreatDoorXShi
import Derived.Handy
namespace Go.Proofs.YtnklmcmdlobicaaGreatDoor
open Go.RowKit
set_option maxRecDepth 100000 in
theorem dround_any (b : Nat) (n : Int) (L : List Nat) (dp : Int) (w : World) (hD : DecIs w b L dp) (hn : (L.length : Int) ≤ n) :
    Calls Tryz.prog 182 #[.pointer (some ⟨b, 0, none⟩), .int .i64 n] w fun e w' => e = .returned (.tuple #[]) ∧ w' = w := by
  obtain ⟨C, tr, hD, h8, hC⟩ := hD
  have c8 := hD.nd
  have hn0 : ¬ n < 0 := by omega
  clear hD hC
  go_enter Tryz.func182, Tryz.ntmps182
  go_wp2
  go_returns
  exact ⟨rfl, rfl⟩
end Go.Proofs.YtnklmcmdlobicaaGreatDoor
