/- The contracts of Read and Put of decoders, readers and writers that no call made. -/
import Derived.Test.YtdggaphhamaelabNoneW
import Derived.Test.YtdggaphhamaelabDec
namespace Go.Proofs.Ytdggaphhamaelab
open Go.RowKit

set_option maxHeartbeats 400000 in
theorem dno_read (p : Option Addr) (r : Value) (w : World) (h : NotMade w p) :
    Calls Try.prog 13 #[.pointer p, r] w fun e w' => e = .returned (.tuple #[.int .i64 0, .int .i64 2]) ∧ w' = w := by
  rcases h with rfl | ⟨b, rfl, hc⟩
  · go_enter Try.func13, Try.ntmps13
    go_wp2
    go_ret2
    exact ⟨rfl, rfl⟩
  · go_enter Try.func13, Try.ntmps13
    go_wp2
    go_ret2
    exact ⟨rfl, rfl⟩

set_option maxHeartbeats 400000 in
theorem rno_read (db : Nat) (p : Option Addr) (w : World) (hd : w.cell? ⟨db, 0, none⟩ = some (.bool true)) (h : NotMade w p) :
    Calls Try.prog 13 #[.pointer (some ⟨db, 0, none⟩), .pointer p] w fun e w' => e = .returned (.tuple #[.int .i64 0, .int .i64 2]) ∧ w' = w := by
  go_enter Try.func13, Try.ntmps13
  go_wp2_with (go_at_call 23; refine (rno_peek _ _ _ h).mono ?_; rintro e w' ⟨rfl, rfl⟩)
  go_ret2
  exact ⟨rfl, rfl⟩

set_option maxHeartbeats 400000 in
theorem wno_put (p : Option Addr) (l c : Value) (s : Int) (w : World) (h : NotMade w p) :
    Calls Try.prog 16 #[.pointer p, l, c, .int .i64 s] w fun e w' => e = .returned (.int .i64 2) ∧ w' = w := by
  go_enter Try.func16, Try.ntmps16
  go_wp2_with (go_at_call 26; refine (wno_bits _ _ _ _ h).mono ?_; rintro e w' ⟨rfl, rfl⟩)
  go_ret
  exact ⟨rfl, rfl⟩
end Go.Proofs.Ytdggaphhamaelab
