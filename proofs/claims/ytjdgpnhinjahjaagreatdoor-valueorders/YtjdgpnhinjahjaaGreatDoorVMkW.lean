/- ValueMakes: the law's walk. -/
import Derived.Test.YtjdgpnhinjahjaaGreatDoorVRec
namespace Go.Proofs.YtjdgpnhinjahjaaGreatDoor
open Go.RowKit Ieee Go.Shelf
attribute [local go_sem] run_store_float

theorem psame_self (k : Int) (n : Nat) (s : ByteArray) (y : Bool) (c : Int) (w : World) : Calls Tryz.prog 9 #[(.agg #[.int .i64 k, .float .f64 n, .string s, .bool y, .int .i64 c]), (.agg #[.int .i64 k, .float .f64 n, .string s, .bool y, .int .i64 c])] w fun e w' => e = .returned (.bool true) ∧ Fr noB w w' := by
  have h := psame_any k n s y c k n s y c w
  rw [smB_self] at h
  exact h
theorem rsame_self (k : Int) (n : Nat) (s : ByteArray) (y : Bool) (c : Int) (w : World) : Calls Tryz.prog 12 #[(.agg #[.int .i64 k, .float .f64 n, .string s, .bool y, .int .i64 c]), (.agg #[.int .i64 k, .float .f64 n, .string s, .bool y, .int .i64 c])] w fun e w' => e = .returned (.bool true) ∧ Fr noB w w' := by
  have h := rsame_any k n s y c k n s y c w
  rw [smB_self] at h
  exact h
set_option maxRecDepth 100000 in
set_option maxHeartbeats 2000000 in
theorem makes_walk (x : Nat) (hx : x < 18446744073709551616) (s : ByteArray) (y : Bool) (c : Int) (w : World) (hT : VTabs w) :
    Calls Tryz.prog 3 #[.int .u64 (x : Int), .string s, .bool y, .int .i64 c] w fun e w' => e = .returned (.bool true) ∧ Below w.heap.size w w' := by
  have r1 : ∀ W, _ := run_from x
  have HB := begun_true w hT
  have hRk := preckon_any x hx
  have hRr := rreckon_any x
  generalize rkK x = K at *
  generalize rkN x = M at *
  generalize rkE x = E at *
  clear hT hx
  go_enter Tryz.func3, Tryz.ntmps3
  go_wp2_with (first
    | (go_at_call 8; refine HB.mono ?_; rintro e w1 ⟨rfl, hF1⟩)
    | (go_at_call 10; refine (pnum_any _ _).mono ?_; rintro e _ ⟨rfl, hF⟩)
    | (go_at_call 11; refine (rnum_any _ _).mono ?_; rintro e _ ⟨rfl, hF⟩)
    | (go_at_call 13; refine (ptext_any _ _).mono ?_; rintro e _ ⟨rfl, hF⟩)
    | (go_at_call 14; refine (rtext_any _ _).mono ?_; rintro e _ ⟨rfl, hF⟩)
    | (go_at_call 15; refine (pbool_any _ _).mono ?_; rintro e _ ⟨rfl, hF⟩)
    | (go_at_call 16; refine (rbool_any _ _).mono ?_; rintro e _ ⟨rfl, hF⟩)
    | (go_at_call 17; refine (perr_any _ _).mono ?_; rintro e _ ⟨rfl, hF⟩)
    | (go_at_call 18; refine (rerr_any _ _).mono ?_; rintro e _ ⟨rfl, hF⟩)
    | (go_at_call 19; refine (hRk _).mono ?_; rintro e _ ⟨rfl, hF⟩)
    | (go_at_call 20; refine (hRr _).mono ?_; rintro e _ ⟨rfl, hF⟩)
    | (go_at_call 9; refine (psame_self _ _ _ _ _ _).mono ?_; rintro e _ ⟨rfl, hF⟩)
    | (go_at_call 12; refine (rsame_self _ _ _ _ _ _).mono ?_; rintro e _ ⟨rfl, hF⟩))
  go_ret
  refine ⟨rfl, Fr.below (S := noB) ?_ (Nat.le_refl _) (fun _ h => h.elim)⟩
  repeat first | assumption | refine Fr.trans ?_ (by assumption)
#print axioms makes_walk
end Go.Proofs.YtjdgpnhinjahjaaGreatDoor
