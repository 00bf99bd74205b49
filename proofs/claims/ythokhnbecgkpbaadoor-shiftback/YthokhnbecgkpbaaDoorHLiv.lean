/- The law's live answers true. -/
import Derived.Test.YthokhnbecgkpbaaDoorHRef
namespace Go.Proofs.YthokhnbecgkpbaaDoor
open Go.RowKit

theorem one_at {W : World} {b : Nat} (h : W.heap[b]? = some (.cells #[.string ⟨#[97]⟩] 9 (0, 0))) : SsAt W (some ⟨b, 0, none⟩) [⟨#[97]⟩] := Or.inr ⟨b, 0, rfl, lt_of_block h, fun k hk => by
  have e : k = 0 := by simp at hk; omega
  subst e
  exact cellOf (o := 0) h rfl⟩
set_option maxRecDepth 100000 in
theorem pref_live (ao : Option Addr) (cap : Nat) (w : World) (h : SsAt w ao [⟨#[97]⟩]) :
    Calls Tryd.prog 21 #[.slice ao 1 cap, .agg #[.int .i64 1, .string ⟨#[97]⟩, .int .i64 1, .int .i64 2, .string ⟨#[]⟩], .string ⟨#[97]⟩, (.agg #[.string ⟨#[]⟩, .string ⟨#[]⟩, .bool false, .bool true, .int .i64 0, .int .i64 0, .bool false, .bool false, .int .i64 2, .int .i64 0, .bool false, .bool false])] w fun e w' => e = .returned (.tuple #[(.agg #[.string ⟨#[]⟩, .string ⟨#[]⟩, .bool false, .bool true, .int .i64 0, .int .i64 0, .bool false, .bool false, .int .i64 4, .int .i64 0, .bool false, .bool false]), .bool true]) ∧ Fr noB w w' := by
  refine pref_of ao cap [⟨#[97]⟩] 1 ⟨#[97]⟩ 1 2 ⟨#[]⟩ ⟨#[97]⟩ ⟨#[]⟩ ⟨#[]⟩ false true 0 0 false false 2 0 false false ⟨#[]⟩ ⟨#[]⟩ false true 0 0 false false 4 0 false false true w h (by simp) (by omega) (fun W => ?_)
  have e1 : (chkS [⟨#[97]⟩] 1 ⟨#[97]⟩ 1 2 ⟨#[]⟩ == 0) = true := by kernel_rfl
  have e2 : alkF ⟨#[97]⟩ ⟨#[97]⟩ = true := by kernel_rfl
  rw [e1, e2]
  refine cref_c ao 1 cap 1 ⟨#[97]⟩ 1 2 ⟨#[]⟩ true ⟨#[]⟩ ⟨#[]⟩ false true 0 0 false false 2 0 false false ⟨#[]⟩ ⟨#[]⟩ false true 0 0 false false 4 0 false false W (Nat.zero_le _) (Nat.zero_le _) (by kernel_rfl) (fun W' => ?_)
  exact changed_1on ao 1 cap ⟨#[97]⟩ 1 2 ⟨#[]⟩ true true ⟨#[]⟩ ⟨#[]⟩ false true 0 0 false false 2 0 false false W' (by omega) (by omega) (by omega) (by omega) (by omega) (by omega) (by omega) (by omega) (by kernel_rfl) (by kernel_rfl) (by kernel_rfl)
set_option maxRecDepth 100000 in
set_option maxHeartbeats 2000000 in
theorem live_true (w : World) : Calls Tryd.prog 11 #[] w fun e w' => e = .returned (.bool true) ∧ Fr noB w w' := by
  obtain ⟨W1, hW1⟩ : ∃ W1, ((w.alloc (.cells #[.int .i64 1, .string ⟨#[97]⟩, .int .i64 1, .int .i64 2, .string ⟨#[]⟩] 24 (0, 0))).alloc (.cells #[.string ⟨#[]⟩, .string ⟨#[]⟩, .bool false, .bool true, .int .i64 0, .int .i64 0, .bool false, .bool false, .int .i64 2, .int .i64 0, .bool false, .bool false] 46 (0, 0))).alloc (.cells #[.string ⟨#[97]⟩] 9 (0, 0)) = W1 := ⟨_, rfl⟩
  have hX : XAt W1 w.heap.size 1 ⟨#[97]⟩ 1 2 ⟨#[]⟩ := by rw [← hW1]; exact ⟨old1 (old1 (heap_alloc_new w _))⟩
  have hR : RAt W1 (w.heap.size + 1) ⟨#[]⟩ ⟨#[]⟩ false true 0 0 false false 2 0 false false := by rw [← hW1]; exact ⟨old1 (new1 _ _ _ (by simp))⟩
  have hS : SsAt W1 (some ⟨w.heap.size + 1 + 1, 0, none⟩) [⟨#[97]⟩] := by rw [← hW1]; exact one_at (new1 _ _ _ (by simp))
  have hF0 : Fr noB w W1 := by rw [← hW1]; exact (((Fr.refl noB w).alloc _).alloc _).alloc _
  have HR : Hid (∀ u : Unit, Calls Tryd.prog 21 #[.slice (some ⟨w.heap.size + 1 + 1, 0, none⟩) 1 1, .agg #[.int .i64 1, .string ⟨#[97]⟩, .int .i64 1, .int .i64 2, .string ⟨#[]⟩], .string ⟨#[97]⟩, (.agg #[.string ⟨#[]⟩, .string ⟨#[]⟩, .bool false, .bool true, .int .i64 0, .int .i64 0, .bool false, .bool false, .int .i64 2, .int .i64 0, .bool false, .bool false])] W1 fun e w' => e = .returned (.tuple #[(.agg #[.string ⟨#[]⟩, .string ⟨#[]⟩, .bool false, .bool true, .int .i64 0, .int .i64 0, .bool false, .bool false, .int .i64 4, .int .i64 0, .bool false, .bool false]), .bool true]) ∧ Fr noB W1 w') := fun _ => pref_live (some ⟨w.heap.size + 1 + 1, 0, none⟩) 1 W1 hS
  have HH : Hid _ := And.intro hX (And.intro hR hF0)
  have k0 := hX.c0; have k1 := hX.c1; have k2 := hX.c2; have k3 := hX.c3; have k4 := hX.c4
  have g0 := hR.g0; have g1 := hR.g1; have g2 := hR.g2; have g3 := hR.g3; have g4 := hR.g4; have g5 := hR.g5; have g6 := hR.g6; have g7 := hR.g7; have g8 := hR.g8; have g9 := hR.g9; have g10 := hR.g10; have g11 := hR.g11
  have HK : Hid (∀ W : World, Calls Tryd.prog 12 #[.slice (some ⟨W.heap.size + 1, 0, none⟩) 1 1, .agg #[.int .i64 1, .string ⟨#[97]⟩, .int .i64 1, .int .i64 2, .string ⟨#[]⟩]] ((W.alloc (.cells #[.string ⟨#[]⟩, .string ⟨#[]⟩, .bool false, .bool true, .int .i64 0, .int .i64 0, .bool false, .bool false, .int .i64 4, .int .i64 0, .bool false, .bool false] 46 (0, 0))).alloc (.cells #[.string ⟨#[97]⟩] 9 (0, 0))) fun e w' => e = .returned (.int .i64 0) ∧ Fr noB ((W.alloc (.cells #[.string ⟨#[]⟩, .string ⟨#[]⟩, .bool false, .bool true, .int .i64 0, .int .i64 0, .bool false, .bool false, .int .i64 4, .int .i64 0, .bool false, .bool false] 46 (0, 0))).alloc (.cells #[.string ⟨#[97]⟩] 9 (0, 0))) w') := fun W => check_all (some ⟨W.heap.size + 1, 0, none⟩) 1 [⟨#[97]⟩] 1 ⟨#[97]⟩ 1 2 ⟨#[]⟩ _ (one_at (new1 _ _ _ (by simp))) (by simp) (by omega)
  clear hX hR hS hF0
  go_enter Tryd.func11, Tryd.ntmps11
  go_wp2_with (first
    | (go_at_call 21; (with_reducible refine (HR.out ()).mono ?_); rintro e w2 ⟨rfl, hF2⟩; have hF3 : Fr noB W1 (w2.alloc (.cells #[.string ⟨#[]⟩, .string ⟨#[]⟩, .bool false, .bool true, .int .i64 0, .int .i64 0, .bool false, .bool false, .int .i64 4, .int .i64 0, .bool false, .bool false] 46 (0, 0))) := hF2.alloc _; have hY : RAt (w2.alloc (.cells #[.string ⟨#[]⟩, .string ⟨#[]⟩, .bool false, .bool true, .int .i64 0, .int .i64 0, .bool false, .bool false, .int .i64 4, .int .i64 0, .bool false, .bool false] 46 (0, 0))) w2.heap.size ⟨#[]⟩ ⟨#[]⟩ false true 0 0 false false 4 0 false false := ⟨heap_alloc_new w2 _⟩; have y4 := hY.g4; have y8 := hY.g8; have hX3 := HH.out.1.fr hF3; have m0 := hX3.c0; have m1 := hX3.c1; have m2 := hX3.c2; have m3 := hX3.c3; have m4 := hX3.c4; have hF4 : Fr noB W1 ((w2.alloc (.cells #[.string ⟨#[]⟩, .string ⟨#[]⟩, .bool false, .bool true, .int .i64 0, .int .i64 0, .bool false, .bool false, .int .i64 4, .int .i64 0, .bool false, .bool false] 46 (0, 0))).alloc (.cells #[.string ⟨#[97]⟩] 9 (0, 0))) := hF3.alloc _; have hX4 := HH.out.1.fr hF4; have n0 := hX4.c0; have n1 := hX4.c1; have n2 := hX4.c2; have n3 := hX4.c3; have n4 := hX4.c4; have HF4 : Hid _ := hF4; clear hF2 hF3 hF4 hX3 hX4 hY)
    | (go_at_call 12; (with_reducible refine (HK.out _).mono ?_); rintro e w3 ⟨rfl, hF5⟩))
  go_ret
  exact ⟨rfl, HH.out.2.2.trans (HF4.out.trans hF5)⟩
#print axioms live_true
end Go.Proofs.YthokhnbecgkpbaaDoor
