/- begun: the simplest operators come. -/
import Derived.Test.YtpjbobbmldplbaaGreatDoorAPow
import Derived.Test.YtpjbobbmldplbaaGreatDoorAOne
import Derived.Test.YtpjbobbmldplbaaGreatDoorASam
namespace Go.Proofs.YtpjbobbmldplbaaGreatDoor
open Go.RowKit Ieee Go.Shelf
attribute [local go_sem] run_store_float

set_option maxRecDepth 100000 in
theorem yb_ten : yb 1032 = 4621819117588971520 := by decide +kernel
theorem two_ten (w : World) (hU : U8 w) : Calls Tryz.prog 23 #[.int .i64 12, (.agg #[.int .i64 1, .float .f64 4611686018427387904, .string ⟨#[]⟩, .bool false, .int .i64 0]), (.agg #[.int .i64 1, .float .f64 4621819117588971520, .string ⟨#[]⟩, .bool false, .int .i64 0])] w fun e w' => e = .returned (.agg #[.int .i64 1, .float .f64 4652218415073722368, .string ⟨#[]⟩, .bool false, .int .i64 0]) ∧ Fr noB w w' := by
  have h := yb_of (i := 1032) (by decide)
  rw [yb_ten] at h
  exact pow_bin h (by decide) (by decide) w hU
def twoV : Vv := ⟨1, 4611686018427387904, ⟨#[]⟩, false, 0⟩
set_option maxRecDepth 100000 in
set_option maxHeartbeats 4000000 in
theorem begun_true (w : World) (hU : U8 w) : Calls Tryz.prog 7 #[] w fun e w' => e = .returned (.bool true) ∧ Fr noB w w' := by
  have HU : Hid (∀ W, Fr noB w W → Calls Tryz.prog 23 #[.int .i64 12, (.agg #[.int .i64 1, .float .f64 4611686018427387904, .string ⟨#[]⟩, .bool false, .int .i64 0]), (.agg #[.int .i64 1, .float .f64 4621819117588971520, .string ⟨#[]⟩, .bool false, .int .i64 0])] W fun e w' => e = .returned (.agg #[.int .i64 1, .float .f64 4652218415073722368, .string ⟨#[]⟩, .bool false, .int .i64 0]) ∧ Fr noB W w') := fun W hW => two_ten W (hU.fr hW)
  have H2 : ∀ W, _ := rnum_any 4611686018427387904
  have H10 : ∀ W, _ := rnum_any 4621819117588971520
  have H1k : ∀ W, _ := rnum_any 4652218415073722368
  have HS : ∀ W, _ := rsame_self 1 4652218415073722368 ⟨#[]⟩ false 0
  have HP : Hid (∀ W, Calls Tryz.prog 24 #[(.agg #[.int .i64 1, .float .f64 4611686018427387904, .string ⟨#[]⟩, .bool false, .int .i64 0])] W fun e' w' => ∃ b, e' = .returned (.agg #[.int .i64 1, .int .i64 1, .slice (some ⟨b, 0, none⟩) 1 1]) ∧ VsAt w' (some ⟨b, 0, none⟩) [twoV] ∧ Fr noB W w') := fun W => pone_any twoV (by decide) W
  have HR : Hid (∀ W, Calls Tryz.prog 25 #[(.agg #[.int .i64 1, .float .f64 4611686018427387904, .string ⟨#[]⟩, .bool false, .int .i64 0])] W fun e' w' => ∃ b, e' = .returned (.agg #[.int .i64 1, .int .i64 1, .slice (some ⟨b, 0, none⟩) 1 1]) ∧ VsAt w' (some ⟨b, 0, none⟩) [twoV] ∧ Fr noB W w') := fun W => rone_any twoV W
  have HA : Hid (∀ b1 b2 W, VsAt W (some ⟨b1, 0, none⟩) [twoV] → VsAt W (some ⟨b2, 0, none⟩) [twoV] → Calls Tryz.prog 8 #[.agg #[.int .i64 1, .int .i64 1, .slice (some ⟨b1, 0, none⟩) 1 1], .agg #[.int .i64 1, .int .i64 1, .slice (some ⟨b2, 0, none⟩) 1 1]] W fun e w' => e = .returned (.bool true) ∧ Fr noB W w') := fun b1 b2 W h1 h2 => samearr_self 1 1 _ _ 1 1 [twoV] W h1 h2 (by decide)
  clear hU
  go_enter Tryz.func7, Tryz.ntmps7
  go_wp2_with (go_at_call 22; refine (H2 _).mono ?_; rintro e w1 ⟨rfl, hF1⟩)
  have hT : VAt (w1.alloc (.cells #[.int .i64 1, .float .f64 4611686018427387904, .string ⟨#[]⟩, .bool false, .int .i64 0] 37 (0, 0))) w1.heap.size 1 4611686018427387904 ⟨#[]⟩ false 0 := ⟨new1 _ _ _ rfl⟩
  have hF2 : Fr noB w (w1.alloc (.cells #[.int .i64 1, .float .f64 4611686018427387904, .string ⟨#[]⟩, .bool false, .int .i64 0] 37 (0, 0))) := hF1.alloc _
  clear H2 hF1
  generalize w1.alloc (.cells #[.int .i64 1, .float .f64 4611686018427387904, .string ⟨#[]⟩, .bool false, .int .i64 0] 37 (0, 0)) = W0 at *
  generalize w1.heap.size = b0 at *
  have HK : Hid (∀ W, Fr noB W0 W → VAt W b0 1 4611686018427387904 ⟨#[]⟩ false 0) := fun W h => hT.fr h id
  have HF2 : Hid (Fr noB w W0) := hF2
  clear hT hF2
  have HC : Hid (∀ W, Fr noB W0 W → W.cell? ⟨b0, 0, none⟩ = some (.int .i64 1) ∧ W.cell? ⟨b0, 1, none⟩ = some (.float .f64 4611686018427387904) ∧ W.cell? ⟨b0, 2, none⟩ = some (.string ⟨#[]⟩) ∧ W.cell? ⟨b0, 3, none⟩ = some (.bool false) ∧ W.cell? ⟨b0, 4, none⟩ = some (.int .i64 0)) := fun W h => ⟨(HK.out W h).c0, (HK.out W h).c1, (HK.out W h).c2, (HK.out W h).c3, (HK.out W h).c4⟩
  clear HK
  go_region_held3 (fun W => W.cell? ⟨b0, 0, none⟩ = some (.int .i64 1) ∧ W.cell? ⟨b0, 1, none⟩ = some (.float .f64 4611686018427387904) ∧ W.cell? ⟨b0, 2, none⟩ = some (.string ⟨#[]⟩) ∧ W.cell? ⟨b0, 3, none⟩ = some (.bool false) ∧ W.cell? ⟨b0, 4, none⟩ = some (.int .i64 0))
    (exact HC.out _ (by repeat first | assumption | exact Fr.refl _ _ | exact Fr.drew (by assumption) | exact (Fr.refl _ _).drew | refine Fr.trans ?_ (by assumption)))
    (first
      | (go_at_call 22; with_reducible refine (H10 _).mono ?_; rintro e w2 ⟨rfl, hF2⟩)
      | (go_at_call 23; with_reducible refine (HU.out _ (HF2.out.trans (by repeat first | assumption | exact Fr.refl _ _ | exact Fr.drew (by assumption) | exact (Fr.refl _ _).drew | refine Fr.trans ?_ (by assumption)))).mono ?_; rintro e w3 ⟨rfl, hF3⟩)
      | (go_at_call 22; with_reducible refine (H1k _).mono ?_; rintro e w4 ⟨rfl, hF4⟩)
      | (go_at_call 12; with_reducible refine (HS _).mono ?_; rintro e w5 ⟨rfl, hF5⟩)
      | (go_at_call 24; with_reducible refine (HP.out _).mono ?_; rintro e w6 ⟨b1, rfl, hV6, hF6⟩)
      | (go_at_call 25; with_reducible refine (HR.out _).mono ?_; rintro e w7 ⟨b2, rfl, hV7, hF7⟩)
      | (go_at_call 8; with_reducible refine (HA.out b1 b2 _ (hV6.keep (by repeat first | assumption | exact Fr.refl _ _ | exact Fr.drew (by assumption) | exact (Fr.refl _ _).drew | refine Fr.trans ?_ (by assumption))) hV7).mono ?_; rintro e w8 ⟨rfl, hF8⟩))
  go_wp2_with fail
  go_ret
  exact ⟨rfl, HF2.out.trans (by repeat first | assumption | exact Fr.refl _ _ | exact Fr.drew (by assumption) | exact (Fr.refl _ _).drew | refine Fr.trans ?_ (by assumption))⟩
#print axioms begun_true
end Go.Proofs.YtpjbobbmldplbaaGreatDoor
