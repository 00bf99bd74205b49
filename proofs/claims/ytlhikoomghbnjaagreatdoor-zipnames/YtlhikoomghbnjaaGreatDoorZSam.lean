/- Same of two lists of one entry that read alike. -/
import Derived.Test.YtlhikoomghbnjaaGreatDoorEq
import Derived.Test.YtlhikoomghbnjaaGreatDoorZBas
import Derived.LoopN
namespace Go.Proofs.YtlhikoomghbnjaaGreatDoor
open Go.RowKit
attribute [local go_sem ↓] Go.wp_at_zero Go.wp_at_succ

theorem loop_once {P : Program} {c : Code} {Q : Exit → Act → World → Prop} {a : Act} {w : World} (Inv : Act → World → Prop) (h0 : c.wp P (Exit.then Inv Q) a w)
    (h1 : ∀ a w, Inv a w → c.wp P (Exit.then (fun _ _ => False) Q) a w) : (Code.loop c).wp P Q a w := by
  refine wp_loop_rounds 2 (Code.wp_mono (fun e a w h => ?_) h0)
  cases e with
  | normal => exact h1 _ _ h
  | _ => exact h
/-- An entry lies in three cells of a block. -/
def EntC (w : World) (lb : Nat) (nm : ByteArray) (ao : Option Addr) (n c : Nat) (st : Bool) : Prop := w.cell? ⟨lb, 0, none⟩ = some (.string nm) ∧ w.cell? ⟨lb, 1, none⟩ = some (.slice ao n c) ∧ w.cell? ⟨lb, 2, none⟩ = some (.bool st)

set_option maxRecDepth 100000 in
set_option maxHeartbeats 1600000 in
theorem same_one (lb1 lb2 cp1 cp2 : Nat) (nm : ByteArray) (st : Bool) (ao1 ao2 : Option Addr) (n c1 c2 : Nat) (B : List Nat) (w : World) (h1 : EntC w lb1 nm ao1 n c1 st) (h2 : EntC w lb2 nm ao2 n c2 st)
    (b1 : Bs w (.slice ao1 n c1) B) (b2 : Bs w (.slice ao2 n c2) B) (hlt : ∀ x ∈ B, x < 256) :
    Calls Tryz.prog 11 #[.slice (some ⟨lb1, 0, none⟩) 1 cp1, .slice (some ⟨lb2, 0, none⟩) 1 cp2] w fun e w' => e = .returned (.bool true) ∧ Fr noB w w' := by
  obtain ⟨x1, x2, x3⟩ := h1
  obtain ⟨y1, y2, y3⟩ := h2
  have hcv1 : (convert 22 9 (.slice ao1 n c1)).run Tryz.prog w.drew = .ok (.string (strOf B)) w.drew := conv_bytes _ _ _ (b1.fr (Fr.refl noB w).drew (fun _ _ _ _ _ _ _ h => h)) hlt
  have hcv2 : (convert 22 9 (.slice ao2 n c2)).run Tryz.prog w.drew = .ok (.string (strOf B)) w.drew := conv_bytes _ _ _ (b2.fr (Fr.refl noB w).drew (fun _ _ _ _ _ _ _ h => h)) hlt
  generalize strOf B = sb at *
  have hs1 : (nm.toList == nm.toList) = true := by simp
  have hs2 : (sb.toList == sb.toList) = true := by simp
  clear b1 b2 hlt
  go_enter Tryz.func11, Tryz.ntmps11
  go_wp2_with fail
  refine loop_once (fun a W => (∃ u6 u7 u8 u9 u10 u11 u12 u13 u14 u15 u16 u17 u18 u19 u20 u21 u22 u23 u24 u25 u26 u27 u28 u29 u30 u31 u32 u33 u34 u35 u36 u37 u38 u39 u40 u41 u42 u43 u44 u45 u46 u47 u48 u49 u50 u51 u52 u53 u54 u55 : Value, a = { tmps := #[.slice (some ⟨lb1, 0, none⟩) 1 cp1, .slice (some ⟨lb2, 0, none⟩) 1 cp2, undef, undef, .bool false, .int .i64 1, u6, u7, u8, u9, u10, u11, u12, u13, u14, u15, u16, u17, u18, u19, u20, u21, u22, u23, u24, u25, u26, u27, u28, u29, u30, u31, u32, u33, u34, u35, u36, u37, u38, u39, u40, u41, u42, u43, u44, u45, u46, u47, u48, u49, u50, u51, u52, u53, u54, u55], defers := [] }) ∧ W = w.drew) ?_ ?_
  · cases st
    · go_wp2_with fail
      go_region_held3 (fun w' => w'.cell? ⟨lb1, 0, none⟩ = some (.string nm) ∧ w'.cell? ⟨lb1, 1, none⟩ = some (.slice ao1 n c1) ∧ w'.cell? ⟨lb1, 2, none⟩ = some (.bool false) ∧ w'.cell? ⟨lb2, 0, none⟩ = some (.string nm) ∧ w'.cell? ⟨lb2, 1, none⟩ = some (.slice ao2 n c2) ∧ w'.cell? ⟨lb2, 2, none⟩ = some (.bool false) ∧ (convert 22 9 (.slice ao1 n c1)).run Tryz.prog w' = .ok (.string sb) w' ∧ (convert 22 9 (.slice ao2 n c2)).run Tryz.prog w' = .ok (.string sb) w') (exact ⟨x1, x2, x3, y1, y2, y3, hcv1, hcv2⟩) (fail)
      go_wp2_with fail
      exact ⟨⟨_, _, _, _, _, _, _, _, _, _, _, _, _, _, _, _, _, _, _, _, _, _, _, _, _, _, _, _, _, _, _, _, _, _, _, _, _, _, _, _, _, _, _, _, _, _, _, _, _, _, rfl⟩, trivial⟩
    · go_wp2_with fail
      go_region_held3 (fun w' => w'.cell? ⟨lb1, 0, none⟩ = some (.string nm) ∧ w'.cell? ⟨lb1, 1, none⟩ = some (.slice ao1 n c1) ∧ w'.cell? ⟨lb1, 2, none⟩ = some (.bool true) ∧ w'.cell? ⟨lb2, 0, none⟩ = some (.string nm) ∧ w'.cell? ⟨lb2, 1, none⟩ = some (.slice ao2 n c2) ∧ w'.cell? ⟨lb2, 2, none⟩ = some (.bool true) ∧ (convert 22 9 (.slice ao1 n c1)).run Tryz.prog w' = .ok (.string sb) w' ∧ (convert 22 9 (.slice ao2 n c2)).run Tryz.prog w' = .ok (.string sb) w') (exact ⟨x1, x2, x3, y1, y2, y3, hcv1, hcv2⟩) (fail)
      go_wp2_with fail
      exact ⟨⟨_, _, _, _, _, _, _, _, _, _, _, _, _, _, _, _, _, _, _, _, _, _, _, _, _, _, _, _, _, _, _, _, _, _, _, _, _, _, _, _, _, _, _, _, _, _, _, _, _, _, rfl⟩, trivial⟩
  · rintro _ _ ⟨⟨u6, u7, u8, u9, u10, u11, u12, u13, u14, u15, u16, u17, u18, u19, u20, u21, u22, u23, u24, u25, u26, u27, u28, u29, u30, u31, u32, u33, u34, u35, u36, u37, u38, u39, u40, u41, u42, u43, u44, u45, u46, u47, u48, u49, u50, u51, u52, u53, u54, u55, rfl⟩, rfl⟩
    go_wp2_with fail
    go_ret
    exact ⟨rfl, (Fr.refl noB w).drew⟩
#print axioms same_one
end Go.Proofs.YtlhikoomghbnjaaGreatDoor
