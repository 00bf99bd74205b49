/- Rows of values and arrays that are the same are told so by the document. -/
import Derived.Test.YtpjbobbmldplbaaGreatDoorK01
import Derived.Test.YtpjbobbmldplbaaGreatDoorK09
import Derived.Deep.RegionHeld3
import Derived.Deep.DeepCutAuto
namespace Go.Proofs.YtpjbobbmldplbaaGreatDoor
open Go.RowKit Ieee Go.Shelf
attribute [local go_sem] run_store_float

set_option maxRecDepth 100000 in
set_option maxHeartbeats 2000000 in
theorem sameall_self (ao bo : Option Addr) (ca cb : Nat) (L : List Vv) (w : World) (hA : VsAt w ao L) (hB : VsAt w bo L) (hl : L.length ≤ 140737488355328) :
    Calls Tryz.prog 26 #[.slice ao L.length ca, .slice bo L.length cb] w fun e w' => e = .returned (.bool true) ∧ Fr noB w w' := by
  have HA : Hid (VsAt w ao L) := hA
  have HB : Hid (VsAt w bo L) := hB
  have hsl : ((L.length : Int) == (L.length : Int)) = true := by simp
  clear hA hB
  go_enter Tryz.func26, Tryz.ntmps26
  go_wp2_with fail
  go_loopw [5] (fun i wr => ∃ k : Nat, k ≤ L.length ∧ i = .int .i64 (k : Int) ∧ Fr noB w wr) (fun i _ => L.length - (intOf i).toNat)
  case atStart => exact ⟨0, Nat.zero_le _, rfl, Fr.refl _ _⟩
  case round =>
    obtain ⟨k, hk, rfl, hF⟩ := hrel
    by_cases hlt : k < L.length
    · obtain ⟨b1, o1, rfl, hb1, c0, c1, c2, c3, c4⟩ := (HA.out.keep hF).get k hlt
      obtain ⟨b2, o2, rfl, hb2, d0, d1, d2, d3, d4⟩ := (HB.out.keep hF).get k hlt
      obtain ⟨v, hv⟩ : ∃ v, L[k] = v := ⟨_, rfl⟩
      rw [hv] at c0 c1 c2 c3 c4 d0 d1 d2 d3 d4
      clear hv
      obtain ⟨vk, vn, vs, vy, ve⟩ := v
      simp only at c0 c1 c2 c3 c4 d0 d1 d2 d3 d4
      have HF : Hid (Fr noB w wr) := hF
      have i1 : (k : Int) < (L.length : Int) := by omega
      have i2 : (0 : Int) ≤ (k : Int) := by omega
      have H1 := rsame_self vk vn vs vy ve
      have HW : ∀ W, Fr noB wr W → W.cell? ⟨b1, o1 + k * 5, none⟩ = some (.int .i64 vk) ∧ W.cell? ⟨b1, o1 + k * 5 + 1, none⟩ = some (.float .f64 vn) ∧ W.cell? ⟨b1, o1 + k * 5 + 2, none⟩ = some (.string vs) ∧ W.cell? ⟨b1, o1 + k * 5 + 3, none⟩ = some (.bool vy) ∧ W.cell? ⟨b1, o1 + k * 5 + 4, none⟩ = some (.int .i64 ve) ∧ W.cell? ⟨b2, o2 + k * 5, none⟩ = some (.int .i64 vk) ∧ W.cell? ⟨b2, o2 + k * 5 + 1, none⟩ = some (.float .f64 vn) ∧ W.cell? ⟨b2, o2 + k * 5 + 2, none⟩ = some (.string vs) ∧ W.cell? ⟨b2, o2 + k * 5 + 3, none⟩ = some (.bool vy) ∧ W.cell? ⟨b2, o2 + k * 5 + 4, none⟩ = some (.int .i64 ve) := fun W h => ⟨(h.cell (a := ⟨b1, _, none⟩) hb1 id).trans c0, (h.cell (a := ⟨b1, _, none⟩) hb1 id).trans c1, (h.cell (a := ⟨b1, _, none⟩) hb1 id).trans c2, (h.cell (a := ⟨b1, _, none⟩) hb1 id).trans c3, (h.cell (a := ⟨b1, _, none⟩) hb1 id).trans c4, (h.cell (a := ⟨b2, _, none⟩) hb2 id).trans d0, (h.cell (a := ⟨b2, _, none⟩) hb2 id).trans d1, (h.cell (a := ⟨b2, _, none⟩) hb2 id).trans d2, (h.cell (a := ⟨b2, _, none⟩) hb2 id).trans d3, (h.cell (a := ⟨b2, _, none⟩) hb2 id).trans d4⟩
      have HK : Hid _ := HW
      clear HW hF c0 c1 c2 c3 c4 d0 d1 d2 d3 d4
      go_wp2_with fail
      go_region_held3 (fun W => W.cell? ⟨b1, o1 + k * 5, none⟩ = some (.int .i64 vk) ∧ W.cell? ⟨b1, o1 + k * 5 + 1, none⟩ = some (.float .f64 vn) ∧ W.cell? ⟨b1, o1 + k * 5 + 2, none⟩ = some (.string vs) ∧ W.cell? ⟨b1, o1 + k * 5 + 3, none⟩ = some (.bool vy) ∧ W.cell? ⟨b1, o1 + k * 5 + 4, none⟩ = some (.int .i64 ve) ∧ W.cell? ⟨b2, o2 + k * 5, none⟩ = some (.int .i64 vk) ∧ W.cell? ⟨b2, o2 + k * 5 + 1, none⟩ = some (.float .f64 vn) ∧ W.cell? ⟨b2, o2 + k * 5 + 2, none⟩ = some (.string vs) ∧ W.cell? ⟨b2, o2 + k * 5 + 3, none⟩ = some (.bool vy) ∧ W.cell? ⟨b2, o2 + k * 5 + 4, none⟩ = some (.int .i64 ve))
        (exact HK.out _ (by repeat first | assumption | exact Fr.refl _ _ | exact Fr.drew (by assumption) | exact (Fr.refl _ _).drew | refine Fr.trans ?_ (by assumption)))
        (first
          | (go_at_call 12; refine (H1 _).mono ?_; rintro e w1 ⟨rfl, hF1⟩))
      go_wp2_with fail
      have hF2 := HF.out.trans ((Fr.refl noB wr).drew.trans hF1)
      exact ⟨⟨k + 1, by omega, by go_num, hF2⟩, by simp [intOf]; omega⟩
    · obtain rfl : k = L.length := by omega
      go_wp2_with fail
      go_ret
      exact ⟨rfl, hF⟩
#print axioms sameall_self
set_option maxRecDepth 100000 in
set_option maxHeartbeats 1000000 in
theorem samearr_self (r c : Int) (ao bo : Option Addr) (ca cb : Nat) (L : List Vv) (w : World) (hA : VsAt w ao L) (hB : VsAt w bo L) (hl : L.length ≤ 140737488355328) :
    Calls Tryz.prog 8 #[.agg #[.int .i64 r, .int .i64 c, .slice ao L.length ca], .agg #[.int .i64 r, .int .i64 c, .slice bo L.length cb]] w fun e w' => e = .returned (.bool true) ∧ Fr noB w w' := by
  have HF : Hid (Fr noB w ((w.alloc (.cells #[.int .i64 r, .int .i64 c, .slice ao L.length ca] 27 (0, 0))).alloc (.cells #[.int .i64 r, .int .i64 c, .slice bo L.length cb] 27 (0, 0)))) := ((Fr.refl noB w).alloc _).alloc _
  have HS := sameall_self ao bo ca cb L _ (hA.keep HF.out) (hB.keep HF.out) hl
  have h1 : (r == r) = true := by simp
  have h2 : (c == c) = true := by simp
  generalize L.length = n at *
  clear hA hB hl
  go_enter Tryz.func8, Tryz.ntmps8
  go_wp2_with (go_at_call 26; refine HS.mono ?_; rintro e w1 ⟨rfl, hF1⟩)
  go_ret
  exact ⟨rfl, HF.out.trans hF1⟩
#print axioms samearr_self
end Go.Proofs.YtpjbobbmldplbaaGreatDoor
