/- ArrayMakes: Make and the law's walk. -/
import Derived.Test.YtaobnfjkggpdlaaGreatDoorAPcg
import Derived.Test.YtaobnfjkggpdlaaGreatDoorACop
import Derived.Test.YtaobnfjkggpdlaaGreatDoorABeg
namespace Go.Proofs.YtaobnfjkggpdlaaGreatDoor
open Go.RowKit Ieee Go.Shelf
attribute [local go_sem] run_store_float

theorem aret2 {fn : Func} {p q : Tmp} (h : fn.results = #[.cell p 24, .tmp q]) (tmps : Array Value) (w : World) (g : Nat) {r c : Int} {ao : Option Addr} {n cap : Nat} {b : Value} (hp : tmps.getD p undef = .pointer (some ⟨g, 0, none⟩)) (hq : tmps.getD q undef = b) (hv : AAt w g r c ao n cap) :
    (results fn tmps).run Tryz.prog w = .ok (.tuple #[.agg #[.int .i64 r, .int .i64 c, .slice ao n cap], b]) w := by
  have hp' : tmps[p]?.getD undef = .pointer (some ⟨g, 0, none⟩) := by simpa using hp
  have hq' : tmps[q]?.getD undef = b := by simpa using hq
  simp [results, h, hp', hq', asAddr, run_loadVar_row w g 24 24 _ (0, 0) _ hv.o Tryz.underlying24 rfl info_arr]
/-- An array that may be has 4096 values at most. -/
theorem arrF_len {r c : Int} {L : List Vv} (h : arrF ckV r c L = 0) : L.length ≤ 4096 := by
  unfold arrF at h
  split at h
  · omega
  · split at h
    · omega
    · split at h <;> omega
set_option maxRecDepth 100000 in
set_option maxHeartbeats 4000000 in
theorem make_no (r c : Int) (ao : Option Addr) (cap : Nat) (L : List Vv) (w : World) (hA : VsAt w ao L) (hV : ∀ y ∈ L, Vok y) (hU : U8 w) (E : Int) (hE : arrF ckV r c L = E) (hne : E ≠ 0) :
    Calls Tryz.prog 10 #[.int .i64 r, .int .i64 c, .slice ao L.length cap] w fun e w' => e = .returned (.tuple #[.agg #[.int .i64 0, .int .i64 0, .slice none 0 0], .int .i64 E]) ∧ Fr noB w w' := by
  obtain ⟨W0, hW0⟩ : ∃ W0, (w.alloc (.cells #[.int .i64 0, .int .i64 0, .slice none 0 0] 24 (0, 0))).alloc (.cells #[.int .i64 r, .int .i64 c, .slice ao L.length cap] 24 (0, 0)) = W0 := ⟨_, rfl⟩
  have hO : AAt W0 w.heap.size 0 0 none 0 0 := by rw [← hW0]; exact ⟨old1 (new1 _ _ _ rfl)⟩
  have hF : Fr noB w W0 := by rw [← hW0]; exact ((Fr.refl noB w).alloc _).alloc _
  have HC := pcheckA r c ao cap L W0 (hA.keep hF) hV (hU.fr hF)
  rw [hE, ← hW0] at HC
  have HO : Hid (∀ W, Fr noB ((w.alloc (.cells #[.int .i64 0, .int .i64 0, .slice none 0 0] 24 (0, 0))).alloc (.cells #[.int .i64 r, .int .i64 c, .slice ao L.length cap] 24 (0, 0))) W → AAt W w.heap.size 0 0 none 0 0) := fun W h => by rw [hW0] at h; exact hO.fr h id
  have HF : Hid (Fr noB w ((w.alloc (.cells #[.int .i64 0, .int .i64 0, .slice none 0 0] 24 (0, 0))).alloc (.cells #[.int .i64 r, .int .i64 c, .slice ao L.length cap] 24 (0, 0)))) := by rw [hW0]; exact hF
  have h1 : (E != 0) = true := by simpa using hne
  generalize L.length = n at *
  clear hA hV hU hE hne hO hF hW0
  go_enter Tryz.func10, Tryz.ntmps10
  go_wp2_with (first
    | (go_at_call 12; refine HC.mono ?_; rintro e w1 ⟨rfl, hF1⟩; have hO1 := HO.out _ hF1)
    | (refine wpList_store_arr rfl (.tmp 6) (.tmp 18) rfl w.heap.size 0 0 none 0 0 rfl rfl hO1 ?_; intro W hW hFW))
  exact bodyPost_ret (aret2 Tryz.results10 _ _ w.heap.size rfl rfl hW) rfl ⟨rfl, (HF.out.trans hF1).new hFW (Nat.le_refl _)⟩
set_option maxRecDepth 100000 in
set_option maxHeartbeats 4000000 in
theorem make_ok (r c : Int) (ao : Option Addr) (cap : Nat) (L : List Vv) (w : World) (hA : VsAt w ao L) (hV : ∀ y ∈ L, Vok y) (hU : U8 w) (hE : arrF ckV r c L = 0) :
    Calls Tryz.prog 10 #[.int .i64 r, .int .i64 c, .slice ao L.length cap] w fun e w' => ∃ so sc, e = .returned (.tuple #[.agg #[.int .i64 r, .int .i64 c, .slice so L.length sc], .int .i64 0]) ∧ VsAt w' so L ∧ (∀ b o, so = some ⟨b, o, none⟩ → w.heap.size ≤ b) ∧ Fr noB w w' := by
  obtain ⟨W0, hW0⟩ : ∃ W0, (w.alloc (.cells #[.int .i64 0, .int .i64 0, .slice none 0 0] 24 (0, 0))).alloc (.cells #[.int .i64 r, .int .i64 c, .slice ao L.length cap] 24 (0, 0)) = W0 := ⟨_, rfl⟩
  have hO : AAt W0 w.heap.size 0 0 none 0 0 := by rw [← hW0]; exact ⟨old1 (new1 _ _ _ rfl)⟩
  have hB : AAt W0 (w.heap.size + 1) r c ao L.length cap := by rw [← hW0]; exact ⟨new1 _ _ _ (by simp)⟩
  have hF : Fr noB w W0 := by rw [← hW0]; exact ((Fr.refl noB w).alloc _).alloc _
  have HC := pcheckA r c ao cap L W0 (hA.keep hF) hV (hU.fr hF)
  have hlen := arrF_len hE
  rw [hE, ← hW0] at HC
  have HP : Hid (∀ W, Fr noB ((w.alloc (.cells #[.int .i64 0, .int .i64 0, .slice none 0 0] 24 (0, 0))).alloc (.cells #[.int .i64 r, .int .i64 c, .slice ao L.length cap] 24 (0, 0))) W → Calls Tryz.prog 38 #[.agg #[.int .i64 r, .int .i64 c, .slice ao L.length cap]] W fun e w' => ∃ so sc, e = .returned (.agg #[.int .i64 r, .int .i64 c, .slice so L.length sc]) ∧ VsAt w' so L ∧ (∀ b o, so = some ⟨b, o, none⟩ → W.heap.size ≤ b) ∧ Fr noB W w') := fun W h => by rw [hW0] at h; exact copied_any r c ao cap L W ((hA.keep hF).keep h) (by omega) hV
  have HO : Hid (∀ W, Fr noB ((w.alloc (.cells #[.int .i64 0, .int .i64 0, .slice none 0 0] 24 (0, 0))).alloc (.cells #[.int .i64 r, .int .i64 c, .slice ao L.length cap] 24 (0, 0))) W → AAt W w.heap.size 0 0 none 0 0 ∧ AAt W (w.heap.size + 1) r c ao L.length cap) := fun W h => by rw [hW0] at h; exact ⟨hO.fr h id, hB.fr h id⟩
  have HF : Hid (Fr noB w ((w.alloc (.cells #[.int .i64 0, .int .i64 0, .slice none 0 0] 24 (0, 0))).alloc (.cells #[.int .i64 r, .int .i64 c, .slice ao L.length cap] 24 (0, 0)))) := by rw [hW0]; exact hF
  clear hA hV hU hE hO hB hF hW0 hlen
  go_enter Tryz.func10, Tryz.ntmps10
  go_wp2_with (first
    | (go_at_call 12; refine HC.mono ?_; rintro e w1 ⟨rfl, hF1⟩; have hO1 := HO.out _ hF1; have x0 := cellOf (o := 0) hO1.2.o rfl; have x1 := cellOf (o := 1) hO1.2.o rfl; have x2 := cellOf (o := 2) hO1.2.o rfl)
    | (go_at_call 38; refine (HP.out _ hF1).mono ?_; rintro e w2 ⟨so, sc, rfl, hV2, hb2, hF2⟩)
    | (refine wpList_store_arr rfl (.tmp 6) (.tmp 21) rfl w.heap.size r c so L.length sc rfl rfl (hO1.1.fr hF2 id) ?_; intro W hW hFW))
  have hlt : w.heap.size < w1.heap.size := lt_of_block hO1.1.o
  exact bodyPost_ret (aret2 Tryz.results10 _ _ w.heap.size rfl rfl hW) rfl ⟨so, sc, rfl, hV2.keep1 hFW (fun b o hb => by have := hb2 b o hb; omega), fun b o hb => by have := hb2 b o hb; omega, ((HF.out.trans hF1).trans hF2).new hFW (Nat.le_refl _)⟩
#print axioms make_ok
#print axioms make_no
end Go.Proofs.YtaobnfjkggpdlaaGreatDoor
