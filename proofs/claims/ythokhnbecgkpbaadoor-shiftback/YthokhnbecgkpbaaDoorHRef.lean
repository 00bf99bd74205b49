/- What becomes of a reference by a shift: the program's Ref. -/
import Derived.Test.YthokhnbecgkpbaaDoorHCrf
namespace Go.Proofs.YthokhnbecgkpbaaDoor
open Go.RowKit

set_option maxRecDepth 100000 in
set_option maxHeartbeats 2000000 in
theorem pref_of (ao : Option Addr) (cap : Nat) (L : List ByteArray) (K : Int) (sh : ByteArray) (At N : Int) (nm own : ByteArray) (t u : ByteArray) (fx ar : Bool) (r1 c1 : Int) (x1 y1 : Bool) (r2 c2 : Int) (x2 y2 : Bool) (t' u' : ByteArray) (fx' ar' : Bool) (r1' c1' : Int) (x1' y1' : Bool) (r2' c2' : Int) (x2' y2' : Bool) (b : Bool) (w : World) (h : SsAt w ao L) (hl : L.length ≤ 140737488355328) (hN : N ≤ 9223372036854775807)
    (HV : ∀ W, Calls Tryd.prog 42 #[.agg #[.slice ao L.length cap, .int .i64 K, .string sh, .int .i64 At, .int .i64 N, .string nm, .bool (chkS L K sh At N nm == 0), .bool (alkF own sh)], (.agg #[.string t, .string u, .bool fx, .bool ar, .int .i64 r1, .int .i64 c1, .bool x1, .bool y1, .int .i64 r2, .int .i64 c2, .bool x2, .bool y2])] W fun e w' => e = .returned (.tuple #[(.agg #[.string t', .string u', .bool fx', .bool ar', .int .i64 r1', .int .i64 c1', .bool x1', .bool y1', .int .i64 r2', .int .i64 c2', .bool x2', .bool y2']), .bool b]) ∧ Fr noB W w') :
    Calls Tryd.prog 21 #[.slice ao L.length cap, .agg #[.int .i64 K, .string sh, .int .i64 At, .int .i64 N, .string nm], .string own, (.agg #[.string t, .string u, .bool fx, .bool ar, .int .i64 r1, .int .i64 c1, .bool x1, .bool y1, .int .i64 r2, .int .i64 c2, .bool x2, .bool y2])] w fun e w' => e = .returned (.tuple #[(.agg #[.string t', .string u', .bool fx', .bool ar', .int .i64 r1', .int .i64 c1', .bool x1', .bool y1', .int .i64 r2', .int .i64 c2', .bool x2', .bool y2']), .bool b]) ∧ Fr noB w w' := by
  obtain ⟨W0, hW0⟩ : ∃ W0, ((w.alloc (.cells #[.int .i64 K, .string sh, .int .i64 At, .int .i64 N, .string nm] 24 (0, 0))).alloc (.cells #[.string t, .string u, .bool fx, .bool ar, .int .i64 r1, .int .i64 c1, .bool x1, .bool y1, .int .i64 r2, .int .i64 c2, .bool x2, .bool y2] 46 (0, 0))).alloc (.cells #[.string ⟨#[]⟩, .string ⟨#[]⟩, .bool false, .bool false, .int .i64 0, .int .i64 0, .bool false, .bool false, .int .i64 0, .int .i64 0, .bool false, .bool false] 46 (0, 0)) = W0 := ⟨_, rfl⟩
  have hX : XAt W0 w.heap.size K sh At N nm := by rw [← hW0]; exact ⟨old1 (old1 (heap_alloc_new w _))⟩
  have hR : RAt W0 (w.heap.size + 1) t u fx ar r1 c1 x1 y1 r2 c2 x2 y2 := by rw [← hW0]; exact ⟨old1 (new1 _ _ _ (by simp))⟩
  have hO : RAt W0 (w.heap.size + 1 + 1) ⟨#[]⟩ ⟨#[]⟩ false false 0 0 false false 0 0 false false := by rw [← hW0]; exact ⟨new1 _ _ _ (by simp)⟩
  have hF0 : Fr noB w W0 := by rw [← hW0]; exact (((Fr.refl noB w).alloc _).alloc _).alloc _
  have HC : Hid (∀ W, Fr noB w W → Calls Tryd.prog 41 #[.slice ao L.length cap, .agg #[.int .i64 K, .string sh, .int .i64 At, .int .i64 N, .string nm], .string own] W fun e w' => e = .returned (.agg #[.slice ao L.length cap, .int .i64 K, .string sh, .int .i64 At, .int .i64 N, .string nm, .bool (chkS L K sh At N nm == 0), .bool (alkF own sh)]) ∧ Fr noB W w') := fun W hF => changeOf_any ao cap L K sh At N nm own W (h.keep hF) hl hN
  have HV : Hid _ := HV
  have HH : Hid _ := And.intro hX (And.intro hR (And.intro hO hF0))
  clear hX hR hO hF0 h hl hN
  generalize (chkS L K sh At N nm == 0) = my at *
  generalize alkF own sh = hm at *
  generalize L.length = l at *
  go_enter Tryd.func21, Tryd.ntmps21
  go_wp2_with fail
  refine wp_region_held_drew (S := fun W => XAt W w.heap.size K sh At N nm ∧ RAt W (w.heap.size + 1) t u fx ar r1 c1 x1 y1 r2 c2 x2 y2) (by kernel_rfl) ⟨HH.out.1.fr (Fr.refl noB W0).drew, HH.out.2.1.fr (Fr.refl noB W0).drew id⟩ (fun hHeld => ?_)
  refine wpAnyH_take (i := 0) (v := .slice ao l cap) rfl (by kernel_rfl) (by kernel_rfl) (by kernel_rfl) (fun _ _ _ h => h) (Or.inl ⟨by kernel_rfl, fun w hSw => by kernel_rfl⟩) hHeld ?_
  refine wpAnyH_take (i := 1) (v := .agg #[.int .i64 K, .string sh, .int .i64 At, .int .i64 N, .string nm]) rfl (by kernel_rfl) (by kernel_rfl) (by kernel_rfl) (fun _ _ _ h => h) (y_loadH 24 (.tmp 5) (.pointer (some ⟨w.heap.size, 0, none⟩)) _ (by kernel_rfl) rfl (by kernel_rfl) (fun w h => load_x h.1)) hHeld ?_
  refine wpAnyH_take (i := 2) (v := .string own) rfl (by kernel_rfl) (by kernel_rfl) (by kernel_rfl) (fun _ _ _ h => h) (Or.inl ⟨by kernel_rfl, fun w hSw => by kernel_rfl⟩) hHeld ?_
  refine wpAnyH_take (i := 4) (v := (.agg #[.string t, .string u, .bool fx, .bool ar, .int .i64 r1, .int .i64 c1, .bool x1, .bool y1, .int .i64 r2, .int .i64 c2, .bool x2, .bool y2])) rfl (by kernel_rfl) (by kernel_rfl) (by kernel_rfl) (fun _ _ _ h => h) (y_loadH 46 (.tmp 7) (.pointer (some ⟨w.heap.size + 1, 0, none⟩)) _ (by kernel_rfl) rfl (by kernel_rfl) (fun w h => load_r h.2)) hHeld ?_
  refine wpAnyH_ready (rs := [3]) (by kernel_rfl) (by simp) ?_
  refine AllReadyH.cons rfl (fun KK hK => ?_) AllReadyH.nil
  (with_reducible refine ite_inH ?_ ?_)
  · kernel_rfl
  (with_reducible refine wp_goH 41 #[.slice ao l cap, .agg #[.int .i64 K, .string sh, .int .i64 At, .int .i64 N, .string nm], .string own] ?_ ?_)
  · kernel_rfl
  (with_reducible refine (HC.out _ (HH.out.2.2.2.trans (Fr.refl noB W0).drew)).mono ?_)
  rintro e w1 ⟨rfl, hF1⟩
  have hG1 : Fr noB W0 w1 := ((Fr.refl noB W0).drew).trans hF1
  refine hK.out _ _ ⟨HH.out.1.fr hG1, HH.out.2.1.fr hG1 id⟩ (fun hHeld => ?_)
  clear hK KK
  refine wpAnyH_ready (rs := [5]) (by kernel_rfl) (by simp) ?_
  refine AllReadyH.cons rfl (fun KK hK => ?_) AllReadyH.nil
  (with_reducible refine ite_inH ?_ ?_)
  · kernel_rfl
  (with_reducible refine wp_goH 42 #[.agg #[.slice ao l cap, .int .i64 K, .string sh, .int .i64 At, .int .i64 N, .string nm, .bool my, .bool hm], (.agg #[.string t, .string u, .bool fx, .bool ar, .int .i64 r1, .int .i64 c1, .bool x1, .bool y1, .int .i64 r2, .int .i64 c2, .bool x2, .bool y2])] ?_ ?_)
  · kernel_rfl
  (with_reducible refine (HV.out _).mono ?_)
  rintro e w2 ⟨rfl, hF2⟩
  have hG2 : Fr noB W0 w2 := hG1.trans hF2
  refine hK.out _ _ ⟨HH.out.1.fr hG2, HH.out.2.1.fr hG2 id⟩ (fun hHeld => ?_)
  clear hK KK
  refine wpAnyH_take (i := 6) (v := (.agg #[.string t', .string u', .bool fx', .bool ar', .int .i64 r1', .int .i64 c1', .bool x1', .bool y1', .int .i64 r2', .int .i64 c2', .bool x2', .bool y2'])) rfl (by kernel_rfl) (by kernel_rfl) (by kernel_rfl) (fun _ _ _ h => h) (Or.inl ⟨by kernel_rfl, fun w hSw => by kernel_rfl⟩) hHeld ?_
  refine wpAnyH_take (i := 7) (v := .bool b) rfl (by kernel_rfl) (by kernel_rfl) (by kernel_rfl) (fun _ _ _ h => h) (Or.inl ⟨by kernel_rfl, fun w hSw => by kernel_rfl⟩) hHeld ?_
  refine wpAnyH_ready (rs := [8]) (by kernel_rfl) (by simp) ?_
  refine AllReadyH.cons rfl (fun KK hK => ?_) AllReadyH.nil
  (with_reducible refine ite_inH ?_ ?_)
  · kernel_rfl
  (with_reducible refine wp_storeH 46 (.tmp 8) (.tmp 16) ?_ (w.heap.size + 1 + 1) #[.string t', .string u', .bool fx', .bool ar', .int .i64 r1', .int .i64 c1', .bool x1', .bool y1', .int .i64 r2', .int .i64 c2', .bool x2', .bool y2'] ?_ ?_ 46 _ (HH.out.2.2.1.fr hG2 id).o ?_ rfl ?_ ?_)
  · kernel_rfl
  · kernel_rfl
  · kernel_rfl
  · kernel_rfl
  · kernel_rfl
  intro w3 e3 hH3
  have hF3 : Fr noB w w3 := by rw [e3]; exact (HH.out.2.2.2.trans hG2).setRowR _ (Or.inr (by omega)) _
  refine hK.out _ _ (by rw [e3]; exact ⟨(HH.out.1.fr hG2).row (by omega) _, ⟨(setRow_other _ _ _ _ (by omega)).trans (HH.out.2.1.fr hG2 id).o⟩⟩) (fun hHeld => ?_)
  clear hK KK
  refine wpAnyH_take (i := 9) (v := .bool b) rfl (by kernel_rfl) (by kernel_rfl) (by kernel_rfl) (fun _ _ _ h => h) (Or.inl ⟨by kernel_rfl, fun w hSw => by kernel_rfl⟩) hHeld ?_
  refine wpAnyH_done (by kernel_rfl) ?_ _
  refine fr_toH { tmps := #[.slice ao l cap, .agg #[.int .i64 K, .string sh, .int .i64 At, .int .i64 N, .string nm], .string own, (.agg #[.string t, .string u, .bool fx, .bool ar, .int .i64 r1, .int .i64 c1, .bool x1, .bool y1, .int .i64 r2, .int .i64 c2, .bool x2, .bool y2]), undef, .pointer (some ⟨w.heap.size, 0, none⟩), undef, .pointer (some ⟨w.heap.size + 1, 0, none⟩), .pointer (some ⟨w.heap.size + 1 + 1, 0, none⟩), .bool b, .slice ao l cap, .agg #[.int .i64 K, .string sh, .int .i64 At, .int .i64 N, .string nm], .string own, .agg #[.slice ao l cap, .int .i64 K, .string sh, .int .i64 At, .int .i64 N, .string nm, .bool my, .bool hm], (.agg #[.string t, .string u, .bool fx, .bool ar, .int .i64 r1, .int .i64 c1, .bool x1, .bool y1, .int .i64 r2, .int .i64 c2, .bool x2, .bool y2]), .tuple #[(.agg #[.string t', .string u', .bool fx', .bool ar', .int .i64 r1', .int .i64 c1', .bool x1', .bool y1', .int .i64 r2', .int .i64 c2', .bool x2', .bool y2']), .bool b], (.agg #[.string t', .string u', .bool fx', .bool ar', .int .i64 r1', .int .i64 c1', .bool x1', .bool y1', .int .i64 r2', .int .i64 c2', .bool x2', .bool y2']), .bool b], defers := [] } (by kernel_rfl) ?_
  go_wp2_with fail
  exact bodyPost_ret (rret2 rfl _ _ (w.heap.size + 1 + 1) rfl rfl ⟨hH3⟩) rfl ⟨rfl, hF3⟩
#print axioms pref_of
end Go.Proofs.YthokhnbecgkpbaaDoor
