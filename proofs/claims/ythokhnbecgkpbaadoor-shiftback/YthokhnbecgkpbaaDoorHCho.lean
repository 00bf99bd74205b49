/- A shift as references meet it: the program's changeOf. -/
import Derived.Test.YthokhnbecgkpbaaDoorHHnd
namespace Go.Proofs.YthokhnbecgkpbaaDoor
open Go.RowKit

theorem ch_one (ao : Option Addr) (l cap : Nat) (K : Int) (sh : ByteArray) (At N : Int) (nm : ByteArray) (a b : Bool) : (#[.slice ao l cap, .int .i64 K, .string sh, .int .i64 At, .int .i64 N, .string nm, .bool a, .bool b] : Array Value).all (·.oneCell') = true := by kernel_rfl
set_option maxRecDepth 100000 in
set_option maxHeartbeats 2000000 in
theorem changeOf_any (ao : Option Addr) (cap : Nat) (L : List ByteArray) (K : Int) (sh : ByteArray) (At N : Int) (nm own : ByteArray) (w : World) (h : SsAt w ao L) (hl : L.length ≤ 140737488355328) (hN : N ≤ 9223372036854775807) :
    Calls Tryd.prog 41 #[.slice ao L.length cap, .agg #[.int .i64 K, .string sh, .int .i64 At, .int .i64 N, .string nm], .string own] w fun e w' => e = .returned (.agg #[.slice ao L.length cap, .int .i64 K, .string sh, .int .i64 At, .int .i64 N, .string nm, .bool (chkS L K sh At N nm == 0), .bool (alkF own sh)]) ∧ Fr noB w w' := by
  obtain ⟨W0, hW0⟩ : ∃ W0, (w.alloc (.cells #[.int .i64 K, .string sh, .int .i64 At, .int .i64 N, .string nm] 24 (0, 0))).alloc (.cells #[.slice none 0 0, .int .i64 0, .string ⟨#[]⟩, .int .i64 0, .int .i64 0, .string ⟨#[]⟩, .bool false, .bool false] 70 (0, 0)) = W0 := ⟨_, rfl⟩
  have hX : XAt W0 w.heap.size K sh At N nm := by rw [← hW0]; exact ⟨old1 (heap_alloc_new w _)⟩
  have hO : HAt W0 (w.heap.size + 1) none 0 0 0 ⟨#[]⟩ 0 0 ⟨#[]⟩ false false := by rw [← hW0]; exact ⟨new1 _ _ _ (by simp)⟩
  have hF0 : Fr noB w W0 := by rw [← hW0]; exact ((Fr.refl noB w).alloc _).alloc _
  have HC : Hid (∀ W, Fr noB w W → Calls Tryd.prog 12 #[.slice ao L.length cap, .agg #[.int .i64 K, .string sh, .int .i64 At, .int .i64 N, .string nm]] W fun e w' => e = .returned (.int .i64 (chkS L K sh At N nm)) ∧ Fr noB W w') := fun W hF => check_all ao cap L K sh At N nm W (h.keep hF) hl hN
  have HA := alike_any own sh
  have HH : Hid _ := And.intro hX (And.intro hO hF0)
  clear hX hO hF0 h hl hN
  generalize chkS L K sh At N nm = v at *
  generalize alkF own sh = hm at *
  generalize L.length = l at *
  go_enter Tryd.func41, Tryd.ntmps41
  go_wp2_with fail
  refine wp_region_held_drew (S := fun W => XAt W w.heap.size K sh At N nm) (by kernel_rfl) (HH.out.1.fr (Fr.refl noB W0).drew) (fun hHeld => ?_)
  refine wpAnyH_take (i := 0) (v := .slice ao l cap) rfl (by kernel_rfl) (by kernel_rfl) (by kernel_rfl) (fun _ _ _ h => h) (Or.inl ⟨by kernel_rfl, fun w hSw => by kernel_rfl⟩) hHeld ?_
  refine wpAnyH_take (i := 1) (v := .agg #[.int .i64 K, .string sh, .int .i64 At, .int .i64 N, .string nm]) rfl (by kernel_rfl) (by kernel_rfl) (by kernel_rfl) (fun _ _ _ h => h) (y_loadH 24 (.tmp 4) (.pointer (some ⟨w.heap.size, 0, none⟩)) _ (by kernel_rfl) rfl (by kernel_rfl) (fun w h => load_x h)) hHeld ?_
  refine wpAnyH_take (i := 2) (v := .slice ao l cap) rfl (by kernel_rfl) (by kernel_rfl) (by kernel_rfl) (fun _ _ _ h => h) (Or.inl ⟨by kernel_rfl, fun w hSw => by kernel_rfl⟩) hHeld ?_
  refine wpAnyH_take (i := 3) (v := .agg #[.int .i64 K, .string sh, .int .i64 At, .int .i64 N, .string nm]) rfl (by kernel_rfl) (by kernel_rfl) (by kernel_rfl) (fun _ _ _ h => h) (y_loadH 24 (.tmp 4) (.pointer (some ⟨w.heap.size, 0, none⟩)) _ (by kernel_rfl) rfl (by kernel_rfl) (fun w h => load_x h)) hHeld ?_
  refine wpAnyH_take (i := 6) (v := .string own) rfl (by kernel_rfl) (by kernel_rfl) (by kernel_rfl) (fun _ _ _ h => h) (Or.inl ⟨by kernel_rfl, fun w hSw => by kernel_rfl⟩) hHeld ?_
  refine wpAnyH_take (i := 7) (v := .pointer (some ⟨w.heap.size, 1, none⟩)) rfl (by kernel_rfl) (by kernel_rfl) (by kernel_rfl) (fun _ _ _ h => h) (Or.inl ⟨by kernel_rfl, fun w hSw => by kernel_rfl⟩) hHeld ?_
  refine wpAnyH_take (i := 8) (v := .string sh) rfl (by kernel_rfl) (by kernel_rfl) (by kernel_rfl) (fun _ _ _ h => h) (y_loadH 9 (.tmp 14) (.pointer (some ⟨w.heap.size, 1, none⟩)) _ (by kernel_rfl) rfl (by kernel_rfl) (fun w h => load_s h.c1)) hHeld ?_
  refine wpAnyH_ready (rs := [4]) (by kernel_rfl) (by simp) ?_
  refine AllReadyH.cons rfl (fun KK hK => ?_) AllReadyH.nil
  (with_reducible refine ite_inH ?_ ?_)
  · kernel_rfl
  (with_reducible refine wp_goH 12 #[.slice ao l cap, .agg #[.int .i64 K, .string sh, .int .i64 At, .int .i64 N, .string nm]] ?_ ?_)
  · kernel_rfl
  (with_reducible refine (HC.out _ (HH.out.2.2.trans (Fr.refl noB W0).drew)).mono ?_)
  rintro e w1 ⟨rfl, hF1⟩
  have hG1 : Fr noB W0 w1 := ((Fr.refl noB W0).drew).trans hF1
  refine hK.out _ _ (HH.out.1.fr hG1) (fun hHeld => ?_)
  clear hK KK
  refine wpAnyH_take (i := 5) (v := .bool (v == 0)) rfl (by kernel_rfl) (by kernel_rfl) (by kernel_rfl) (fun _ _ _ h => h) (Or.inl ⟨by kernel_rfl, fun w hSw => by kernel_rfl⟩) hHeld ?_
  refine wpAnyH_ready (rs := [9]) (by kernel_rfl) (by simp) ?_
  refine AllReadyH.cons rfl (fun KK hK => ?_) AllReadyH.nil
  (with_reducible refine ite_inH ?_ ?_)
  · kernel_rfl
  (with_reducible refine wp_goH 15 #[.string own, .string sh] ?_ ?_)
  · kernel_rfl
  (with_reducible refine (HA _).mono ?_)
  rintro e w2 ⟨rfl, hF2⟩
  have hG2 : Fr noB W0 w2 := hG1.trans hF2
  refine hK.out _ _ (HH.out.1.fr hG2) (fun hHeld => ?_)
  clear hK KK
  refine wpAnyH_take (i := 10) (v := .agg #[.slice ao l cap, .int .i64 K, .string sh, .int .i64 At, .int .i64 N, .string nm, .bool (v == 0), .bool hm]) rfl (by kernel_rfl) (by kernel_rfl) (by kernel_rfl) (fun _ _ _ h => h) (Or.inl ⟨by kernel_rfl, fun w hSw => by kernel_rfl⟩) hHeld ?_
  refine wpAnyH_ready (rs := [11]) (by kernel_rfl) (by simp) ?_
  refine AllReadyH.cons rfl (fun KK hK => ?_) AllReadyH.nil
  (with_reducible refine ite_inH ?_ ?_)
  · kernel_rfl
  (with_reducible refine wp_storeH 70 (.tmp 6) (.tmp 17) ?_ (w.heap.size + 1) #[.slice ao l cap, .int .i64 K, .string sh, .int .i64 At, .int .i64 N, .string nm, .bool (v == 0), .bool hm] ?_ ?_ 70 _ (HH.out.2.1.fr hG2).o ?_ rfl ?_ ?_)
  · kernel_rfl
  · kernel_rfl
  · kernel_rfl
  · kernel_rfl
  · kernel_rfl
  intro w3 e3 hH3
  have hF3 : Fr noB w w3 := by rw [e3]; exact (HH.out.2.2.trans hG2).setRowR _ (Or.inr (Nat.le_succ _)) _
  refine hK.out _ _ (by rw [e3]; exact (HH.out.1.fr hG2).row (by omega) _) (fun _ => ?_)
  clear hK KK
  refine wpAnyH_done (by kernel_rfl) ?_ _
  refine fr_toH { tmps := #[.slice ao l cap, .agg #[.int .i64 K, .string sh, .int .i64 At, .int .i64 N, .string nm], .string own, undef, .pointer (some ⟨w.heap.size, 0, none⟩), undef, .pointer (some ⟨w.heap.size + 1, 0, none⟩), .slice ao l cap, .agg #[.int .i64 K, .string sh, .int .i64 At, .int .i64 N, .string nm], .slice ao l cap, .agg #[.int .i64 K, .string sh, .int .i64 At, .int .i64 N, .string nm], .int .i64 v, .bool (v == 0), .string own, .pointer (some ⟨w.heap.size, 1, none⟩), .string sh, .bool hm, .agg #[.slice ao l cap, .int .i64 K, .string sh, .int .i64 At, .int .i64 N, .string nm, .bool (v == 0), .bool hm]], defers := [] } (by kernel_rfl) ?_
  go_wp2_with fail
  exact bodyPost_ret (results_cell_row rfl _ _ (w.heap.size + 1) 70 _ (0, 0) _ rfl hH3 Tryd.underlying70 rfl info_change) rfl ⟨rfl, hF3⟩
#print axioms changeOf_any
end Go.Proofs.YthokhnbecgkpbaaDoor
