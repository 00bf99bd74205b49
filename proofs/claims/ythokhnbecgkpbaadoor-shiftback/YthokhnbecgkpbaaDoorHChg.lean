/- What a shift of rows or columns makes of any reference: the program's onSheet, changed. -/
import Derived.Test.YthokhnbecgkpbaaDoorHBrf
namespace Go.Proofs.YthokhnbecgkpbaaDoor
open Go.RowKit

/-- A shift as references meet it lies in a block. -/
structure HAt (w : World) (B : Nat) (ao : Option Addr) (l cap : Nat) (K : Int) (sh : ByteArray) (At N : Int) (nm : ByteArray) (may home : Bool) : Prop where
  o : w.heap[B]? = some (.cells #[.slice ao l cap, .int .i64 K, .string sh, .int .i64 At, .int .i64 N, .string nm, .bool may, .bool home] 70 (0, 0))
theorem HAt.fr {w w' : World} {B : Nat} {ao : Option Addr} {l cap : Nat} {K : Int} {sh : ByteArray} {At N : Int} {nm : ByteArray} {may home : Bool} (h : HAt w B ao l cap K sh At N nm may home) (hF : Fr noB w w') : HAt w' B ao l cap K sh At N nm may home := ⟨hF.obj h.o id⟩
section
variable {w : World} {B : Nat} {ao : Option Addr} {l cap : Nat} {K : Int} {sh : ByteArray} {At N : Int} {nm : ByteArray} {may home : Bool} (h : HAt w B ao l cap K sh At N nm may home)
include h
theorem HAt.c0 : w.cell? ⟨B, 0, none⟩ = some (.slice ao l cap) := cellOf (o := 0) h.o rfl
theorem HAt.c1 : w.cell? ⟨B, 1, none⟩ = some (.int .i64 K) := cellOf (o := 1) h.o rfl
theorem HAt.c2 : w.cell? ⟨B, 2, none⟩ = some (.string sh) := cellOf (o := 2) h.o rfl
theorem HAt.c3 : w.cell? ⟨B, 3, none⟩ = some (.int .i64 At) := cellOf (o := 3) h.o rfl
theorem HAt.c4 : w.cell? ⟨B, 4, none⟩ = some (.int .i64 N) := cellOf (o := 4) h.o rfl
theorem HAt.c5 : w.cell? ⟨B, 5, none⟩ = some (.string nm) := cellOf (o := 5) h.o rfl
theorem HAt.c6 : w.cell? ⟨B, 6, none⟩ = some (.bool may) := cellOf (o := 6) h.o rfl
theorem HAt.c7 : w.cell? ⟨B, 7, none⟩ = some (.bool home) := cellOf (o := 7) h.o rfl
end
theorem info_change : (Tryd.prog.info? 70).map (·.size) = some 8 := by kernel_rfl
/-- Is a reference to one sheet to the shift's? -/
def onB (t sh : ByteArray) (home : Bool) : Bool := if empB t = true then home else alkF t sh
set_option maxRecDepth 100000 in
set_option maxHeartbeats 1000000 in
theorem onSheet_any (ao : Option Addr) (l cap : Nat) (K : Int) (sh : ByteArray) (At N : Int) (nm : ByteArray) (may home : Bool) (t u : ByteArray) (fx ar : Bool) (r1 c1 : Int) (x1 y1 : Bool) (r2 c2 : Int) (x2 y2 : Bool) (w : World) :
    Calls Tryd.prog 66 #[.agg #[.slice ao l cap, .int .i64 K, .string sh, .int .i64 At, .int .i64 N, .string nm, .bool may, .bool home], (.agg #[.string t, .string u, .bool fx, .bool ar, .int .i64 r1, .int .i64 c1, .bool x1, .bool y1, .int .i64 r2, .int .i64 c2, .bool x2, .bool y2])] w fun e w' => e = .returned (.bool (onB t sh home)) ∧ Fr noB w w' := by
  obtain ⟨W0, hW0⟩ : ∃ W0, (w.alloc (.cells #[.slice ao l cap, .int .i64 K, .string sh, .int .i64 At, .int .i64 N, .string nm, .bool may, .bool home] 70 (0, 0))).alloc (.cells #[.string t, .string u, .bool fx, .bool ar, .int .i64 r1, .int .i64 c1, .bool x1, .bool y1, .int .i64 r2, .int .i64 c2, .bool x2, .bool y2] 46 (0, 0)) = W0 := ⟨_, rfl⟩
  have hC : HAt W0 w.heap.size ao l cap K sh At N nm may home := by rw [← hW0]; exact ⟨old1 (heap_alloc_new w _)⟩
  have hR : RAt W0 (w.heap.size + 1) t u fx ar r1 c1 x1 y1 r2 c2 x2 y2 := by rw [← hW0]; exact ⟨new1 _ _ _ (by simp)⟩
  have hF0 : Fr noB w W0 := by rw [← hW0]; exact ((Fr.refl noB w).alloc _).alloc _
  have HF0 : Hid _ := hF0
  have HA := alike_any t sh
  have k1 := hC.c2; have k2 := hC.c7; have k3 := hR.g0
  clear hC hR hF0
  unfold onB empB
  cases he : t.toList.isEmpty with
  | true =>
    rw [if_pos rfl]
    go_enter Tryd.func66, Tryd.ntmps66
    go_wp2_with fail
    go_ret
    exact ⟨rfl, HF0.out⟩
  | false =>
    rw [if_neg (by simp)]
    generalize alkF t sh = b at *
    go_enter Tryd.func66, Tryd.ntmps66
    go_wp2_with (go_at_call 15; refine (HA _).mono ?_; rintro e w1 ⟨rfl, hF1⟩)
    go_ret
    exact ⟨rfl, HF0.out.trans hF1⟩
set_option maxRecDepth 100000 in
set_option maxHeartbeats 2000000 in
theorem changed_1to (ao : Option Addr) (l cap : Nat) (sh : ByteArray) (At N : Int) (nm : ByteArray) (may home : Bool) (t u : ByteArray) (fx ar : Bool) (r1 c1 : Int) (x1 y1 : Bool) (r2 c2 : Int) (x2 y2 : Bool) (w : World) (hu : u.toList.isEmpty = false) :
    Calls Tryd.prog 53 #[.agg #[.slice ao l cap, .int .i64 1, .string sh, .int .i64 At, .int .i64 N, .string nm, .bool may, .bool home], (.agg #[.string t, .string u, .bool fx, .bool ar, .int .i64 r1, .int .i64 c1, .bool x1, .bool y1, .int .i64 r2, .int .i64 c2, .bool x2, .bool y2])] w fun e w' => e = .returned (.tuple #[(.agg #[.string t, .string u, .bool fx, .bool ar, .int .i64 r1, .int .i64 c1, .bool x1, .bool y1, .int .i64 r2, .int .i64 c2, .bool x2, .bool y2]), .bool true]) ∧ Fr noB w w' := by
  obtain ⟨W0, hW0⟩ : ∃ W0, ((w.alloc (.cells #[.slice ao l cap, .int .i64 1, .string sh, .int .i64 At, .int .i64 N, .string nm, .bool may, .bool home] 70 (0, 0))).alloc (.cells #[.string t, .string u, .bool fx, .bool ar, .int .i64 r1, .int .i64 c1, .bool x1, .bool y1, .int .i64 r2, .int .i64 c2, .bool x2, .bool y2] 46 (0, 0))).alloc (.cells #[.string ⟨#[]⟩, .string ⟨#[]⟩, .bool false, .bool false, .int .i64 0, .int .i64 0, .bool false, .bool false, .int .i64 0, .int .i64 0, .bool false, .bool false] 46 (0, 0)) = W0 := ⟨_, rfl⟩
  have hC : HAt W0 w.heap.size ao l cap 1 sh At N nm may home := by rw [← hW0]; exact ⟨old1 (old1 (heap_alloc_new w _))⟩
  have hR : RAt W0 (w.heap.size + 1) t u fx ar r1 c1 x1 y1 r2 c2 x2 y2 := by rw [← hW0]; exact ⟨old1 (new1 _ _ _ (by simp))⟩
  have hO : RAt W0 (w.heap.size + 1 + 1) ⟨#[]⟩ ⟨#[]⟩ false false 0 0 false false 0 0 false false := by rw [← hW0]; exact ⟨new1 _ _ _ (by simp)⟩
  have hF0 : Fr noB w W0 := by rw [← hW0]; exact (((Fr.refl noB w).alloc _).alloc _).alloc _
  have HH : Hid _ := And.intro hC (And.intro hR (And.intro hO hF0))
  have k1 := hC.c1; have k2 := hC.c2; have k3 := hC.c3; have k4 := hC.c4; have k5 := hC.c5
  have HB := bandOf_1 sh At N nm
  clear hC hR hO hF0
  go_enter Tryd.func53, Tryd.ntmps53
  go_wp2_with (first
    | (go_at_call 30; refine (HB _).mono ?_; rintro e w1 ⟨rfl, hF1⟩; have hF2 : Fr noB W0 (w1.alloc (.cells #[.int .i64 At, .int .i64 N, .int .i64 1048576, .bool true, .bool false] 60 (0, 0))) := hF1.alloc _; have hR2 := HH.out.2.1.fr hF2 id; have m1 := hR2.g1; have hC2 := HH.out.1.fr hF2;  have hO2 := HH.out.2.2.1.fr hF2 id; have hB2 : BAt (w1.alloc (.cells #[.int .i64 At, .int .i64 N, .int .i64 1048576, .bool true, .bool false] 60 (0, 0))) w1.heap.size At N 1048576 true false := ⟨heap_alloc_new w1 _⟩; have HX2 : Hid _ := And.intro hC2 (And.intro hR2 (And.intro hO2 (And.intro hB2 hF2))); clear hF1 hF2 hR2 hC2 hO2 hB2)
    | (refine wpList_load_row rfl 46 (.tmp 3) rfl (w.heap.size + 1) rfl 46 #[.string t, .string u, .bool fx, .bool ar, .int .i64 r1, .int .i64 c1, .bool x1, .bool y1, .int .i64 r2, .int .i64 c2, .bool x2, .bool y2] (0, 0) _ HX2.out.2.1.o Tryd.underlying46 rfl info_ref ?_)
    | (refine wpList_store_row rfl 46 (.tmp 4) (.tmp 45) rfl (w.heap.size + 1 + 1) #[.string t, .string u, .bool fx, .bool ar, .int .i64 r1, .int .i64 c1, .bool x1, .bool y1, .int .i64 r2, .int .i64 c2, .bool x2, .bool y2] rfl rfl 46 _ HX2.out.2.2.1.o info_ref rfl (ref_one _ _ _ _ _ _ _ _ _ _ _ _) ?_))
  refine bodyPost_ret (rret2 rfl _ _ (w.heap.size + 1 + 1) rfl rfl (HX2.out.2.2.1.row t u fx ar r1 c1 x1 y1 r2 c2 x2 y2)) rfl ⟨rfl, (HH.out.2.2.2.trans HX2.out.2.2.2.2).setRowR _ (Or.inr (by omega)) _⟩
set_option maxRecDepth 100000 in
set_option maxHeartbeats 2000000 in
theorem changed_1off (ao : Option Addr) (l cap : Nat) (sh : ByteArray) (At N : Int) (nm : ByteArray) (may home : Bool) (t u : ByteArray) (fx ar : Bool) (r1 c1 : Int) (x1 y1 : Bool) (r2 c2 : Int) (x2 y2 : Bool) (w : World) (hu : u.toList.isEmpty = true) (ho : onB t sh home = false) :
    Calls Tryd.prog 53 #[.agg #[.slice ao l cap, .int .i64 1, .string sh, .int .i64 At, .int .i64 N, .string nm, .bool may, .bool home], (.agg #[.string t, .string u, .bool fx, .bool ar, .int .i64 r1, .int .i64 c1, .bool x1, .bool y1, .int .i64 r2, .int .i64 c2, .bool x2, .bool y2])] w fun e w' => e = .returned (.tuple #[(.agg #[.string t, .string u, .bool fx, .bool ar, .int .i64 r1, .int .i64 c1, .bool x1, .bool y1, .int .i64 r2, .int .i64 c2, .bool x2, .bool y2]), .bool true]) ∧ Fr noB w w' := by
  have HN := onSheet_any ao l cap 1 sh At N nm may home t u fx ar r1 c1 x1 y1 r2 c2 x2 y2
  rw [ho] at HN
  obtain ⟨W0, hW0⟩ : ∃ W0, ((w.alloc (.cells #[.slice ao l cap, .int .i64 1, .string sh, .int .i64 At, .int .i64 N, .string nm, .bool may, .bool home] 70 (0, 0))).alloc (.cells #[.string t, .string u, .bool fx, .bool ar, .int .i64 r1, .int .i64 c1, .bool x1, .bool y1, .int .i64 r2, .int .i64 c2, .bool x2, .bool y2] 46 (0, 0))).alloc (.cells #[.string ⟨#[]⟩, .string ⟨#[]⟩, .bool false, .bool false, .int .i64 0, .int .i64 0, .bool false, .bool false, .int .i64 0, .int .i64 0, .bool false, .bool false] 46 (0, 0)) = W0 := ⟨_, rfl⟩
  have hC : HAt W0 w.heap.size ao l cap 1 sh At N nm may home := by rw [← hW0]; exact ⟨old1 (old1 (heap_alloc_new w _))⟩
  have hR : RAt W0 (w.heap.size + 1) t u fx ar r1 c1 x1 y1 r2 c2 x2 y2 := by rw [← hW0]; exact ⟨old1 (new1 _ _ _ (by simp))⟩
  have hO : RAt W0 (w.heap.size + 1 + 1) ⟨#[]⟩ ⟨#[]⟩ false false 0 0 false false 0 0 false false := by rw [← hW0]; exact ⟨new1 _ _ _ (by simp)⟩
  have hF0 : Fr noB w W0 := by rw [← hW0]; exact (((Fr.refl noB w).alloc _).alloc _).alloc _
  have HH : Hid _ := And.intro hC (And.intro hR (And.intro hO hF0))
  have k1 := hC.c1; have k2 := hC.c2; have k3 := hC.c3; have k4 := hC.c4; have k5 := hC.c5
  have HB := bandOf_1 sh At N nm
  clear hC hR hO hF0
  clear ho
  go_enter Tryd.func53, Tryd.ntmps53
  go_wp2_with (first
    | (go_at_call 30; refine (HB _).mono ?_; rintro e w1 ⟨rfl, hF1⟩; have hF2 : Fr noB W0 (w1.alloc (.cells #[.int .i64 At, .int .i64 N, .int .i64 1048576, .bool true, .bool false] 60 (0, 0))) := hF1.alloc _; have hR2 := HH.out.2.1.fr hF2 id; have m1 := hR2.g1; have hC2 := HH.out.1.fr hF2; have mr0 := hR2.g0; have mr2 := hR2.g2; have mr3 := hR2.g3; have mr4 := hR2.g4; have mr5 := hR2.g5; have mr6 := hR2.g6; have mr7 := hR2.g7; have mr8 := hR2.g8; have mr9 := hR2.g9; have mr10 := hR2.g10; have mr11 := hR2.g11; have mc0 := hC2.c0; have mc1 := hC2.c1; have mc2 := hC2.c2; have mc3 := hC2.c3; have mc4 := hC2.c4; have mc5 := hC2.c5; have mc6 := hC2.c6; have mc7 := hC2.c7;  have hO2 := HH.out.2.2.1.fr hF2 id; have hB2 : BAt (w1.alloc (.cells #[.int .i64 At, .int .i64 N, .int .i64 1048576, .bool true, .bool false] 60 (0, 0))) w1.heap.size At N 1048576 true false := ⟨heap_alloc_new w1 _⟩; have HX2 : Hid _ := And.intro hC2 (And.intro hR2 (And.intro hO2 (And.intro hB2 hF2))); clear hF1 hF2 hR2 hC2 hO2 hB2)
    | (refine wpList_load_row rfl 70 (.tmp 2) rfl w.heap.size rfl 70 #[.slice ao l cap, .int .i64 1, .string sh, .int .i64 At, .int .i64 N, .string nm, .bool may, .bool home] (0, 0) _ HX2.out.1.o Tryd.underlying70 rfl info_change ?_)
    | (refine wpList_load_row rfl 46 (.tmp 3) rfl (w.heap.size + 1) rfl 46 #[.string t, .string u, .bool fx, .bool ar, .int .i64 r1, .int .i64 c1, .bool x1, .bool y1, .int .i64 r2, .int .i64 c2, .bool x2, .bool y2] (0, 0) _ HX2.out.2.1.o Tryd.underlying46 rfl info_ref ?_)
    | (go_at_call 66; refine (HN _).mono ?_; rintro e w2 ⟨rfl, hF3⟩; have HX3 : Hid _ := And.intro (HX2.out.2.1.fr hF3 id) (And.intro (HX2.out.2.2.1.fr hF3 id) (And.intro (HX2.out.2.2.2.1.fr hF3) (HX2.out.2.2.2.2.trans hF3))); have n0 := HX3.out.2.2.1.c0; have n1 := HX3.out.2.2.1.c1; have n2 := HX3.out.2.2.1.c2; have n3 := HX3.out.2.2.1.c3; have n4 := HX3.out.2.2.1.c4; clear hF3)
    | (refine wpList_load_row rfl 46 (.tmp 3) rfl (w.heap.size + 1) rfl 46 #[.string t, .string u, .bool fx, .bool ar, .int .i64 r1, .int .i64 c1, .bool x1, .bool y1, .int .i64 r2, .int .i64 c2, .bool x2, .bool y2] (0, 0) _ HX3.out.1.o Tryd.underlying46 rfl info_ref ?_)
    | (refine wpList_store_row rfl 46 (.tmp 4) (.tmp 45) rfl (w.heap.size + 1 + 1) #[.string t, .string u, .bool fx, .bool ar, .int .i64 r1, .int .i64 c1, .bool x1, .bool y1, .int .i64 r2, .int .i64 c2, .bool x2, .bool y2] rfl rfl 46 _ HX3.out.2.1.o info_ref rfl (ref_one _ _ _ _ _ _ _ _ _ _ _ _) ?_))
  refine bodyPost_ret (rret2 rfl _ _ (w.heap.size + 1 + 1) rfl rfl (HX3.out.2.1.row t u fx ar r1 c1 x1 y1 r2 c2 x2 y2)) rfl ⟨rfl, (HH.out.2.2.2.trans HX3.out.2.2.2).setRowR _ (Or.inr (by omega)) _⟩
set_option maxRecDepth 100000 in
set_option maxHeartbeats 2000000 in
theorem changed_1on (ao : Option Addr) (l cap : Nat) (sh : ByteArray) (At N : Int) (nm : ByteArray) (may home : Bool) (t u : ByteArray) (fx ar : Bool) (r1 c1 : Int) (x1 y1 : Bool) (r2 c2 : Int) (x2 y2 : Bool) (w : World) (h1 : 0 ≤ At) (h2 : At ≤ 1048576) (h3 : 0 ≤ N) (h4 : N ≤ 1048576) (h7 : 0 ≤ r1) (h8 : r1 ≤ 1048576) (h9 : 0 ≤ r2) (h10 : r2 ≤ 1048576) (hu : u.toList.isEmpty = true) (ho : onB t sh home = true) (hs : stayB At N 1048576 true ar r1 r2 = true) :
    Calls Tryd.prog 53 #[.agg #[.slice ao l cap, .int .i64 1, .string sh, .int .i64 At, .int .i64 N, .string nm, .bool may, .bool home], (.agg #[.string t, .string u, .bool fx, .bool ar, .int .i64 r1, .int .i64 c1, .bool x1, .bool y1, .int .i64 r2, .int .i64 c2, .bool x2, .bool y2])] w fun e w' => e = .returned (.tuple #[(.agg #[.string t, .string u, .bool fx, .bool ar, .int .i64 (nwA At N 1048576 true ar r1 r2), .int .i64 c1, .bool x1, .bool y1, .int .i64 (nwB At N 1048576 true ar r1 r2), .int .i64 c2, .bool x2, .bool y2]), .bool true]) ∧ Fr noB w w' := by
  have HN := onSheet_any ao l cap 1 sh At N nm may home t u fx ar r1 c1 x1 y1 r2 c2 x2 y2
  rw [ho] at HN
  have HV : Hid (∀ W, Calls Tryd.prog 67 #[.agg #[.int .i64 At, .int .i64 N, .int .i64 1048576, .bool true, .bool false], (.agg #[.string t, .string u, .bool fx, .bool ar, .int .i64 r1, .int .i64 c1, .bool x1, .bool y1, .int .i64 r2, .int .i64 c2, .bool x2, .bool y2])] W fun e w' => e = .returned (.tuple #[(.agg #[.string t, .string u, .bool fx, .bool ar, .int .i64 (nwA At N 1048576 true ar r1 r2), .int .i64 c1, .bool x1, .bool y1, .int .i64 (nwB At N 1048576 true ar r1 r2), .int .i64 c2, .bool x2, .bool y2]), .bool true]) ∧ Fr noB W w') := fun W => by
    have := bref_false At N 1048576 true ar t u fx r1 c1 x1 y1 r2 c2 x2 y2 W h1 h2 h3 h4 (by omega) (by omega) h7 h8 h9 h10
    rw [hs, if_pos rfl] at this
    exact this
  obtain ⟨W0, hW0⟩ : ∃ W0, ((w.alloc (.cells #[.slice ao l cap, .int .i64 1, .string sh, .int .i64 At, .int .i64 N, .string nm, .bool may, .bool home] 70 (0, 0))).alloc (.cells #[.string t, .string u, .bool fx, .bool ar, .int .i64 r1, .int .i64 c1, .bool x1, .bool y1, .int .i64 r2, .int .i64 c2, .bool x2, .bool y2] 46 (0, 0))).alloc (.cells #[.string ⟨#[]⟩, .string ⟨#[]⟩, .bool false, .bool false, .int .i64 0, .int .i64 0, .bool false, .bool false, .int .i64 0, .int .i64 0, .bool false, .bool false] 46 (0, 0)) = W0 := ⟨_, rfl⟩
  have hC : HAt W0 w.heap.size ao l cap 1 sh At N nm may home := by rw [← hW0]; exact ⟨old1 (old1 (heap_alloc_new w _))⟩
  have hR : RAt W0 (w.heap.size + 1) t u fx ar r1 c1 x1 y1 r2 c2 x2 y2 := by rw [← hW0]; exact ⟨old1 (new1 _ _ _ (by simp))⟩
  have hO : RAt W0 (w.heap.size + 1 + 1) ⟨#[]⟩ ⟨#[]⟩ false false 0 0 false false 0 0 false false := by rw [← hW0]; exact ⟨new1 _ _ _ (by simp)⟩
  have hF0 : Fr noB w W0 := by rw [← hW0]; exact (((Fr.refl noB w).alloc _).alloc _).alloc _
  have HH : Hid _ := And.intro hC (And.intro hR (And.intro hO hF0))
  have k1 := hC.c1; have k2 := hC.c2; have k3 := hC.c3; have k4 := hC.c4; have k5 := hC.c5
  have HB := bandOf_1 sh At N nm
  clear hC hR hO hF0
  clear ho
  clear hs h1 h2 h3 h4 h7 h8 h9 h10
  generalize nwA At N 1048576 true ar r1 r2 = qa at *
  generalize nwB At N 1048576 true ar r1 r2 = qb at *
  go_enter Tryd.func53, Tryd.ntmps53
  go_wp2_with (first
    | (go_at_call 30; refine (HB _).mono ?_; rintro e w1 ⟨rfl, hF1⟩; have hF2 : Fr noB W0 (w1.alloc (.cells #[.int .i64 At, .int .i64 N, .int .i64 1048576, .bool true, .bool false] 60 (0, 0))) := hF1.alloc _; have hR2 := HH.out.2.1.fr hF2 id; have m1 := hR2.g1; have hC2 := HH.out.1.fr hF2; have mr0 := hR2.g0; have mr2 := hR2.g2; have mr3 := hR2.g3; have mr4 := hR2.g4; have mr5 := hR2.g5; have mr6 := hR2.g6; have mr7 := hR2.g7; have mr8 := hR2.g8; have mr9 := hR2.g9; have mr10 := hR2.g10; have mr11 := hR2.g11; have mc0 := hC2.c0; have mc1 := hC2.c1; have mc2 := hC2.c2; have mc3 := hC2.c3; have mc4 := hC2.c4; have mc5 := hC2.c5; have mc6 := hC2.c6; have mc7 := hC2.c7;  have hO2 := HH.out.2.2.1.fr hF2 id; have hB2 : BAt (w1.alloc (.cells #[.int .i64 At, .int .i64 N, .int .i64 1048576, .bool true, .bool false] 60 (0, 0))) w1.heap.size At N 1048576 true false := ⟨heap_alloc_new w1 _⟩; have HX2 : Hid _ := And.intro hC2 (And.intro hR2 (And.intro hO2 (And.intro hB2 hF2))); clear hF1 hF2 hR2 hC2 hO2 hB2)
    | (refine wpList_load_row rfl 70 (.tmp 2) rfl w.heap.size rfl 70 #[.slice ao l cap, .int .i64 1, .string sh, .int .i64 At, .int .i64 N, .string nm, .bool may, .bool home] (0, 0) _ HX2.out.1.o Tryd.underlying70 rfl info_change ?_)
    | (refine wpList_load_row rfl 46 (.tmp 3) rfl (w.heap.size + 1) rfl 46 #[.string t, .string u, .bool fx, .bool ar, .int .i64 r1, .int .i64 c1, .bool x1, .bool y1, .int .i64 r2, .int .i64 c2, .bool x2, .bool y2] (0, 0) _ HX2.out.2.1.o Tryd.underlying46 rfl info_ref ?_)
    | (go_at_call 66; refine (HN _).mono ?_; rintro e w2 ⟨rfl, hF3⟩; have HX3 : Hid _ := And.intro (HX2.out.2.1.fr hF3 id) (And.intro (HX2.out.2.2.1.fr hF3 id) (And.intro (HX2.out.2.2.2.1.fr hF3) (HX2.out.2.2.2.2.trans hF3))); have n0 := HX3.out.2.2.1.c0; have n1 := HX3.out.2.2.1.c1; have n2 := HX3.out.2.2.1.c2; have n3 := HX3.out.2.2.1.c3; have n4 := HX3.out.2.2.1.c4; clear hF3)
    | (refine wpList_load_row rfl 46 (.tmp 3) rfl (w.heap.size + 1) rfl 46 #[.string t, .string u, .bool fx, .bool ar, .int .i64 r1, .int .i64 c1, .bool x1, .bool y1, .int .i64 r2, .int .i64 c2, .bool x2, .bool y2] (0, 0) _ HX3.out.1.o Tryd.underlying46 rfl info_ref ?_)
    | (go_at_call 67; refine (HV.out _).mono ?_; rintro e w3 ⟨rfl, hF4⟩; have HX4 : Hid _ := And.intro (HX3.out.2.1.fr hF4 id) (HX3.out.2.2.2.trans hF4); clear hF4)
    | (refine wpList_store_row rfl 46 (.tmp 4) (.tmp 43) rfl (w.heap.size + 1 + 1) #[.string t, .string u, .bool fx, .bool ar, .int .i64 qa, .int .i64 c1, .bool x1, .bool y1, .int .i64 qb, .int .i64 c2, .bool x2, .bool y2] rfl rfl 46 _ HX4.out.1.o info_ref rfl (ref_one _ _ _ _ _ _ _ _ _ _ _ _) ?_))
  refine bodyPost_ret (rret2 rfl _ _ (w.heap.size + 1 + 1) rfl rfl (HX4.out.1.row t u fx ar qa c1 x1 y1 qb c2 x2 y2)) rfl ⟨rfl, (HH.out.2.2.2.trans HX4.out.2).setRowR _ (Or.inr (by omega)) _⟩
set_option maxRecDepth 100000 in
set_option maxHeartbeats 2000000 in
theorem changed_1go (ao : Option Addr) (l cap : Nat) (sh : ByteArray) (At N : Int) (nm : ByteArray) (may home : Bool) (t u : ByteArray) (fx ar : Bool) (r1 c1 : Int) (x1 y1 : Bool) (r2 c2 : Int) (x2 y2 : Bool) (w : World) (h1 : 0 ≤ At) (h2 : At ≤ 1048576) (h3 : 0 ≤ N) (h4 : N ≤ 1048576) (h7 : 0 ≤ r1) (h8 : r1 ≤ 1048576) (h9 : 0 ≤ r2) (h10 : r2 ≤ 1048576) (hu : u.toList.isEmpty = true) (ho : onB t sh home = true) (hs : stayB At N 1048576 true ar r1 r2 = false) :
    Calls Tryd.prog 53 #[.agg #[.slice ao l cap, .int .i64 1, .string sh, .int .i64 At, .int .i64 N, .string nm, .bool may, .bool home], (.agg #[.string t, .string u, .bool fx, .bool ar, .int .i64 r1, .int .i64 c1, .bool x1, .bool y1, .int .i64 r2, .int .i64 c2, .bool x2, .bool y2])] w fun e w' => e = .returned (.tuple #[(.agg #[.string ⟨#[]⟩, .string ⟨#[]⟩, .bool false, .bool false, .int .i64 0, .int .i64 0, .bool false, .bool false, .int .i64 0, .int .i64 0, .bool false, .bool false]), .bool false]) ∧ Fr noB w w' := by
  have HN := onSheet_any ao l cap 1 sh At N nm may home t u fx ar r1 c1 x1 y1 r2 c2 x2 y2
  rw [ho] at HN
  have HV : Hid (∀ W, Calls Tryd.prog 67 #[.agg #[.int .i64 At, .int .i64 N, .int .i64 1048576, .bool true, .bool false], (.agg #[.string t, .string u, .bool fx, .bool ar, .int .i64 r1, .int .i64 c1, .bool x1, .bool y1, .int .i64 r2, .int .i64 c2, .bool x2, .bool y2])] W fun e w' => e = .returned (.tuple #[(.agg #[.string ⟨#[]⟩, .string ⟨#[]⟩, .bool false, .bool false, .int .i64 0, .int .i64 0, .bool false, .bool false, .int .i64 0, .int .i64 0, .bool false, .bool false]), .bool false]) ∧ Fr noB W w') := fun W => by
    have := bref_false At N 1048576 true ar t u fx r1 c1 x1 y1 r2 c2 x2 y2 W h1 h2 h3 h4 (by omega) (by omega) h7 h8 h9 h10
    rw [hs, if_neg (by simp)] at this
    exact this
  obtain ⟨W0, hW0⟩ : ∃ W0, ((w.alloc (.cells #[.slice ao l cap, .int .i64 1, .string sh, .int .i64 At, .int .i64 N, .string nm, .bool may, .bool home] 70 (0, 0))).alloc (.cells #[.string t, .string u, .bool fx, .bool ar, .int .i64 r1, .int .i64 c1, .bool x1, .bool y1, .int .i64 r2, .int .i64 c2, .bool x2, .bool y2] 46 (0, 0))).alloc (.cells #[.string ⟨#[]⟩, .string ⟨#[]⟩, .bool false, .bool false, .int .i64 0, .int .i64 0, .bool false, .bool false, .int .i64 0, .int .i64 0, .bool false, .bool false] 46 (0, 0)) = W0 := ⟨_, rfl⟩
  have hC : HAt W0 w.heap.size ao l cap 1 sh At N nm may home := by rw [← hW0]; exact ⟨old1 (old1 (heap_alloc_new w _))⟩
  have hR : RAt W0 (w.heap.size + 1) t u fx ar r1 c1 x1 y1 r2 c2 x2 y2 := by rw [← hW0]; exact ⟨old1 (new1 _ _ _ (by simp))⟩
  have hO : RAt W0 (w.heap.size + 1 + 1) ⟨#[]⟩ ⟨#[]⟩ false false 0 0 false false 0 0 false false := by rw [← hW0]; exact ⟨new1 _ _ _ (by simp)⟩
  have hF0 : Fr noB w W0 := by rw [← hW0]; exact (((Fr.refl noB w).alloc _).alloc _).alloc _
  have HH : Hid _ := And.intro hC (And.intro hR (And.intro hO hF0))
  have k1 := hC.c1; have k2 := hC.c2; have k3 := hC.c3; have k4 := hC.c4; have k5 := hC.c5
  have HB := bandOf_1 sh At N nm
  clear hC hR hO hF0
  clear ho
  clear hs h1 h2 h3 h4 h7 h8 h9 h10
  go_enter Tryd.func53, Tryd.ntmps53
  go_wp2_with (first
    | (go_at_call 30; refine (HB _).mono ?_; rintro e w1 ⟨rfl, hF1⟩; have hF2 : Fr noB W0 (w1.alloc (.cells #[.int .i64 At, .int .i64 N, .int .i64 1048576, .bool true, .bool false] 60 (0, 0))) := hF1.alloc _; have hR2 := HH.out.2.1.fr hF2 id; have m1 := hR2.g1; have hC2 := HH.out.1.fr hF2; have mr0 := hR2.g0; have mr2 := hR2.g2; have mr3 := hR2.g3; have mr4 := hR2.g4; have mr5 := hR2.g5; have mr6 := hR2.g6; have mr7 := hR2.g7; have mr8 := hR2.g8; have mr9 := hR2.g9; have mr10 := hR2.g10; have mr11 := hR2.g11; have mc0 := hC2.c0; have mc1 := hC2.c1; have mc2 := hC2.c2; have mc3 := hC2.c3; have mc4 := hC2.c4; have mc5 := hC2.c5; have mc6 := hC2.c6; have mc7 := hC2.c7;  have hO2 := HH.out.2.2.1.fr hF2 id; have hB2 : BAt (w1.alloc (.cells #[.int .i64 At, .int .i64 N, .int .i64 1048576, .bool true, .bool false] 60 (0, 0))) w1.heap.size At N 1048576 true false := ⟨heap_alloc_new w1 _⟩; have HX2 : Hid _ := And.intro hC2 (And.intro hR2 (And.intro hO2 (And.intro hB2 hF2))); clear hF1 hF2 hR2 hC2 hO2 hB2)
    | (refine wpList_load_row rfl 70 (.tmp 2) rfl w.heap.size rfl 70 #[.slice ao l cap, .int .i64 1, .string sh, .int .i64 At, .int .i64 N, .string nm, .bool may, .bool home] (0, 0) _ HX2.out.1.o Tryd.underlying70 rfl info_change ?_)
    | (refine wpList_load_row rfl 46 (.tmp 3) rfl (w.heap.size + 1) rfl 46 #[.string t, .string u, .bool fx, .bool ar, .int .i64 r1, .int .i64 c1, .bool x1, .bool y1, .int .i64 r2, .int .i64 c2, .bool x2, .bool y2] (0, 0) _ HX2.out.2.1.o Tryd.underlying46 rfl info_ref ?_)
    | (go_at_call 66; refine (HN _).mono ?_; rintro e w2 ⟨rfl, hF3⟩; have HX3 : Hid _ := And.intro (HX2.out.2.1.fr hF3 id) (And.intro (HX2.out.2.2.1.fr hF3 id) (And.intro (HX2.out.2.2.2.1.fr hF3) (HX2.out.2.2.2.2.trans hF3))); have n0 := HX3.out.2.2.1.c0; have n1 := HX3.out.2.2.1.c1; have n2 := HX3.out.2.2.1.c2; have n3 := HX3.out.2.2.1.c3; have n4 := HX3.out.2.2.1.c4; clear hF3)
    | (refine wpList_load_row rfl 46 (.tmp 3) rfl (w.heap.size + 1) rfl 46 #[.string t, .string u, .bool fx, .bool ar, .int .i64 r1, .int .i64 c1, .bool x1, .bool y1, .int .i64 r2, .int .i64 c2, .bool x2, .bool y2] (0, 0) _ HX3.out.1.o Tryd.underlying46 rfl info_ref ?_)
    | (go_at_call 67; refine (HV.out _).mono ?_; rintro e w3 ⟨rfl, hF4⟩; have HX4 : Hid _ := And.intro (HX3.out.2.1.fr hF4 id) (HX3.out.2.2.2.trans hF4); clear hF4)
    | (refine wpList_store_row rfl 46 (.tmp 4) (.tmp 43) rfl (w.heap.size + 1 + 1) #[.string ⟨#[]⟩, .string ⟨#[]⟩, .bool false, .bool false, .int .i64 0, .int .i64 0, .bool false, .bool false, .int .i64 0, .int .i64 0, .bool false, .bool false] rfl rfl 46 _ HX4.out.1.o info_ref rfl (ref_one _ _ _ _ _ _ _ _ _ _ _ _) ?_))
  refine bodyPost_ret (rret2 rfl _ _ (w.heap.size + 1 + 1) rfl rfl (HX4.out.1.row ⟨#[]⟩ ⟨#[]⟩ false false 0 0 false false 0 0 false false)) rfl ⟨rfl, (HH.out.2.2.2.trans HX4.out.2).setRowR _ (Or.inr (by omega)) _⟩
set_option maxRecDepth 100000 in
set_option maxHeartbeats 2000000 in
theorem changed_2to (ao : Option Addr) (l cap : Nat) (sh : ByteArray) (At N : Int) (nm : ByteArray) (may home : Bool) (t u : ByteArray) (fx ar : Bool) (r1 c1 : Int) (x1 y1 : Bool) (r2 c2 : Int) (x2 y2 : Bool) (w : World) (hu : u.toList.isEmpty = false) :
    Calls Tryd.prog 53 #[.agg #[.slice ao l cap, .int .i64 2, .string sh, .int .i64 At, .int .i64 N, .string nm, .bool may, .bool home], (.agg #[.string t, .string u, .bool fx, .bool ar, .int .i64 r1, .int .i64 c1, .bool x1, .bool y1, .int .i64 r2, .int .i64 c2, .bool x2, .bool y2])] w fun e w' => e = .returned (.tuple #[(.agg #[.string t, .string u, .bool fx, .bool ar, .int .i64 r1, .int .i64 c1, .bool x1, .bool y1, .int .i64 r2, .int .i64 c2, .bool x2, .bool y2]), .bool true]) ∧ Fr noB w w' := by
  obtain ⟨W0, hW0⟩ : ∃ W0, ((w.alloc (.cells #[.slice ao l cap, .int .i64 2, .string sh, .int .i64 At, .int .i64 N, .string nm, .bool may, .bool home] 70 (0, 0))).alloc (.cells #[.string t, .string u, .bool fx, .bool ar, .int .i64 r1, .int .i64 c1, .bool x1, .bool y1, .int .i64 r2, .int .i64 c2, .bool x2, .bool y2] 46 (0, 0))).alloc (.cells #[.string ⟨#[]⟩, .string ⟨#[]⟩, .bool false, .bool false, .int .i64 0, .int .i64 0, .bool false, .bool false, .int .i64 0, .int .i64 0, .bool false, .bool false] 46 (0, 0)) = W0 := ⟨_, rfl⟩
  have hC : HAt W0 w.heap.size ao l cap 2 sh At N nm may home := by rw [← hW0]; exact ⟨old1 (old1 (heap_alloc_new w _))⟩
  have hR : RAt W0 (w.heap.size + 1) t u fx ar r1 c1 x1 y1 r2 c2 x2 y2 := by rw [← hW0]; exact ⟨old1 (new1 _ _ _ (by simp))⟩
  have hO : RAt W0 (w.heap.size + 1 + 1) ⟨#[]⟩ ⟨#[]⟩ false false 0 0 false false 0 0 false false := by rw [← hW0]; exact ⟨new1 _ _ _ (by simp)⟩
  have hF0 : Fr noB w W0 := by rw [← hW0]; exact (((Fr.refl noB w).alloc _).alloc _).alloc _
  have HH : Hid _ := And.intro hC (And.intro hR (And.intro hO hF0))
  have k1 := hC.c1; have k2 := hC.c2; have k3 := hC.c3; have k4 := hC.c4; have k5 := hC.c5
  have HB := bandOf_2 sh At N nm
  clear hC hR hO hF0
  go_enter Tryd.func53, Tryd.ntmps53
  go_wp2_with (first
    | (go_at_call 30; refine (HB _).mono ?_; rintro e w1 ⟨rfl, hF1⟩; have hF2 : Fr noB W0 (w1.alloc (.cells #[.int .i64 At, .int .i64 N, .int .i64 1048576, .bool false, .bool false] 60 (0, 0))) := hF1.alloc _; have hR2 := HH.out.2.1.fr hF2 id; have m1 := hR2.g1; have hC2 := HH.out.1.fr hF2;  have hO2 := HH.out.2.2.1.fr hF2 id; have hB2 : BAt (w1.alloc (.cells #[.int .i64 At, .int .i64 N, .int .i64 1048576, .bool false, .bool false] 60 (0, 0))) w1.heap.size At N 1048576 false false := ⟨heap_alloc_new w1 _⟩; have HX2 : Hid _ := And.intro hC2 (And.intro hR2 (And.intro hO2 (And.intro hB2 hF2))); clear hF1 hF2 hR2 hC2 hO2 hB2)
    | (refine wpList_load_row rfl 46 (.tmp 3) rfl (w.heap.size + 1) rfl 46 #[.string t, .string u, .bool fx, .bool ar, .int .i64 r1, .int .i64 c1, .bool x1, .bool y1, .int .i64 r2, .int .i64 c2, .bool x2, .bool y2] (0, 0) _ HX2.out.2.1.o Tryd.underlying46 rfl info_ref ?_)
    | (refine wpList_store_row rfl 46 (.tmp 4) (.tmp 45) rfl (w.heap.size + 1 + 1) #[.string t, .string u, .bool fx, .bool ar, .int .i64 r1, .int .i64 c1, .bool x1, .bool y1, .int .i64 r2, .int .i64 c2, .bool x2, .bool y2] rfl rfl 46 _ HX2.out.2.2.1.o info_ref rfl (ref_one _ _ _ _ _ _ _ _ _ _ _ _) ?_))
  refine bodyPost_ret (rret2 rfl _ _ (w.heap.size + 1 + 1) rfl rfl (HX2.out.2.2.1.row t u fx ar r1 c1 x1 y1 r2 c2 x2 y2)) rfl ⟨rfl, (HH.out.2.2.2.trans HX2.out.2.2.2.2).setRowR _ (Or.inr (by omega)) _⟩
set_option maxRecDepth 100000 in
set_option maxHeartbeats 2000000 in
theorem changed_2off (ao : Option Addr) (l cap : Nat) (sh : ByteArray) (At N : Int) (nm : ByteArray) (may home : Bool) (t u : ByteArray) (fx ar : Bool) (r1 c1 : Int) (x1 y1 : Bool) (r2 c2 : Int) (x2 y2 : Bool) (w : World) (hu : u.toList.isEmpty = true) (ho : onB t sh home = false) :
    Calls Tryd.prog 53 #[.agg #[.slice ao l cap, .int .i64 2, .string sh, .int .i64 At, .int .i64 N, .string nm, .bool may, .bool home], (.agg #[.string t, .string u, .bool fx, .bool ar, .int .i64 r1, .int .i64 c1, .bool x1, .bool y1, .int .i64 r2, .int .i64 c2, .bool x2, .bool y2])] w fun e w' => e = .returned (.tuple #[(.agg #[.string t, .string u, .bool fx, .bool ar, .int .i64 r1, .int .i64 c1, .bool x1, .bool y1, .int .i64 r2, .int .i64 c2, .bool x2, .bool y2]), .bool true]) ∧ Fr noB w w' := by
  have HN := onSheet_any ao l cap 2 sh At N nm may home t u fx ar r1 c1 x1 y1 r2 c2 x2 y2
  rw [ho] at HN
  obtain ⟨W0, hW0⟩ : ∃ W0, ((w.alloc (.cells #[.slice ao l cap, .int .i64 2, .string sh, .int .i64 At, .int .i64 N, .string nm, .bool may, .bool home] 70 (0, 0))).alloc (.cells #[.string t, .string u, .bool fx, .bool ar, .int .i64 r1, .int .i64 c1, .bool x1, .bool y1, .int .i64 r2, .int .i64 c2, .bool x2, .bool y2] 46 (0, 0))).alloc (.cells #[.string ⟨#[]⟩, .string ⟨#[]⟩, .bool false, .bool false, .int .i64 0, .int .i64 0, .bool false, .bool false, .int .i64 0, .int .i64 0, .bool false, .bool false] 46 (0, 0)) = W0 := ⟨_, rfl⟩
  have hC : HAt W0 w.heap.size ao l cap 2 sh At N nm may home := by rw [← hW0]; exact ⟨old1 (old1 (heap_alloc_new w _))⟩
  have hR : RAt W0 (w.heap.size + 1) t u fx ar r1 c1 x1 y1 r2 c2 x2 y2 := by rw [← hW0]; exact ⟨old1 (new1 _ _ _ (by simp))⟩
  have hO : RAt W0 (w.heap.size + 1 + 1) ⟨#[]⟩ ⟨#[]⟩ false false 0 0 false false 0 0 false false := by rw [← hW0]; exact ⟨new1 _ _ _ (by simp)⟩
  have hF0 : Fr noB w W0 := by rw [← hW0]; exact (((Fr.refl noB w).alloc _).alloc _).alloc _
  have HH : Hid _ := And.intro hC (And.intro hR (And.intro hO hF0))
  have k1 := hC.c1; have k2 := hC.c2; have k3 := hC.c3; have k4 := hC.c4; have k5 := hC.c5
  have HB := bandOf_2 sh At N nm
  clear hC hR hO hF0
  clear ho
  go_enter Tryd.func53, Tryd.ntmps53
  go_wp2_with (first
    | (go_at_call 30; refine (HB _).mono ?_; rintro e w1 ⟨rfl, hF1⟩; have hF2 : Fr noB W0 (w1.alloc (.cells #[.int .i64 At, .int .i64 N, .int .i64 1048576, .bool false, .bool false] 60 (0, 0))) := hF1.alloc _; have hR2 := HH.out.2.1.fr hF2 id; have m1 := hR2.g1; have hC2 := HH.out.1.fr hF2; have mr0 := hR2.g0; have mr2 := hR2.g2; have mr3 := hR2.g3; have mr4 := hR2.g4; have mr5 := hR2.g5; have mr6 := hR2.g6; have mr7 := hR2.g7; have mr8 := hR2.g8; have mr9 := hR2.g9; have mr10 := hR2.g10; have mr11 := hR2.g11; have mc0 := hC2.c0; have mc1 := hC2.c1; have mc2 := hC2.c2; have mc3 := hC2.c3; have mc4 := hC2.c4; have mc5 := hC2.c5; have mc6 := hC2.c6; have mc7 := hC2.c7;  have hO2 := HH.out.2.2.1.fr hF2 id; have hB2 : BAt (w1.alloc (.cells #[.int .i64 At, .int .i64 N, .int .i64 1048576, .bool false, .bool false] 60 (0, 0))) w1.heap.size At N 1048576 false false := ⟨heap_alloc_new w1 _⟩; have HX2 : Hid _ := And.intro hC2 (And.intro hR2 (And.intro hO2 (And.intro hB2 hF2))); clear hF1 hF2 hR2 hC2 hO2 hB2)
    | (refine wpList_load_row rfl 70 (.tmp 2) rfl w.heap.size rfl 70 #[.slice ao l cap, .int .i64 2, .string sh, .int .i64 At, .int .i64 N, .string nm, .bool may, .bool home] (0, 0) _ HX2.out.1.o Tryd.underlying70 rfl info_change ?_)
    | (refine wpList_load_row rfl 46 (.tmp 3) rfl (w.heap.size + 1) rfl 46 #[.string t, .string u, .bool fx, .bool ar, .int .i64 r1, .int .i64 c1, .bool x1, .bool y1, .int .i64 r2, .int .i64 c2, .bool x2, .bool y2] (0, 0) _ HX2.out.2.1.o Tryd.underlying46 rfl info_ref ?_)
    | (go_at_call 66; refine (HN _).mono ?_; rintro e w2 ⟨rfl, hF3⟩; have HX3 : Hid _ := And.intro (HX2.out.2.1.fr hF3 id) (And.intro (HX2.out.2.2.1.fr hF3 id) (And.intro (HX2.out.2.2.2.1.fr hF3) (HX2.out.2.2.2.2.trans hF3))); have n0 := HX3.out.2.2.1.c0; have n1 := HX3.out.2.2.1.c1; have n2 := HX3.out.2.2.1.c2; have n3 := HX3.out.2.2.1.c3; have n4 := HX3.out.2.2.1.c4; clear hF3)
    | (refine wpList_load_row rfl 46 (.tmp 3) rfl (w.heap.size + 1) rfl 46 #[.string t, .string u, .bool fx, .bool ar, .int .i64 r1, .int .i64 c1, .bool x1, .bool y1, .int .i64 r2, .int .i64 c2, .bool x2, .bool y2] (0, 0) _ HX3.out.1.o Tryd.underlying46 rfl info_ref ?_)
    | (refine wpList_store_row rfl 46 (.tmp 4) (.tmp 45) rfl (w.heap.size + 1 + 1) #[.string t, .string u, .bool fx, .bool ar, .int .i64 r1, .int .i64 c1, .bool x1, .bool y1, .int .i64 r2, .int .i64 c2, .bool x2, .bool y2] rfl rfl 46 _ HX3.out.2.1.o info_ref rfl (ref_one _ _ _ _ _ _ _ _ _ _ _ _) ?_))
  refine bodyPost_ret (rret2 rfl _ _ (w.heap.size + 1 + 1) rfl rfl (HX3.out.2.1.row t u fx ar r1 c1 x1 y1 r2 c2 x2 y2)) rfl ⟨rfl, (HH.out.2.2.2.trans HX3.out.2.2.2).setRowR _ (Or.inr (by omega)) _⟩
set_option maxRecDepth 100000 in
set_option maxHeartbeats 2000000 in
theorem changed_2on (ao : Option Addr) (l cap : Nat) (sh : ByteArray) (At N : Int) (nm : ByteArray) (may home : Bool) (t u : ByteArray) (fx ar : Bool) (r1 c1 : Int) (x1 y1 : Bool) (r2 c2 : Int) (x2 y2 : Bool) (w : World) (h1 : 0 ≤ At) (h2 : At ≤ 1048576) (h3 : 0 ≤ N) (h4 : N ≤ 1048576) (h7 : 0 ≤ r1) (h8 : r1 ≤ 1048576) (h9 : 0 ≤ r2) (h10 : r2 ≤ 1048576) (hu : u.toList.isEmpty = true) (ho : onB t sh home = true) (hs : stayB At N 1048576 false ar r1 r2 = true) :
    Calls Tryd.prog 53 #[.agg #[.slice ao l cap, .int .i64 2, .string sh, .int .i64 At, .int .i64 N, .string nm, .bool may, .bool home], (.agg #[.string t, .string u, .bool fx, .bool ar, .int .i64 r1, .int .i64 c1, .bool x1, .bool y1, .int .i64 r2, .int .i64 c2, .bool x2, .bool y2])] w fun e w' => e = .returned (.tuple #[(.agg #[.string t, .string u, .bool fx, .bool ar, .int .i64 (nwA At N 1048576 false ar r1 r2), .int .i64 c1, .bool x1, .bool y1, .int .i64 (nwB At N 1048576 false ar r1 r2), .int .i64 c2, .bool x2, .bool y2]), .bool true]) ∧ Fr noB w w' := by
  have HN := onSheet_any ao l cap 2 sh At N nm may home t u fx ar r1 c1 x1 y1 r2 c2 x2 y2
  rw [ho] at HN
  have HV : Hid (∀ W, Calls Tryd.prog 67 #[.agg #[.int .i64 At, .int .i64 N, .int .i64 1048576, .bool false, .bool false], (.agg #[.string t, .string u, .bool fx, .bool ar, .int .i64 r1, .int .i64 c1, .bool x1, .bool y1, .int .i64 r2, .int .i64 c2, .bool x2, .bool y2])] W fun e w' => e = .returned (.tuple #[(.agg #[.string t, .string u, .bool fx, .bool ar, .int .i64 (nwA At N 1048576 false ar r1 r2), .int .i64 c1, .bool x1, .bool y1, .int .i64 (nwB At N 1048576 false ar r1 r2), .int .i64 c2, .bool x2, .bool y2]), .bool true]) ∧ Fr noB W w') := fun W => by
    have := bref_false At N 1048576 false ar t u fx r1 c1 x1 y1 r2 c2 x2 y2 W h1 h2 h3 h4 (by omega) (by omega) h7 h8 h9 h10
    rw [hs, if_pos rfl] at this
    exact this
  obtain ⟨W0, hW0⟩ : ∃ W0, ((w.alloc (.cells #[.slice ao l cap, .int .i64 2, .string sh, .int .i64 At, .int .i64 N, .string nm, .bool may, .bool home] 70 (0, 0))).alloc (.cells #[.string t, .string u, .bool fx, .bool ar, .int .i64 r1, .int .i64 c1, .bool x1, .bool y1, .int .i64 r2, .int .i64 c2, .bool x2, .bool y2] 46 (0, 0))).alloc (.cells #[.string ⟨#[]⟩, .string ⟨#[]⟩, .bool false, .bool false, .int .i64 0, .int .i64 0, .bool false, .bool false, .int .i64 0, .int .i64 0, .bool false, .bool false] 46 (0, 0)) = W0 := ⟨_, rfl⟩
  have hC : HAt W0 w.heap.size ao l cap 2 sh At N nm may home := by rw [← hW0]; exact ⟨old1 (old1 (heap_alloc_new w _))⟩
  have hR : RAt W0 (w.heap.size + 1) t u fx ar r1 c1 x1 y1 r2 c2 x2 y2 := by rw [← hW0]; exact ⟨old1 (new1 _ _ _ (by simp))⟩
  have hO : RAt W0 (w.heap.size + 1 + 1) ⟨#[]⟩ ⟨#[]⟩ false false 0 0 false false 0 0 false false := by rw [← hW0]; exact ⟨new1 _ _ _ (by simp)⟩
  have hF0 : Fr noB w W0 := by rw [← hW0]; exact (((Fr.refl noB w).alloc _).alloc _).alloc _
  have HH : Hid _ := And.intro hC (And.intro hR (And.intro hO hF0))
  have k1 := hC.c1; have k2 := hC.c2; have k3 := hC.c3; have k4 := hC.c4; have k5 := hC.c5
  have HB := bandOf_2 sh At N nm
  clear hC hR hO hF0
  clear ho
  clear hs h1 h2 h3 h4 h7 h8 h9 h10
  generalize nwA At N 1048576 false ar r1 r2 = qa at *
  generalize nwB At N 1048576 false ar r1 r2 = qb at *
  go_enter Tryd.func53, Tryd.ntmps53
  go_wp2_with (first
    | (go_at_call 30; refine (HB _).mono ?_; rintro e w1 ⟨rfl, hF1⟩; have hF2 : Fr noB W0 (w1.alloc (.cells #[.int .i64 At, .int .i64 N, .int .i64 1048576, .bool false, .bool false] 60 (0, 0))) := hF1.alloc _; have hR2 := HH.out.2.1.fr hF2 id; have m1 := hR2.g1; have hC2 := HH.out.1.fr hF2; have mr0 := hR2.g0; have mr2 := hR2.g2; have mr3 := hR2.g3; have mr4 := hR2.g4; have mr5 := hR2.g5; have mr6 := hR2.g6; have mr7 := hR2.g7; have mr8 := hR2.g8; have mr9 := hR2.g9; have mr10 := hR2.g10; have mr11 := hR2.g11; have mc0 := hC2.c0; have mc1 := hC2.c1; have mc2 := hC2.c2; have mc3 := hC2.c3; have mc4 := hC2.c4; have mc5 := hC2.c5; have mc6 := hC2.c6; have mc7 := hC2.c7;  have hO2 := HH.out.2.2.1.fr hF2 id; have hB2 : BAt (w1.alloc (.cells #[.int .i64 At, .int .i64 N, .int .i64 1048576, .bool false, .bool false] 60 (0, 0))) w1.heap.size At N 1048576 false false := ⟨heap_alloc_new w1 _⟩; have HX2 : Hid _ := And.intro hC2 (And.intro hR2 (And.intro hO2 (And.intro hB2 hF2))); clear hF1 hF2 hR2 hC2 hO2 hB2)
    | (refine wpList_load_row rfl 70 (.tmp 2) rfl w.heap.size rfl 70 #[.slice ao l cap, .int .i64 2, .string sh, .int .i64 At, .int .i64 N, .string nm, .bool may, .bool home] (0, 0) _ HX2.out.1.o Tryd.underlying70 rfl info_change ?_)
    | (refine wpList_load_row rfl 46 (.tmp 3) rfl (w.heap.size + 1) rfl 46 #[.string t, .string u, .bool fx, .bool ar, .int .i64 r1, .int .i64 c1, .bool x1, .bool y1, .int .i64 r2, .int .i64 c2, .bool x2, .bool y2] (0, 0) _ HX2.out.2.1.o Tryd.underlying46 rfl info_ref ?_)
    | (go_at_call 66; refine (HN _).mono ?_; rintro e w2 ⟨rfl, hF3⟩; have HX3 : Hid _ := And.intro (HX2.out.2.1.fr hF3 id) (And.intro (HX2.out.2.2.1.fr hF3 id) (And.intro (HX2.out.2.2.2.1.fr hF3) (HX2.out.2.2.2.2.trans hF3))); have n0 := HX3.out.2.2.1.c0; have n1 := HX3.out.2.2.1.c1; have n2 := HX3.out.2.2.1.c2; have n3 := HX3.out.2.2.1.c3; have n4 := HX3.out.2.2.1.c4; clear hF3)
    | (refine wpList_load_row rfl 46 (.tmp 3) rfl (w.heap.size + 1) rfl 46 #[.string t, .string u, .bool fx, .bool ar, .int .i64 r1, .int .i64 c1, .bool x1, .bool y1, .int .i64 r2, .int .i64 c2, .bool x2, .bool y2] (0, 0) _ HX3.out.1.o Tryd.underlying46 rfl info_ref ?_)
    | (go_at_call 67; refine (HV.out _).mono ?_; rintro e w3 ⟨rfl, hF4⟩; have HX4 : Hid _ := And.intro (HX3.out.2.1.fr hF4 id) (HX3.out.2.2.2.trans hF4); clear hF4)
    | (refine wpList_store_row rfl 46 (.tmp 4) (.tmp 43) rfl (w.heap.size + 1 + 1) #[.string t, .string u, .bool fx, .bool ar, .int .i64 qa, .int .i64 c1, .bool x1, .bool y1, .int .i64 qb, .int .i64 c2, .bool x2, .bool y2] rfl rfl 46 _ HX4.out.1.o info_ref rfl (ref_one _ _ _ _ _ _ _ _ _ _ _ _) ?_))
  refine bodyPost_ret (rret2 rfl _ _ (w.heap.size + 1 + 1) rfl rfl (HX4.out.1.row t u fx ar qa c1 x1 y1 qb c2 x2 y2)) rfl ⟨rfl, (HH.out.2.2.2.trans HX4.out.2).setRowR _ (Or.inr (by omega)) _⟩
set_option maxRecDepth 100000 in
set_option maxHeartbeats 2000000 in
theorem changed_2go (ao : Option Addr) (l cap : Nat) (sh : ByteArray) (At N : Int) (nm : ByteArray) (may home : Bool) (t u : ByteArray) (fx ar : Bool) (r1 c1 : Int) (x1 y1 : Bool) (r2 c2 : Int) (x2 y2 : Bool) (w : World) (h1 : 0 ≤ At) (h2 : At ≤ 1048576) (h3 : 0 ≤ N) (h4 : N ≤ 1048576) (h7 : 0 ≤ r1) (h8 : r1 ≤ 1048576) (h9 : 0 ≤ r2) (h10 : r2 ≤ 1048576) (hu : u.toList.isEmpty = true) (ho : onB t sh home = true) (hs : stayB At N 1048576 false ar r1 r2 = false) :
    Calls Tryd.prog 53 #[.agg #[.slice ao l cap, .int .i64 2, .string sh, .int .i64 At, .int .i64 N, .string nm, .bool may, .bool home], (.agg #[.string t, .string u, .bool fx, .bool ar, .int .i64 r1, .int .i64 c1, .bool x1, .bool y1, .int .i64 r2, .int .i64 c2, .bool x2, .bool y2])] w fun e w' => e = .returned (.tuple #[(.agg #[.string ⟨#[]⟩, .string ⟨#[]⟩, .bool false, .bool false, .int .i64 0, .int .i64 0, .bool false, .bool false, .int .i64 0, .int .i64 0, .bool false, .bool false]), .bool false]) ∧ Fr noB w w' := by
  have HN := onSheet_any ao l cap 2 sh At N nm may home t u fx ar r1 c1 x1 y1 r2 c2 x2 y2
  rw [ho] at HN
  have HV : Hid (∀ W, Calls Tryd.prog 67 #[.agg #[.int .i64 At, .int .i64 N, .int .i64 1048576, .bool false, .bool false], (.agg #[.string t, .string u, .bool fx, .bool ar, .int .i64 r1, .int .i64 c1, .bool x1, .bool y1, .int .i64 r2, .int .i64 c2, .bool x2, .bool y2])] W fun e w' => e = .returned (.tuple #[(.agg #[.string ⟨#[]⟩, .string ⟨#[]⟩, .bool false, .bool false, .int .i64 0, .int .i64 0, .bool false, .bool false, .int .i64 0, .int .i64 0, .bool false, .bool false]), .bool false]) ∧ Fr noB W w') := fun W => by
    have := bref_false At N 1048576 false ar t u fx r1 c1 x1 y1 r2 c2 x2 y2 W h1 h2 h3 h4 (by omega) (by omega) h7 h8 h9 h10
    rw [hs, if_neg (by simp)] at this
    exact this
  obtain ⟨W0, hW0⟩ : ∃ W0, ((w.alloc (.cells #[.slice ao l cap, .int .i64 2, .string sh, .int .i64 At, .int .i64 N, .string nm, .bool may, .bool home] 70 (0, 0))).alloc (.cells #[.string t, .string u, .bool fx, .bool ar, .int .i64 r1, .int .i64 c1, .bool x1, .bool y1, .int .i64 r2, .int .i64 c2, .bool x2, .bool y2] 46 (0, 0))).alloc (.cells #[.string ⟨#[]⟩, .string ⟨#[]⟩, .bool false, .bool false, .int .i64 0, .int .i64 0, .bool false, .bool false, .int .i64 0, .int .i64 0, .bool false, .bool false] 46 (0, 0)) = W0 := ⟨_, rfl⟩
  have hC : HAt W0 w.heap.size ao l cap 2 sh At N nm may home := by rw [← hW0]; exact ⟨old1 (old1 (heap_alloc_new w _))⟩
  have hR : RAt W0 (w.heap.size + 1) t u fx ar r1 c1 x1 y1 r2 c2 x2 y2 := by rw [← hW0]; exact ⟨old1 (new1 _ _ _ (by simp))⟩
  have hO : RAt W0 (w.heap.size + 1 + 1) ⟨#[]⟩ ⟨#[]⟩ false false 0 0 false false 0 0 false false := by rw [← hW0]; exact ⟨new1 _ _ _ (by simp)⟩
  have hF0 : Fr noB w W0 := by rw [← hW0]; exact (((Fr.refl noB w).alloc _).alloc _).alloc _
  have HH : Hid _ := And.intro hC (And.intro hR (And.intro hO hF0))
  have k1 := hC.c1; have k2 := hC.c2; have k3 := hC.c3; have k4 := hC.c4; have k5 := hC.c5
  have HB := bandOf_2 sh At N nm
  clear hC hR hO hF0
  clear ho
  clear hs h1 h2 h3 h4 h7 h8 h9 h10
  go_enter Tryd.func53, Tryd.ntmps53
  go_wp2_with (first
    | (go_at_call 30; refine (HB _).mono ?_; rintro e w1 ⟨rfl, hF1⟩; have hF2 : Fr noB W0 (w1.alloc (.cells #[.int .i64 At, .int .i64 N, .int .i64 1048576, .bool false, .bool false] 60 (0, 0))) := hF1.alloc _; have hR2 := HH.out.2.1.fr hF2 id; have m1 := hR2.g1; have hC2 := HH.out.1.fr hF2; have mr0 := hR2.g0; have mr2 := hR2.g2; have mr3 := hR2.g3; have mr4 := hR2.g4; have mr5 := hR2.g5; have mr6 := hR2.g6; have mr7 := hR2.g7; have mr8 := hR2.g8; have mr9 := hR2.g9; have mr10 := hR2.g10; have mr11 := hR2.g11; have mc0 := hC2.c0; have mc1 := hC2.c1; have mc2 := hC2.c2; have mc3 := hC2.c3; have mc4 := hC2.c4; have mc5 := hC2.c5; have mc6 := hC2.c6; have mc7 := hC2.c7;  have hO2 := HH.out.2.2.1.fr hF2 id; have hB2 : BAt (w1.alloc (.cells #[.int .i64 At, .int .i64 N, .int .i64 1048576, .bool false, .bool false] 60 (0, 0))) w1.heap.size At N 1048576 false false := ⟨heap_alloc_new w1 _⟩; have HX2 : Hid _ := And.intro hC2 (And.intro hR2 (And.intro hO2 (And.intro hB2 hF2))); clear hF1 hF2 hR2 hC2 hO2 hB2)
    | (refine wpList_load_row rfl 70 (.tmp 2) rfl w.heap.size rfl 70 #[.slice ao l cap, .int .i64 2, .string sh, .int .i64 At, .int .i64 N, .string nm, .bool may, .bool home] (0, 0) _ HX2.out.1.o Tryd.underlying70 rfl info_change ?_)
    | (refine wpList_load_row rfl 46 (.tmp 3) rfl (w.heap.size + 1) rfl 46 #[.string t, .string u, .bool fx, .bool ar, .int .i64 r1, .int .i64 c1, .bool x1, .bool y1, .int .i64 r2, .int .i64 c2, .bool x2, .bool y2] (0, 0) _ HX2.out.2.1.o Tryd.underlying46 rfl info_ref ?_)
    | (go_at_call 66; refine (HN _).mono ?_; rintro e w2 ⟨rfl, hF3⟩; have HX3 : Hid _ := And.intro (HX2.out.2.1.fr hF3 id) (And.intro (HX2.out.2.2.1.fr hF3 id) (And.intro (HX2.out.2.2.2.1.fr hF3) (HX2.out.2.2.2.2.trans hF3))); have n0 := HX3.out.2.2.1.c0; have n1 := HX3.out.2.2.1.c1; have n2 := HX3.out.2.2.1.c2; have n3 := HX3.out.2.2.1.c3; have n4 := HX3.out.2.2.1.c4; clear hF3)
    | (refine wpList_load_row rfl 46 (.tmp 3) rfl (w.heap.size + 1) rfl 46 #[.string t, .string u, .bool fx, .bool ar, .int .i64 r1, .int .i64 c1, .bool x1, .bool y1, .int .i64 r2, .int .i64 c2, .bool x2, .bool y2] (0, 0) _ HX3.out.1.o Tryd.underlying46 rfl info_ref ?_)
    | (go_at_call 67; refine (HV.out _).mono ?_; rintro e w3 ⟨rfl, hF4⟩; have HX4 : Hid _ := And.intro (HX3.out.2.1.fr hF4 id) (HX3.out.2.2.2.trans hF4); clear hF4)
    | (refine wpList_store_row rfl 46 (.tmp 4) (.tmp 43) rfl (w.heap.size + 1 + 1) #[.string ⟨#[]⟩, .string ⟨#[]⟩, .bool false, .bool false, .int .i64 0, .int .i64 0, .bool false, .bool false, .int .i64 0, .int .i64 0, .bool false, .bool false] rfl rfl 46 _ HX4.out.1.o info_ref rfl (ref_one _ _ _ _ _ _ _ _ _ _ _ _) ?_))
  refine bodyPost_ret (rret2 rfl _ _ (w.heap.size + 1 + 1) rfl rfl (HX4.out.1.row ⟨#[]⟩ ⟨#[]⟩ false false 0 0 false false 0 0 false false)) rfl ⟨rfl, (HH.out.2.2.2.trans HX4.out.2).setRowR _ (Or.inr (by omega)) _⟩
set_option maxRecDepth 100000 in
set_option maxHeartbeats 2000000 in
theorem changed_3to (ao : Option Addr) (l cap : Nat) (sh : ByteArray) (At N : Int) (nm : ByteArray) (may home : Bool) (t u : ByteArray) (fx ar : Bool) (r1 c1 : Int) (x1 y1 : Bool) (r2 c2 : Int) (x2 y2 : Bool) (w : World) (hu : u.toList.isEmpty = false) :
    Calls Tryd.prog 53 #[.agg #[.slice ao l cap, .int .i64 3, .string sh, .int .i64 At, .int .i64 N, .string nm, .bool may, .bool home], (.agg #[.string t, .string u, .bool fx, .bool ar, .int .i64 r1, .int .i64 c1, .bool x1, .bool y1, .int .i64 r2, .int .i64 c2, .bool x2, .bool y2])] w fun e w' => e = .returned (.tuple #[(.agg #[.string t, .string u, .bool fx, .bool ar, .int .i64 r1, .int .i64 c1, .bool x1, .bool y1, .int .i64 r2, .int .i64 c2, .bool x2, .bool y2]), .bool true]) ∧ Fr noB w w' := by
  obtain ⟨W0, hW0⟩ : ∃ W0, ((w.alloc (.cells #[.slice ao l cap, .int .i64 3, .string sh, .int .i64 At, .int .i64 N, .string nm, .bool may, .bool home] 70 (0, 0))).alloc (.cells #[.string t, .string u, .bool fx, .bool ar, .int .i64 r1, .int .i64 c1, .bool x1, .bool y1, .int .i64 r2, .int .i64 c2, .bool x2, .bool y2] 46 (0, 0))).alloc (.cells #[.string ⟨#[]⟩, .string ⟨#[]⟩, .bool false, .bool false, .int .i64 0, .int .i64 0, .bool false, .bool false, .int .i64 0, .int .i64 0, .bool false, .bool false] 46 (0, 0)) = W0 := ⟨_, rfl⟩
  have hC : HAt W0 w.heap.size ao l cap 3 sh At N nm may home := by rw [← hW0]; exact ⟨old1 (old1 (heap_alloc_new w _))⟩
  have hR : RAt W0 (w.heap.size + 1) t u fx ar r1 c1 x1 y1 r2 c2 x2 y2 := by rw [← hW0]; exact ⟨old1 (new1 _ _ _ (by simp))⟩
  have hO : RAt W0 (w.heap.size + 1 + 1) ⟨#[]⟩ ⟨#[]⟩ false false 0 0 false false 0 0 false false := by rw [← hW0]; exact ⟨new1 _ _ _ (by simp)⟩
  have hF0 : Fr noB w W0 := by rw [← hW0]; exact (((Fr.refl noB w).alloc _).alloc _).alloc _
  have HH : Hid _ := And.intro hC (And.intro hR (And.intro hO hF0))
  have k1 := hC.c1; have k2 := hC.c2; have k3 := hC.c3; have k4 := hC.c4; have k5 := hC.c5
  have HB := bandOf_3 sh At N nm
  clear hC hR hO hF0
  go_enter Tryd.func53, Tryd.ntmps53
  go_wp2_with (first
    | (go_at_call 30; refine (HB _).mono ?_; rintro e w1 ⟨rfl, hF1⟩; have hF2 : Fr noB W0 (w1.alloc (.cells #[.int .i64 At, .int .i64 N, .int .i64 1024, .bool true, .bool true] 60 (0, 0))) := hF1.alloc _; have hR2 := HH.out.2.1.fr hF2 id; have m1 := hR2.g1; have hC2 := HH.out.1.fr hF2;  have hO2 := HH.out.2.2.1.fr hF2 id; have hB2 : BAt (w1.alloc (.cells #[.int .i64 At, .int .i64 N, .int .i64 1024, .bool true, .bool true] 60 (0, 0))) w1.heap.size At N 1024 true true := ⟨heap_alloc_new w1 _⟩; have HX2 : Hid _ := And.intro hC2 (And.intro hR2 (And.intro hO2 (And.intro hB2 hF2))); clear hF1 hF2 hR2 hC2 hO2 hB2)
    | (refine wpList_load_row rfl 46 (.tmp 3) rfl (w.heap.size + 1) rfl 46 #[.string t, .string u, .bool fx, .bool ar, .int .i64 r1, .int .i64 c1, .bool x1, .bool y1, .int .i64 r2, .int .i64 c2, .bool x2, .bool y2] (0, 0) _ HX2.out.2.1.o Tryd.underlying46 rfl info_ref ?_)
    | (refine wpList_store_row rfl 46 (.tmp 4) (.tmp 45) rfl (w.heap.size + 1 + 1) #[.string t, .string u, .bool fx, .bool ar, .int .i64 r1, .int .i64 c1, .bool x1, .bool y1, .int .i64 r2, .int .i64 c2, .bool x2, .bool y2] rfl rfl 46 _ HX2.out.2.2.1.o info_ref rfl (ref_one _ _ _ _ _ _ _ _ _ _ _ _) ?_))
  refine bodyPost_ret (rret2 rfl _ _ (w.heap.size + 1 + 1) rfl rfl (HX2.out.2.2.1.row t u fx ar r1 c1 x1 y1 r2 c2 x2 y2)) rfl ⟨rfl, (HH.out.2.2.2.trans HX2.out.2.2.2.2).setRowR _ (Or.inr (by omega)) _⟩
set_option maxRecDepth 100000 in
set_option maxHeartbeats 2000000 in
theorem changed_3off (ao : Option Addr) (l cap : Nat) (sh : ByteArray) (At N : Int) (nm : ByteArray) (may home : Bool) (t u : ByteArray) (fx ar : Bool) (r1 c1 : Int) (x1 y1 : Bool) (r2 c2 : Int) (x2 y2 : Bool) (w : World) (hu : u.toList.isEmpty = true) (ho : onB t sh home = false) :
    Calls Tryd.prog 53 #[.agg #[.slice ao l cap, .int .i64 3, .string sh, .int .i64 At, .int .i64 N, .string nm, .bool may, .bool home], (.agg #[.string t, .string u, .bool fx, .bool ar, .int .i64 r1, .int .i64 c1, .bool x1, .bool y1, .int .i64 r2, .int .i64 c2, .bool x2, .bool y2])] w fun e w' => e = .returned (.tuple #[(.agg #[.string t, .string u, .bool fx, .bool ar, .int .i64 r1, .int .i64 c1, .bool x1, .bool y1, .int .i64 r2, .int .i64 c2, .bool x2, .bool y2]), .bool true]) ∧ Fr noB w w' := by
  have HN := onSheet_any ao l cap 3 sh At N nm may home t u fx ar r1 c1 x1 y1 r2 c2 x2 y2
  rw [ho] at HN
  obtain ⟨W0, hW0⟩ : ∃ W0, ((w.alloc (.cells #[.slice ao l cap, .int .i64 3, .string sh, .int .i64 At, .int .i64 N, .string nm, .bool may, .bool home] 70 (0, 0))).alloc (.cells #[.string t, .string u, .bool fx, .bool ar, .int .i64 r1, .int .i64 c1, .bool x1, .bool y1, .int .i64 r2, .int .i64 c2, .bool x2, .bool y2] 46 (0, 0))).alloc (.cells #[.string ⟨#[]⟩, .string ⟨#[]⟩, .bool false, .bool false, .int .i64 0, .int .i64 0, .bool false, .bool false, .int .i64 0, .int .i64 0, .bool false, .bool false] 46 (0, 0)) = W0 := ⟨_, rfl⟩
  have hC : HAt W0 w.heap.size ao l cap 3 sh At N nm may home := by rw [← hW0]; exact ⟨old1 (old1 (heap_alloc_new w _))⟩
  have hR : RAt W0 (w.heap.size + 1) t u fx ar r1 c1 x1 y1 r2 c2 x2 y2 := by rw [← hW0]; exact ⟨old1 (new1 _ _ _ (by simp))⟩
  have hO : RAt W0 (w.heap.size + 1 + 1) ⟨#[]⟩ ⟨#[]⟩ false false 0 0 false false 0 0 false false := by rw [← hW0]; exact ⟨new1 _ _ _ (by simp)⟩
  have hF0 : Fr noB w W0 := by rw [← hW0]; exact (((Fr.refl noB w).alloc _).alloc _).alloc _
  have HH : Hid _ := And.intro hC (And.intro hR (And.intro hO hF0))
  have k1 := hC.c1; have k2 := hC.c2; have k3 := hC.c3; have k4 := hC.c4; have k5 := hC.c5
  have HB := bandOf_3 sh At N nm
  clear hC hR hO hF0
  clear ho
  go_enter Tryd.func53, Tryd.ntmps53
  go_wp2_with (first
    | (go_at_call 30; refine (HB _).mono ?_; rintro e w1 ⟨rfl, hF1⟩; have hF2 : Fr noB W0 (w1.alloc (.cells #[.int .i64 At, .int .i64 N, .int .i64 1024, .bool true, .bool true] 60 (0, 0))) := hF1.alloc _; have hR2 := HH.out.2.1.fr hF2 id; have m1 := hR2.g1; have hC2 := HH.out.1.fr hF2; have mr0 := hR2.g0; have mr2 := hR2.g2; have mr3 := hR2.g3; have mr4 := hR2.g4; have mr5 := hR2.g5; have mr6 := hR2.g6; have mr7 := hR2.g7; have mr8 := hR2.g8; have mr9 := hR2.g9; have mr10 := hR2.g10; have mr11 := hR2.g11; have mc0 := hC2.c0; have mc1 := hC2.c1; have mc2 := hC2.c2; have mc3 := hC2.c3; have mc4 := hC2.c4; have mc5 := hC2.c5; have mc6 := hC2.c6; have mc7 := hC2.c7;  have hO2 := HH.out.2.2.1.fr hF2 id; have hB2 : BAt (w1.alloc (.cells #[.int .i64 At, .int .i64 N, .int .i64 1024, .bool true, .bool true] 60 (0, 0))) w1.heap.size At N 1024 true true := ⟨heap_alloc_new w1 _⟩; have HX2 : Hid _ := And.intro hC2 (And.intro hR2 (And.intro hO2 (And.intro hB2 hF2))); clear hF1 hF2 hR2 hC2 hO2 hB2)
    | (refine wpList_load_row rfl 70 (.tmp 2) rfl w.heap.size rfl 70 #[.slice ao l cap, .int .i64 3, .string sh, .int .i64 At, .int .i64 N, .string nm, .bool may, .bool home] (0, 0) _ HX2.out.1.o Tryd.underlying70 rfl info_change ?_)
    | (refine wpList_load_row rfl 46 (.tmp 3) rfl (w.heap.size + 1) rfl 46 #[.string t, .string u, .bool fx, .bool ar, .int .i64 r1, .int .i64 c1, .bool x1, .bool y1, .int .i64 r2, .int .i64 c2, .bool x2, .bool y2] (0, 0) _ HX2.out.2.1.o Tryd.underlying46 rfl info_ref ?_)
    | (go_at_call 66; refine (HN _).mono ?_; rintro e w2 ⟨rfl, hF3⟩; have HX3 : Hid _ := And.intro (HX2.out.2.1.fr hF3 id) (And.intro (HX2.out.2.2.1.fr hF3 id) (And.intro (HX2.out.2.2.2.1.fr hF3) (HX2.out.2.2.2.2.trans hF3))); have n0 := HX3.out.2.2.1.c0; have n1 := HX3.out.2.2.1.c1; have n2 := HX3.out.2.2.1.c2; have n3 := HX3.out.2.2.1.c3; have n4 := HX3.out.2.2.1.c4; clear hF3)
    | (refine wpList_load_row rfl 46 (.tmp 3) rfl (w.heap.size + 1) rfl 46 #[.string t, .string u, .bool fx, .bool ar, .int .i64 r1, .int .i64 c1, .bool x1, .bool y1, .int .i64 r2, .int .i64 c2, .bool x2, .bool y2] (0, 0) _ HX3.out.1.o Tryd.underlying46 rfl info_ref ?_)
    | (refine wpList_store_row rfl 46 (.tmp 4) (.tmp 45) rfl (w.heap.size + 1 + 1) #[.string t, .string u, .bool fx, .bool ar, .int .i64 r1, .int .i64 c1, .bool x1, .bool y1, .int .i64 r2, .int .i64 c2, .bool x2, .bool y2] rfl rfl 46 _ HX3.out.2.1.o info_ref rfl (ref_one _ _ _ _ _ _ _ _ _ _ _ _) ?_))
  refine bodyPost_ret (rret2 rfl _ _ (w.heap.size + 1 + 1) rfl rfl (HX3.out.2.1.row t u fx ar r1 c1 x1 y1 r2 c2 x2 y2)) rfl ⟨rfl, (HH.out.2.2.2.trans HX3.out.2.2.2).setRowR _ (Or.inr (by omega)) _⟩
set_option maxRecDepth 100000 in
set_option maxHeartbeats 2000000 in
theorem changed_3on (ao : Option Addr) (l cap : Nat) (sh : ByteArray) (At N : Int) (nm : ByteArray) (may home : Bool) (t u : ByteArray) (fx ar : Bool) (r1 c1 : Int) (x1 y1 : Bool) (r2 c2 : Int) (x2 y2 : Bool) (w : World) (h1 : 0 ≤ At) (h2 : At ≤ 1048576) (h3 : 0 ≤ N) (h4 : N ≤ 1048576) (h7 : 0 ≤ c1) (h8 : c1 ≤ 1048576) (h9 : 0 ≤ c2) (h10 : c2 ≤ 1048576) (hu : u.toList.isEmpty = true) (ho : onB t sh home = true) (hs : stayB At N 1024 true ar c1 c2 = true) :
    Calls Tryd.prog 53 #[.agg #[.slice ao l cap, .int .i64 3, .string sh, .int .i64 At, .int .i64 N, .string nm, .bool may, .bool home], (.agg #[.string t, .string u, .bool fx, .bool ar, .int .i64 r1, .int .i64 c1, .bool x1, .bool y1, .int .i64 r2, .int .i64 c2, .bool x2, .bool y2])] w fun e w' => e = .returned (.tuple #[(.agg #[.string t, .string u, .bool fx, .bool ar, .int .i64 r1, .int .i64 (nwA At N 1024 true ar c1 c2), .bool x1, .bool y1, .int .i64 r2, .int .i64 (nwB At N 1024 true ar c1 c2), .bool x2, .bool y2]), .bool true]) ∧ Fr noB w w' := by
  have HN := onSheet_any ao l cap 3 sh At N nm may home t u fx ar r1 c1 x1 y1 r2 c2 x2 y2
  rw [ho] at HN
  have HV : Hid (∀ W, Calls Tryd.prog 67 #[.agg #[.int .i64 At, .int .i64 N, .int .i64 1024, .bool true, .bool true], (.agg #[.string t, .string u, .bool fx, .bool ar, .int .i64 r1, .int .i64 c1, .bool x1, .bool y1, .int .i64 r2, .int .i64 c2, .bool x2, .bool y2])] W fun e w' => e = .returned (.tuple #[(.agg #[.string t, .string u, .bool fx, .bool ar, .int .i64 r1, .int .i64 (nwA At N 1024 true ar c1 c2), .bool x1, .bool y1, .int .i64 r2, .int .i64 (nwB At N 1024 true ar c1 c2), .bool x2, .bool y2]), .bool true]) ∧ Fr noB W w') := fun W => by
    have := bref_true At N 1024 true ar t u fx r1 c1 x1 y1 r2 c2 x2 y2 W h1 h2 h3 h4 (by omega) (by omega) h7 h8 h9 h10
    rw [hs, if_pos rfl] at this
    exact this
  obtain ⟨W0, hW0⟩ : ∃ W0, ((w.alloc (.cells #[.slice ao l cap, .int .i64 3, .string sh, .int .i64 At, .int .i64 N, .string nm, .bool may, .bool home] 70 (0, 0))).alloc (.cells #[.string t, .string u, .bool fx, .bool ar, .int .i64 r1, .int .i64 c1, .bool x1, .bool y1, .int .i64 r2, .int .i64 c2, .bool x2, .bool y2] 46 (0, 0))).alloc (.cells #[.string ⟨#[]⟩, .string ⟨#[]⟩, .bool false, .bool false, .int .i64 0, .int .i64 0, .bool false, .bool false, .int .i64 0, .int .i64 0, .bool false, .bool false] 46 (0, 0)) = W0 := ⟨_, rfl⟩
  have hC : HAt W0 w.heap.size ao l cap 3 sh At N nm may home := by rw [← hW0]; exact ⟨old1 (old1 (heap_alloc_new w _))⟩
  have hR : RAt W0 (w.heap.size + 1) t u fx ar r1 c1 x1 y1 r2 c2 x2 y2 := by rw [← hW0]; exact ⟨old1 (new1 _ _ _ (by simp))⟩
  have hO : RAt W0 (w.heap.size + 1 + 1) ⟨#[]⟩ ⟨#[]⟩ false false 0 0 false false 0 0 false false := by rw [← hW0]; exact ⟨new1 _ _ _ (by simp)⟩
  have hF0 : Fr noB w W0 := by rw [← hW0]; exact (((Fr.refl noB w).alloc _).alloc _).alloc _
  have HH : Hid _ := And.intro hC (And.intro hR (And.intro hO hF0))
  have k1 := hC.c1; have k2 := hC.c2; have k3 := hC.c3; have k4 := hC.c4; have k5 := hC.c5
  have HB := bandOf_3 sh At N nm
  clear hC hR hO hF0
  clear ho
  clear hs h1 h2 h3 h4 h7 h8 h9 h10
  generalize nwA At N 1024 true ar c1 c2 = qa at *
  generalize nwB At N 1024 true ar c1 c2 = qb at *
  go_enter Tryd.func53, Tryd.ntmps53
  go_wp2_with (first
    | (go_at_call 30; refine (HB _).mono ?_; rintro e w1 ⟨rfl, hF1⟩; have hF2 : Fr noB W0 (w1.alloc (.cells #[.int .i64 At, .int .i64 N, .int .i64 1024, .bool true, .bool true] 60 (0, 0))) := hF1.alloc _; have hR2 := HH.out.2.1.fr hF2 id; have m1 := hR2.g1; have hC2 := HH.out.1.fr hF2; have mr0 := hR2.g0; have mr2 := hR2.g2; have mr3 := hR2.g3; have mr4 := hR2.g4; have mr5 := hR2.g5; have mr6 := hR2.g6; have mr7 := hR2.g7; have mr8 := hR2.g8; have mr9 := hR2.g9; have mr10 := hR2.g10; have mr11 := hR2.g11; have mc0 := hC2.c0; have mc1 := hC2.c1; have mc2 := hC2.c2; have mc3 := hC2.c3; have mc4 := hC2.c4; have mc5 := hC2.c5; have mc6 := hC2.c6; have mc7 := hC2.c7;  have hO2 := HH.out.2.2.1.fr hF2 id; have hB2 : BAt (w1.alloc (.cells #[.int .i64 At, .int .i64 N, .int .i64 1024, .bool true, .bool true] 60 (0, 0))) w1.heap.size At N 1024 true true := ⟨heap_alloc_new w1 _⟩; have HX2 : Hid _ := And.intro hC2 (And.intro hR2 (And.intro hO2 (And.intro hB2 hF2))); clear hF1 hF2 hR2 hC2 hO2 hB2)
    | (refine wpList_load_row rfl 70 (.tmp 2) rfl w.heap.size rfl 70 #[.slice ao l cap, .int .i64 3, .string sh, .int .i64 At, .int .i64 N, .string nm, .bool may, .bool home] (0, 0) _ HX2.out.1.o Tryd.underlying70 rfl info_change ?_)
    | (refine wpList_load_row rfl 46 (.tmp 3) rfl (w.heap.size + 1) rfl 46 #[.string t, .string u, .bool fx, .bool ar, .int .i64 r1, .int .i64 c1, .bool x1, .bool y1, .int .i64 r2, .int .i64 c2, .bool x2, .bool y2] (0, 0) _ HX2.out.2.1.o Tryd.underlying46 rfl info_ref ?_)
    | (go_at_call 66; refine (HN _).mono ?_; rintro e w2 ⟨rfl, hF3⟩; have HX3 : Hid _ := And.intro (HX2.out.2.1.fr hF3 id) (And.intro (HX2.out.2.2.1.fr hF3 id) (And.intro (HX2.out.2.2.2.1.fr hF3) (HX2.out.2.2.2.2.trans hF3))); have n0 := HX3.out.2.2.1.c0; have n1 := HX3.out.2.2.1.c1; have n2 := HX3.out.2.2.1.c2; have n3 := HX3.out.2.2.1.c3; have n4 := HX3.out.2.2.1.c4; clear hF3)
    | (refine wpList_load_row rfl 46 (.tmp 3) rfl (w.heap.size + 1) rfl 46 #[.string t, .string u, .bool fx, .bool ar, .int .i64 r1, .int .i64 c1, .bool x1, .bool y1, .int .i64 r2, .int .i64 c2, .bool x2, .bool y2] (0, 0) _ HX3.out.1.o Tryd.underlying46 rfl info_ref ?_)
    | (go_at_call 67; refine (HV.out _).mono ?_; rintro e w3 ⟨rfl, hF4⟩; have HX4 : Hid _ := And.intro (HX3.out.2.1.fr hF4 id) (HX3.out.2.2.2.trans hF4); clear hF4)
    | (refine wpList_store_row rfl 46 (.tmp 4) (.tmp 43) rfl (w.heap.size + 1 + 1) #[.string t, .string u, .bool fx, .bool ar, .int .i64 r1, .int .i64 qa, .bool x1, .bool y1, .int .i64 r2, .int .i64 qb, .bool x2, .bool y2] rfl rfl 46 _ HX4.out.1.o info_ref rfl (ref_one _ _ _ _ _ _ _ _ _ _ _ _) ?_))
  refine bodyPost_ret (rret2 rfl _ _ (w.heap.size + 1 + 1) rfl rfl (HX4.out.1.row t u fx ar r1 qa x1 y1 r2 qb x2 y2)) rfl ⟨rfl, (HH.out.2.2.2.trans HX4.out.2).setRowR _ (Or.inr (by omega)) _⟩
set_option maxRecDepth 100000 in
set_option maxHeartbeats 2000000 in
theorem changed_3go (ao : Option Addr) (l cap : Nat) (sh : ByteArray) (At N : Int) (nm : ByteArray) (may home : Bool) (t u : ByteArray) (fx ar : Bool) (r1 c1 : Int) (x1 y1 : Bool) (r2 c2 : Int) (x2 y2 : Bool) (w : World) (h1 : 0 ≤ At) (h2 : At ≤ 1048576) (h3 : 0 ≤ N) (h4 : N ≤ 1048576) (h7 : 0 ≤ c1) (h8 : c1 ≤ 1048576) (h9 : 0 ≤ c2) (h10 : c2 ≤ 1048576) (hu : u.toList.isEmpty = true) (ho : onB t sh home = true) (hs : stayB At N 1024 true ar c1 c2 = false) :
    Calls Tryd.prog 53 #[.agg #[.slice ao l cap, .int .i64 3, .string sh, .int .i64 At, .int .i64 N, .string nm, .bool may, .bool home], (.agg #[.string t, .string u, .bool fx, .bool ar, .int .i64 r1, .int .i64 c1, .bool x1, .bool y1, .int .i64 r2, .int .i64 c2, .bool x2, .bool y2])] w fun e w' => e = .returned (.tuple #[(.agg #[.string ⟨#[]⟩, .string ⟨#[]⟩, .bool false, .bool false, .int .i64 0, .int .i64 0, .bool false, .bool false, .int .i64 0, .int .i64 0, .bool false, .bool false]), .bool false]) ∧ Fr noB w w' := by
  have HN := onSheet_any ao l cap 3 sh At N nm may home t u fx ar r1 c1 x1 y1 r2 c2 x2 y2
  rw [ho] at HN
  have HV : Hid (∀ W, Calls Tryd.prog 67 #[.agg #[.int .i64 At, .int .i64 N, .int .i64 1024, .bool true, .bool true], (.agg #[.string t, .string u, .bool fx, .bool ar, .int .i64 r1, .int .i64 c1, .bool x1, .bool y1, .int .i64 r2, .int .i64 c2, .bool x2, .bool y2])] W fun e w' => e = .returned (.tuple #[(.agg #[.string ⟨#[]⟩, .string ⟨#[]⟩, .bool false, .bool false, .int .i64 0, .int .i64 0, .bool false, .bool false, .int .i64 0, .int .i64 0, .bool false, .bool false]), .bool false]) ∧ Fr noB W w') := fun W => by
    have := bref_true At N 1024 true ar t u fx r1 c1 x1 y1 r2 c2 x2 y2 W h1 h2 h3 h4 (by omega) (by omega) h7 h8 h9 h10
    rw [hs, if_neg (by simp)] at this
    exact this
  obtain ⟨W0, hW0⟩ : ∃ W0, ((w.alloc (.cells #[.slice ao l cap, .int .i64 3, .string sh, .int .i64 At, .int .i64 N, .string nm, .bool may, .bool home] 70 (0, 0))).alloc (.cells #[.string t, .string u, .bool fx, .bool ar, .int .i64 r1, .int .i64 c1, .bool x1, .bool y1, .int .i64 r2, .int .i64 c2, .bool x2, .bool y2] 46 (0, 0))).alloc (.cells #[.string ⟨#[]⟩, .string ⟨#[]⟩, .bool false, .bool false, .int .i64 0, .int .i64 0, .bool false, .bool false, .int .i64 0, .int .i64 0, .bool false, .bool false] 46 (0, 0)) = W0 := ⟨_, rfl⟩
  have hC : HAt W0 w.heap.size ao l cap 3 sh At N nm may home := by rw [← hW0]; exact ⟨old1 (old1 (heap_alloc_new w _))⟩
  have hR : RAt W0 (w.heap.size + 1) t u fx ar r1 c1 x1 y1 r2 c2 x2 y2 := by rw [← hW0]; exact ⟨old1 (new1 _ _ _ (by simp))⟩
  have hO : RAt W0 (w.heap.size + 1 + 1) ⟨#[]⟩ ⟨#[]⟩ false false 0 0 false false 0 0 false false := by rw [← hW0]; exact ⟨new1 _ _ _ (by simp)⟩
  have hF0 : Fr noB w W0 := by rw [← hW0]; exact (((Fr.refl noB w).alloc _).alloc _).alloc _
  have HH : Hid _ := And.intro hC (And.intro hR (And.intro hO hF0))
  have k1 := hC.c1; have k2 := hC.c2; have k3 := hC.c3; have k4 := hC.c4; have k5 := hC.c5
  have HB := bandOf_3 sh At N nm
  clear hC hR hO hF0
  clear ho
  clear hs h1 h2 h3 h4 h7 h8 h9 h10
  go_enter Tryd.func53, Tryd.ntmps53
  go_wp2_with (first
    | (go_at_call 30; refine (HB _).mono ?_; rintro e w1 ⟨rfl, hF1⟩; have hF2 : Fr noB W0 (w1.alloc (.cells #[.int .i64 At, .int .i64 N, .int .i64 1024, .bool true, .bool true] 60 (0, 0))) := hF1.alloc _; have hR2 := HH.out.2.1.fr hF2 id; have m1 := hR2.g1; have hC2 := HH.out.1.fr hF2; have mr0 := hR2.g0; have mr2 := hR2.g2; have mr3 := hR2.g3; have mr4 := hR2.g4; have mr5 := hR2.g5; have mr6 := hR2.g6; have mr7 := hR2.g7; have mr8 := hR2.g8; have mr9 := hR2.g9; have mr10 := hR2.g10; have mr11 := hR2.g11; have mc0 := hC2.c0; have mc1 := hC2.c1; have mc2 := hC2.c2; have mc3 := hC2.c3; have mc4 := hC2.c4; have mc5 := hC2.c5; have mc6 := hC2.c6; have mc7 := hC2.c7;  have hO2 := HH.out.2.2.1.fr hF2 id; have hB2 : BAt (w1.alloc (.cells #[.int .i64 At, .int .i64 N, .int .i64 1024, .bool true, .bool true] 60 (0, 0))) w1.heap.size At N 1024 true true := ⟨heap_alloc_new w1 _⟩; have HX2 : Hid _ := And.intro hC2 (And.intro hR2 (And.intro hO2 (And.intro hB2 hF2))); clear hF1 hF2 hR2 hC2 hO2 hB2)
    | (refine wpList_load_row rfl 70 (.tmp 2) rfl w.heap.size rfl 70 #[.slice ao l cap, .int .i64 3, .string sh, .int .i64 At, .int .i64 N, .string nm, .bool may, .bool home] (0, 0) _ HX2.out.1.o Tryd.underlying70 rfl info_change ?_)
    | (refine wpList_load_row rfl 46 (.tmp 3) rfl (w.heap.size + 1) rfl 46 #[.string t, .string u, .bool fx, .bool ar, .int .i64 r1, .int .i64 c1, .bool x1, .bool y1, .int .i64 r2, .int .i64 c2, .bool x2, .bool y2] (0, 0) _ HX2.out.2.1.o Tryd.underlying46 rfl info_ref ?_)
    | (go_at_call 66; refine (HN _).mono ?_; rintro e w2 ⟨rfl, hF3⟩; have HX3 : Hid _ := And.intro (HX2.out.2.1.fr hF3 id) (And.intro (HX2.out.2.2.1.fr hF3 id) (And.intro (HX2.out.2.2.2.1.fr hF3) (HX2.out.2.2.2.2.trans hF3))); have n0 := HX3.out.2.2.1.c0; have n1 := HX3.out.2.2.1.c1; have n2 := HX3.out.2.2.1.c2; have n3 := HX3.out.2.2.1.c3; have n4 := HX3.out.2.2.1.c4; clear hF3)
    | (refine wpList_load_row rfl 46 (.tmp 3) rfl (w.heap.size + 1) rfl 46 #[.string t, .string u, .bool fx, .bool ar, .int .i64 r1, .int .i64 c1, .bool x1, .bool y1, .int .i64 r2, .int .i64 c2, .bool x2, .bool y2] (0, 0) _ HX3.out.1.o Tryd.underlying46 rfl info_ref ?_)
    | (go_at_call 67; refine (HV.out _).mono ?_; rintro e w3 ⟨rfl, hF4⟩; have HX4 : Hid _ := And.intro (HX3.out.2.1.fr hF4 id) (HX3.out.2.2.2.trans hF4); clear hF4)
    | (refine wpList_store_row rfl 46 (.tmp 4) (.tmp 43) rfl (w.heap.size + 1 + 1) #[.string ⟨#[]⟩, .string ⟨#[]⟩, .bool false, .bool false, .int .i64 0, .int .i64 0, .bool false, .bool false, .int .i64 0, .int .i64 0, .bool false, .bool false] rfl rfl 46 _ HX4.out.1.o info_ref rfl (ref_one _ _ _ _ _ _ _ _ _ _ _ _) ?_))
  refine bodyPost_ret (rret2 rfl _ _ (w.heap.size + 1 + 1) rfl rfl (HX4.out.1.row ⟨#[]⟩ ⟨#[]⟩ false false 0 0 false false 0 0 false false)) rfl ⟨rfl, (HH.out.2.2.2.trans HX4.out.2).setRowR _ (Or.inr (by omega)) _⟩
set_option maxRecDepth 100000 in
set_option maxHeartbeats 2000000 in
theorem changed_4to (ao : Option Addr) (l cap : Nat) (sh : ByteArray) (At N : Int) (nm : ByteArray) (may home : Bool) (t u : ByteArray) (fx ar : Bool) (r1 c1 : Int) (x1 y1 : Bool) (r2 c2 : Int) (x2 y2 : Bool) (w : World) (hu : u.toList.isEmpty = false) :
    Calls Tryd.prog 53 #[.agg #[.slice ao l cap, .int .i64 4, .string sh, .int .i64 At, .int .i64 N, .string nm, .bool may, .bool home], (.agg #[.string t, .string u, .bool fx, .bool ar, .int .i64 r1, .int .i64 c1, .bool x1, .bool y1, .int .i64 r2, .int .i64 c2, .bool x2, .bool y2])] w fun e w' => e = .returned (.tuple #[(.agg #[.string t, .string u, .bool fx, .bool ar, .int .i64 r1, .int .i64 c1, .bool x1, .bool y1, .int .i64 r2, .int .i64 c2, .bool x2, .bool y2]), .bool true]) ∧ Fr noB w w' := by
  obtain ⟨W0, hW0⟩ : ∃ W0, ((w.alloc (.cells #[.slice ao l cap, .int .i64 4, .string sh, .int .i64 At, .int .i64 N, .string nm, .bool may, .bool home] 70 (0, 0))).alloc (.cells #[.string t, .string u, .bool fx, .bool ar, .int .i64 r1, .int .i64 c1, .bool x1, .bool y1, .int .i64 r2, .int .i64 c2, .bool x2, .bool y2] 46 (0, 0))).alloc (.cells #[.string ⟨#[]⟩, .string ⟨#[]⟩, .bool false, .bool false, .int .i64 0, .int .i64 0, .bool false, .bool false, .int .i64 0, .int .i64 0, .bool false, .bool false] 46 (0, 0)) = W0 := ⟨_, rfl⟩
  have hC : HAt W0 w.heap.size ao l cap 4 sh At N nm may home := by rw [← hW0]; exact ⟨old1 (old1 (heap_alloc_new w _))⟩
  have hR : RAt W0 (w.heap.size + 1) t u fx ar r1 c1 x1 y1 r2 c2 x2 y2 := by rw [← hW0]; exact ⟨old1 (new1 _ _ _ (by simp))⟩
  have hO : RAt W0 (w.heap.size + 1 + 1) ⟨#[]⟩ ⟨#[]⟩ false false 0 0 false false 0 0 false false := by rw [← hW0]; exact ⟨new1 _ _ _ (by simp)⟩
  have hF0 : Fr noB w W0 := by rw [← hW0]; exact (((Fr.refl noB w).alloc _).alloc _).alloc _
  have HH : Hid _ := And.intro hC (And.intro hR (And.intro hO hF0))
  have k1 := hC.c1; have k2 := hC.c2; have k3 := hC.c3; have k4 := hC.c4; have k5 := hC.c5
  have HB := bandOf_4 sh At N nm
  clear hC hR hO hF0
  go_enter Tryd.func53, Tryd.ntmps53
  go_wp2_with (first
    | (go_at_call 30; refine (HB _).mono ?_; rintro e w1 ⟨rfl, hF1⟩; have hF2 : Fr noB W0 (w1.alloc (.cells #[.int .i64 At, .int .i64 N, .int .i64 1024, .bool false, .bool true] 60 (0, 0))) := hF1.alloc _; have hR2 := HH.out.2.1.fr hF2 id; have m1 := hR2.g1; have hC2 := HH.out.1.fr hF2;  have hO2 := HH.out.2.2.1.fr hF2 id; have hB2 : BAt (w1.alloc (.cells #[.int .i64 At, .int .i64 N, .int .i64 1024, .bool false, .bool true] 60 (0, 0))) w1.heap.size At N 1024 false true := ⟨heap_alloc_new w1 _⟩; have HX2 : Hid _ := And.intro hC2 (And.intro hR2 (And.intro hO2 (And.intro hB2 hF2))); clear hF1 hF2 hR2 hC2 hO2 hB2)
    | (refine wpList_load_row rfl 46 (.tmp 3) rfl (w.heap.size + 1) rfl 46 #[.string t, .string u, .bool fx, .bool ar, .int .i64 r1, .int .i64 c1, .bool x1, .bool y1, .int .i64 r2, .int .i64 c2, .bool x2, .bool y2] (0, 0) _ HX2.out.2.1.o Tryd.underlying46 rfl info_ref ?_)
    | (refine wpList_store_row rfl 46 (.tmp 4) (.tmp 45) rfl (w.heap.size + 1 + 1) #[.string t, .string u, .bool fx, .bool ar, .int .i64 r1, .int .i64 c1, .bool x1, .bool y1, .int .i64 r2, .int .i64 c2, .bool x2, .bool y2] rfl rfl 46 _ HX2.out.2.2.1.o info_ref rfl (ref_one _ _ _ _ _ _ _ _ _ _ _ _) ?_))
  refine bodyPost_ret (rret2 rfl _ _ (w.heap.size + 1 + 1) rfl rfl (HX2.out.2.2.1.row t u fx ar r1 c1 x1 y1 r2 c2 x2 y2)) rfl ⟨rfl, (HH.out.2.2.2.trans HX2.out.2.2.2.2).setRowR _ (Or.inr (by omega)) _⟩
set_option maxRecDepth 100000 in
set_option maxHeartbeats 2000000 in
theorem changed_4off (ao : Option Addr) (l cap : Nat) (sh : ByteArray) (At N : Int) (nm : ByteArray) (may home : Bool) (t u : ByteArray) (fx ar : Bool) (r1 c1 : Int) (x1 y1 : Bool) (r2 c2 : Int) (x2 y2 : Bool) (w : World) (hu : u.toList.isEmpty = true) (ho : onB t sh home = false) :
    Calls Tryd.prog 53 #[.agg #[.slice ao l cap, .int .i64 4, .string sh, .int .i64 At, .int .i64 N, .string nm, .bool may, .bool home], (.agg #[.string t, .string u, .bool fx, .bool ar, .int .i64 r1, .int .i64 c1, .bool x1, .bool y1, .int .i64 r2, .int .i64 c2, .bool x2, .bool y2])] w fun e w' => e = .returned (.tuple #[(.agg #[.string t, .string u, .bool fx, .bool ar, .int .i64 r1, .int .i64 c1, .bool x1, .bool y1, .int .i64 r2, .int .i64 c2, .bool x2, .bool y2]), .bool true]) ∧ Fr noB w w' := by
  have HN := onSheet_any ao l cap 4 sh At N nm may home t u fx ar r1 c1 x1 y1 r2 c2 x2 y2
  rw [ho] at HN
  obtain ⟨W0, hW0⟩ : ∃ W0, ((w.alloc (.cells #[.slice ao l cap, .int .i64 4, .string sh, .int .i64 At, .int .i64 N, .string nm, .bool may, .bool home] 70 (0, 0))).alloc (.cells #[.string t, .string u, .bool fx, .bool ar, .int .i64 r1, .int .i64 c1, .bool x1, .bool y1, .int .i64 r2, .int .i64 c2, .bool x2, .bool y2] 46 (0, 0))).alloc (.cells #[.string ⟨#[]⟩, .string ⟨#[]⟩, .bool false, .bool false, .int .i64 0, .int .i64 0, .bool false, .bool false, .int .i64 0, .int .i64 0, .bool false, .bool false] 46 (0, 0)) = W0 := ⟨_, rfl⟩
  have hC : HAt W0 w.heap.size ao l cap 4 sh At N nm may home := by rw [← hW0]; exact ⟨old1 (old1 (heap_alloc_new w _))⟩
  have hR : RAt W0 (w.heap.size + 1) t u fx ar r1 c1 x1 y1 r2 c2 x2 y2 := by rw [← hW0]; exact ⟨old1 (new1 _ _ _ (by simp))⟩
  have hO : RAt W0 (w.heap.size + 1 + 1) ⟨#[]⟩ ⟨#[]⟩ false false 0 0 false false 0 0 false false := by rw [← hW0]; exact ⟨new1 _ _ _ (by simp)⟩
  have hF0 : Fr noB w W0 := by rw [← hW0]; exact (((Fr.refl noB w).alloc _).alloc _).alloc _
  have HH : Hid _ := And.intro hC (And.intro hR (And.intro hO hF0))
  have k1 := hC.c1; have k2 := hC.c2; have k3 := hC.c3; have k4 := hC.c4; have k5 := hC.c5
  have HB := bandOf_4 sh At N nm
  clear hC hR hO hF0
  clear ho
  go_enter Tryd.func53, Tryd.ntmps53
  go_wp2_with (first
    | (go_at_call 30; refine (HB _).mono ?_; rintro e w1 ⟨rfl, hF1⟩; have hF2 : Fr noB W0 (w1.alloc (.cells #[.int .i64 At, .int .i64 N, .int .i64 1024, .bool false, .bool true] 60 (0, 0))) := hF1.alloc _; have hR2 := HH.out.2.1.fr hF2 id; have m1 := hR2.g1; have hC2 := HH.out.1.fr hF2; have mr0 := hR2.g0; have mr2 := hR2.g2; have mr3 := hR2.g3; have mr4 := hR2.g4; have mr5 := hR2.g5; have mr6 := hR2.g6; have mr7 := hR2.g7; have mr8 := hR2.g8; have mr9 := hR2.g9; have mr10 := hR2.g10; have mr11 := hR2.g11; have mc0 := hC2.c0; have mc1 := hC2.c1; have mc2 := hC2.c2; have mc3 := hC2.c3; have mc4 := hC2.c4; have mc5 := hC2.c5; have mc6 := hC2.c6; have mc7 := hC2.c7;  have hO2 := HH.out.2.2.1.fr hF2 id; have hB2 : BAt (w1.alloc (.cells #[.int .i64 At, .int .i64 N, .int .i64 1024, .bool false, .bool true] 60 (0, 0))) w1.heap.size At N 1024 false true := ⟨heap_alloc_new w1 _⟩; have HX2 : Hid _ := And.intro hC2 (And.intro hR2 (And.intro hO2 (And.intro hB2 hF2))); clear hF1 hF2 hR2 hC2 hO2 hB2)
    | (refine wpList_load_row rfl 70 (.tmp 2) rfl w.heap.size rfl 70 #[.slice ao l cap, .int .i64 4, .string sh, .int .i64 At, .int .i64 N, .string nm, .bool may, .bool home] (0, 0) _ HX2.out.1.o Tryd.underlying70 rfl info_change ?_)
    | (refine wpList_load_row rfl 46 (.tmp 3) rfl (w.heap.size + 1) rfl 46 #[.string t, .string u, .bool fx, .bool ar, .int .i64 r1, .int .i64 c1, .bool x1, .bool y1, .int .i64 r2, .int .i64 c2, .bool x2, .bool y2] (0, 0) _ HX2.out.2.1.o Tryd.underlying46 rfl info_ref ?_)
    | (go_at_call 66; refine (HN _).mono ?_; rintro e w2 ⟨rfl, hF3⟩; have HX3 : Hid _ := And.intro (HX2.out.2.1.fr hF3 id) (And.intro (HX2.out.2.2.1.fr hF3 id) (And.intro (HX2.out.2.2.2.1.fr hF3) (HX2.out.2.2.2.2.trans hF3))); have n0 := HX3.out.2.2.1.c0; have n1 := HX3.out.2.2.1.c1; have n2 := HX3.out.2.2.1.c2; have n3 := HX3.out.2.2.1.c3; have n4 := HX3.out.2.2.1.c4; clear hF3)
    | (refine wpList_load_row rfl 46 (.tmp 3) rfl (w.heap.size + 1) rfl 46 #[.string t, .string u, .bool fx, .bool ar, .int .i64 r1, .int .i64 c1, .bool x1, .bool y1, .int .i64 r2, .int .i64 c2, .bool x2, .bool y2] (0, 0) _ HX3.out.1.o Tryd.underlying46 rfl info_ref ?_)
    | (refine wpList_store_row rfl 46 (.tmp 4) (.tmp 45) rfl (w.heap.size + 1 + 1) #[.string t, .string u, .bool fx, .bool ar, .int .i64 r1, .int .i64 c1, .bool x1, .bool y1, .int .i64 r2, .int .i64 c2, .bool x2, .bool y2] rfl rfl 46 _ HX3.out.2.1.o info_ref rfl (ref_one _ _ _ _ _ _ _ _ _ _ _ _) ?_))
  refine bodyPost_ret (rret2 rfl _ _ (w.heap.size + 1 + 1) rfl rfl (HX3.out.2.1.row t u fx ar r1 c1 x1 y1 r2 c2 x2 y2)) rfl ⟨rfl, (HH.out.2.2.2.trans HX3.out.2.2.2).setRowR _ (Or.inr (by omega)) _⟩
set_option maxRecDepth 100000 in
set_option maxHeartbeats 2000000 in
theorem changed_4on (ao : Option Addr) (l cap : Nat) (sh : ByteArray) (At N : Int) (nm : ByteArray) (may home : Bool) (t u : ByteArray) (fx ar : Bool) (r1 c1 : Int) (x1 y1 : Bool) (r2 c2 : Int) (x2 y2 : Bool) (w : World) (h1 : 0 ≤ At) (h2 : At ≤ 1048576) (h3 : 0 ≤ N) (h4 : N ≤ 1048576) (h7 : 0 ≤ c1) (h8 : c1 ≤ 1048576) (h9 : 0 ≤ c2) (h10 : c2 ≤ 1048576) (hu : u.toList.isEmpty = true) (ho : onB t sh home = true) (hs : stayB At N 1024 false ar c1 c2 = true) :
    Calls Tryd.prog 53 #[.agg #[.slice ao l cap, .int .i64 4, .string sh, .int .i64 At, .int .i64 N, .string nm, .bool may, .bool home], (.agg #[.string t, .string u, .bool fx, .bool ar, .int .i64 r1, .int .i64 c1, .bool x1, .bool y1, .int .i64 r2, .int .i64 c2, .bool x2, .bool y2])] w fun e w' => e = .returned (.tuple #[(.agg #[.string t, .string u, .bool fx, .bool ar, .int .i64 r1, .int .i64 (nwA At N 1024 false ar c1 c2), .bool x1, .bool y1, .int .i64 r2, .int .i64 (nwB At N 1024 false ar c1 c2), .bool x2, .bool y2]), .bool true]) ∧ Fr noB w w' := by
  have HN := onSheet_any ao l cap 4 sh At N nm may home t u fx ar r1 c1 x1 y1 r2 c2 x2 y2
  rw [ho] at HN
  have HV : Hid (∀ W, Calls Tryd.prog 67 #[.agg #[.int .i64 At, .int .i64 N, .int .i64 1024, .bool false, .bool true], (.agg #[.string t, .string u, .bool fx, .bool ar, .int .i64 r1, .int .i64 c1, .bool x1, .bool y1, .int .i64 r2, .int .i64 c2, .bool x2, .bool y2])] W fun e w' => e = .returned (.tuple #[(.agg #[.string t, .string u, .bool fx, .bool ar, .int .i64 r1, .int .i64 (nwA At N 1024 false ar c1 c2), .bool x1, .bool y1, .int .i64 r2, .int .i64 (nwB At N 1024 false ar c1 c2), .bool x2, .bool y2]), .bool true]) ∧ Fr noB W w') := fun W => by
    have := bref_true At N 1024 false ar t u fx r1 c1 x1 y1 r2 c2 x2 y2 W h1 h2 h3 h4 (by omega) (by omega) h7 h8 h9 h10
    rw [hs, if_pos rfl] at this
    exact this
  obtain ⟨W0, hW0⟩ : ∃ W0, ((w.alloc (.cells #[.slice ao l cap, .int .i64 4, .string sh, .int .i64 At, .int .i64 N, .string nm, .bool may, .bool home] 70 (0, 0))).alloc (.cells #[.string t, .string u, .bool fx, .bool ar, .int .i64 r1, .int .i64 c1, .bool x1, .bool y1, .int .i64 r2, .int .i64 c2, .bool x2, .bool y2] 46 (0, 0))).alloc (.cells #[.string ⟨#[]⟩, .string ⟨#[]⟩, .bool false, .bool false, .int .i64 0, .int .i64 0, .bool false, .bool false, .int .i64 0, .int .i64 0, .bool false, .bool false] 46 (0, 0)) = W0 := ⟨_, rfl⟩
  have hC : HAt W0 w.heap.size ao l cap 4 sh At N nm may home := by rw [← hW0]; exact ⟨old1 (old1 (heap_alloc_new w _))⟩
  have hR : RAt W0 (w.heap.size + 1) t u fx ar r1 c1 x1 y1 r2 c2 x2 y2 := by rw [← hW0]; exact ⟨old1 (new1 _ _ _ (by simp))⟩
  have hO : RAt W0 (w.heap.size + 1 + 1) ⟨#[]⟩ ⟨#[]⟩ false false 0 0 false false 0 0 false false := by rw [← hW0]; exact ⟨new1 _ _ _ (by simp)⟩
  have hF0 : Fr noB w W0 := by rw [← hW0]; exact (((Fr.refl noB w).alloc _).alloc _).alloc _
  have HH : Hid _ := And.intro hC (And.intro hR (And.intro hO hF0))
  have k1 := hC.c1; have k2 := hC.c2; have k3 := hC.c3; have k4 := hC.c4; have k5 := hC.c5
  have HB := bandOf_4 sh At N nm
  clear hC hR hO hF0
  clear ho
  clear hs h1 h2 h3 h4 h7 h8 h9 h10
  generalize nwA At N 1024 false ar c1 c2 = qa at *
  generalize nwB At N 1024 false ar c1 c2 = qb at *
  go_enter Tryd.func53, Tryd.ntmps53
  go_wp2_with (first
    | (go_at_call 30; refine (HB _).mono ?_; rintro e w1 ⟨rfl, hF1⟩; have hF2 : Fr noB W0 (w1.alloc (.cells #[.int .i64 At, .int .i64 N, .int .i64 1024, .bool false, .bool true] 60 (0, 0))) := hF1.alloc _; have hR2 := HH.out.2.1.fr hF2 id; have m1 := hR2.g1; have hC2 := HH.out.1.fr hF2; have mr0 := hR2.g0; have mr2 := hR2.g2; have mr3 := hR2.g3; have mr4 := hR2.g4; have mr5 := hR2.g5; have mr6 := hR2.g6; have mr7 := hR2.g7; have mr8 := hR2.g8; have mr9 := hR2.g9; have mr10 := hR2.g10; have mr11 := hR2.g11; have mc0 := hC2.c0; have mc1 := hC2.c1; have mc2 := hC2.c2; have mc3 := hC2.c3; have mc4 := hC2.c4; have mc5 := hC2.c5; have mc6 := hC2.c6; have mc7 := hC2.c7;  have hO2 := HH.out.2.2.1.fr hF2 id; have hB2 : BAt (w1.alloc (.cells #[.int .i64 At, .int .i64 N, .int .i64 1024, .bool false, .bool true] 60 (0, 0))) w1.heap.size At N 1024 false true := ⟨heap_alloc_new w1 _⟩; have HX2 : Hid _ := And.intro hC2 (And.intro hR2 (And.intro hO2 (And.intro hB2 hF2))); clear hF1 hF2 hR2 hC2 hO2 hB2)
    | (refine wpList_load_row rfl 70 (.tmp 2) rfl w.heap.size rfl 70 #[.slice ao l cap, .int .i64 4, .string sh, .int .i64 At, .int .i64 N, .string nm, .bool may, .bool home] (0, 0) _ HX2.out.1.o Tryd.underlying70 rfl info_change ?_)
    | (refine wpList_load_row rfl 46 (.tmp 3) rfl (w.heap.size + 1) rfl 46 #[.string t, .string u, .bool fx, .bool ar, .int .i64 r1, .int .i64 c1, .bool x1, .bool y1, .int .i64 r2, .int .i64 c2, .bool x2, .bool y2] (0, 0) _ HX2.out.2.1.o Tryd.underlying46 rfl info_ref ?_)
    | (go_at_call 66; refine (HN _).mono ?_; rintro e w2 ⟨rfl, hF3⟩; have HX3 : Hid _ := And.intro (HX2.out.2.1.fr hF3 id) (And.intro (HX2.out.2.2.1.fr hF3 id) (And.intro (HX2.out.2.2.2.1.fr hF3) (HX2.out.2.2.2.2.trans hF3))); have n0 := HX3.out.2.2.1.c0; have n1 := HX3.out.2.2.1.c1; have n2 := HX3.out.2.2.1.c2; have n3 := HX3.out.2.2.1.c3; have n4 := HX3.out.2.2.1.c4; clear hF3)
    | (refine wpList_load_row rfl 46 (.tmp 3) rfl (w.heap.size + 1) rfl 46 #[.string t, .string u, .bool fx, .bool ar, .int .i64 r1, .int .i64 c1, .bool x1, .bool y1, .int .i64 r2, .int .i64 c2, .bool x2, .bool y2] (0, 0) _ HX3.out.1.o Tryd.underlying46 rfl info_ref ?_)
    | (go_at_call 67; refine (HV.out _).mono ?_; rintro e w3 ⟨rfl, hF4⟩; have HX4 : Hid _ := And.intro (HX3.out.2.1.fr hF4 id) (HX3.out.2.2.2.trans hF4); clear hF4)
    | (refine wpList_store_row rfl 46 (.tmp 4) (.tmp 43) rfl (w.heap.size + 1 + 1) #[.string t, .string u, .bool fx, .bool ar, .int .i64 r1, .int .i64 qa, .bool x1, .bool y1, .int .i64 r2, .int .i64 qb, .bool x2, .bool y2] rfl rfl 46 _ HX4.out.1.o info_ref rfl (ref_one _ _ _ _ _ _ _ _ _ _ _ _) ?_))
  refine bodyPost_ret (rret2 rfl _ _ (w.heap.size + 1 + 1) rfl rfl (HX4.out.1.row t u fx ar r1 qa x1 y1 r2 qb x2 y2)) rfl ⟨rfl, (HH.out.2.2.2.trans HX4.out.2).setRowR _ (Or.inr (by omega)) _⟩
set_option maxRecDepth 100000 in
set_option maxHeartbeats 2000000 in
theorem changed_4go (ao : Option Addr) (l cap : Nat) (sh : ByteArray) (At N : Int) (nm : ByteArray) (may home : Bool) (t u : ByteArray) (fx ar : Bool) (r1 c1 : Int) (x1 y1 : Bool) (r2 c2 : Int) (x2 y2 : Bool) (w : World) (h1 : 0 ≤ At) (h2 : At ≤ 1048576) (h3 : 0 ≤ N) (h4 : N ≤ 1048576) (h7 : 0 ≤ c1) (h8 : c1 ≤ 1048576) (h9 : 0 ≤ c2) (h10 : c2 ≤ 1048576) (hu : u.toList.isEmpty = true) (ho : onB t sh home = true) (hs : stayB At N 1024 false ar c1 c2 = false) :
    Calls Tryd.prog 53 #[.agg #[.slice ao l cap, .int .i64 4, .string sh, .int .i64 At, .int .i64 N, .string nm, .bool may, .bool home], (.agg #[.string t, .string u, .bool fx, .bool ar, .int .i64 r1, .int .i64 c1, .bool x1, .bool y1, .int .i64 r2, .int .i64 c2, .bool x2, .bool y2])] w fun e w' => e = .returned (.tuple #[(.agg #[.string ⟨#[]⟩, .string ⟨#[]⟩, .bool false, .bool false, .int .i64 0, .int .i64 0, .bool false, .bool false, .int .i64 0, .int .i64 0, .bool false, .bool false]), .bool false]) ∧ Fr noB w w' := by
  have HN := onSheet_any ao l cap 4 sh At N nm may home t u fx ar r1 c1 x1 y1 r2 c2 x2 y2
  rw [ho] at HN
  have HV : Hid (∀ W, Calls Tryd.prog 67 #[.agg #[.int .i64 At, .int .i64 N, .int .i64 1024, .bool false, .bool true], (.agg #[.string t, .string u, .bool fx, .bool ar, .int .i64 r1, .int .i64 c1, .bool x1, .bool y1, .int .i64 r2, .int .i64 c2, .bool x2, .bool y2])] W fun e w' => e = .returned (.tuple #[(.agg #[.string ⟨#[]⟩, .string ⟨#[]⟩, .bool false, .bool false, .int .i64 0, .int .i64 0, .bool false, .bool false, .int .i64 0, .int .i64 0, .bool false, .bool false]), .bool false]) ∧ Fr noB W w') := fun W => by
    have := bref_true At N 1024 false ar t u fx r1 c1 x1 y1 r2 c2 x2 y2 W h1 h2 h3 h4 (by omega) (by omega) h7 h8 h9 h10
    rw [hs, if_neg (by simp)] at this
    exact this
  obtain ⟨W0, hW0⟩ : ∃ W0, ((w.alloc (.cells #[.slice ao l cap, .int .i64 4, .string sh, .int .i64 At, .int .i64 N, .string nm, .bool may, .bool home] 70 (0, 0))).alloc (.cells #[.string t, .string u, .bool fx, .bool ar, .int .i64 r1, .int .i64 c1, .bool x1, .bool y1, .int .i64 r2, .int .i64 c2, .bool x2, .bool y2] 46 (0, 0))).alloc (.cells #[.string ⟨#[]⟩, .string ⟨#[]⟩, .bool false, .bool false, .int .i64 0, .int .i64 0, .bool false, .bool false, .int .i64 0, .int .i64 0, .bool false, .bool false] 46 (0, 0)) = W0 := ⟨_, rfl⟩
  have hC : HAt W0 w.heap.size ao l cap 4 sh At N nm may home := by rw [← hW0]; exact ⟨old1 (old1 (heap_alloc_new w _))⟩
  have hR : RAt W0 (w.heap.size + 1) t u fx ar r1 c1 x1 y1 r2 c2 x2 y2 := by rw [← hW0]; exact ⟨old1 (new1 _ _ _ (by simp))⟩
  have hO : RAt W0 (w.heap.size + 1 + 1) ⟨#[]⟩ ⟨#[]⟩ false false 0 0 false false 0 0 false false := by rw [← hW0]; exact ⟨new1 _ _ _ (by simp)⟩
  have hF0 : Fr noB w W0 := by rw [← hW0]; exact (((Fr.refl noB w).alloc _).alloc _).alloc _
  have HH : Hid _ := And.intro hC (And.intro hR (And.intro hO hF0))
  have k1 := hC.c1; have k2 := hC.c2; have k3 := hC.c3; have k4 := hC.c4; have k5 := hC.c5
  have HB := bandOf_4 sh At N nm
  clear hC hR hO hF0
  clear ho
  clear hs h1 h2 h3 h4 h7 h8 h9 h10
  go_enter Tryd.func53, Tryd.ntmps53
  go_wp2_with (first
    | (go_at_call 30; refine (HB _).mono ?_; rintro e w1 ⟨rfl, hF1⟩; have hF2 : Fr noB W0 (w1.alloc (.cells #[.int .i64 At, .int .i64 N, .int .i64 1024, .bool false, .bool true] 60 (0, 0))) := hF1.alloc _; have hR2 := HH.out.2.1.fr hF2 id; have m1 := hR2.g1; have hC2 := HH.out.1.fr hF2; have mr0 := hR2.g0; have mr2 := hR2.g2; have mr3 := hR2.g3; have mr4 := hR2.g4; have mr5 := hR2.g5; have mr6 := hR2.g6; have mr7 := hR2.g7; have mr8 := hR2.g8; have mr9 := hR2.g9; have mr10 := hR2.g10; have mr11 := hR2.g11; have mc0 := hC2.c0; have mc1 := hC2.c1; have mc2 := hC2.c2; have mc3 := hC2.c3; have mc4 := hC2.c4; have mc5 := hC2.c5; have mc6 := hC2.c6; have mc7 := hC2.c7;  have hO2 := HH.out.2.2.1.fr hF2 id; have hB2 : BAt (w1.alloc (.cells #[.int .i64 At, .int .i64 N, .int .i64 1024, .bool false, .bool true] 60 (0, 0))) w1.heap.size At N 1024 false true := ⟨heap_alloc_new w1 _⟩; have HX2 : Hid _ := And.intro hC2 (And.intro hR2 (And.intro hO2 (And.intro hB2 hF2))); clear hF1 hF2 hR2 hC2 hO2 hB2)
    | (refine wpList_load_row rfl 70 (.tmp 2) rfl w.heap.size rfl 70 #[.slice ao l cap, .int .i64 4, .string sh, .int .i64 At, .int .i64 N, .string nm, .bool may, .bool home] (0, 0) _ HX2.out.1.o Tryd.underlying70 rfl info_change ?_)
    | (refine wpList_load_row rfl 46 (.tmp 3) rfl (w.heap.size + 1) rfl 46 #[.string t, .string u, .bool fx, .bool ar, .int .i64 r1, .int .i64 c1, .bool x1, .bool y1, .int .i64 r2, .int .i64 c2, .bool x2, .bool y2] (0, 0) _ HX2.out.2.1.o Tryd.underlying46 rfl info_ref ?_)
    | (go_at_call 66; refine (HN _).mono ?_; rintro e w2 ⟨rfl, hF3⟩; have HX3 : Hid _ := And.intro (HX2.out.2.1.fr hF3 id) (And.intro (HX2.out.2.2.1.fr hF3 id) (And.intro (HX2.out.2.2.2.1.fr hF3) (HX2.out.2.2.2.2.trans hF3))); have n0 := HX3.out.2.2.1.c0; have n1 := HX3.out.2.2.1.c1; have n2 := HX3.out.2.2.1.c2; have n3 := HX3.out.2.2.1.c3; have n4 := HX3.out.2.2.1.c4; clear hF3)
    | (refine wpList_load_row rfl 46 (.tmp 3) rfl (w.heap.size + 1) rfl 46 #[.string t, .string u, .bool fx, .bool ar, .int .i64 r1, .int .i64 c1, .bool x1, .bool y1, .int .i64 r2, .int .i64 c2, .bool x2, .bool y2] (0, 0) _ HX3.out.1.o Tryd.underlying46 rfl info_ref ?_)
    | (go_at_call 67; refine (HV.out _).mono ?_; rintro e w3 ⟨rfl, hF4⟩; have HX4 : Hid _ := And.intro (HX3.out.2.1.fr hF4 id) (HX3.out.2.2.2.trans hF4); clear hF4)
    | (refine wpList_store_row rfl 46 (.tmp 4) (.tmp 43) rfl (w.heap.size + 1 + 1) #[.string ⟨#[]⟩, .string ⟨#[]⟩, .bool false, .bool false, .int .i64 0, .int .i64 0, .bool false, .bool false, .int .i64 0, .int .i64 0, .bool false, .bool false] rfl rfl 46 _ HX4.out.1.o info_ref rfl (ref_one _ _ _ _ _ _ _ _ _ _ _ _) ?_))
  refine bodyPost_ret (rret2 rfl _ _ (w.heap.size + 1 + 1) rfl rfl (HX4.out.1.row ⟨#[]⟩ ⟨#[]⟩ false false 0 0 false false 0 0 false false)) rfl ⟨rfl, (HH.out.2.2.2.trans HX4.out.2).setRowR _ (Or.inr (by omega)) _⟩
end Go.Proofs.YthokhnbecgkpbaaDoor
