/- begun: Check of the format of one number. -/
import Derived.Test.YtnklmcmdlobicaaGreatDoorFNum
import Derived.LoopN
namespace Go.Proofs.YtnklmcmdlobicaaGreatDoor
open Go.RowKit Ieee Go.Shelf

set_option maxRecDepth 100000 in
theorem isAmount2 (w : World) : Calls Tryz.prog 102 #[.int .i64 2] w fun e w' => e = .returned (.bool true) ∧ w' = w := by
  go_enter Tryz.func102, Tryz.ntmps102
  go_wp2_with fail
  go_ret
  exact ⟨rfl, rfl⟩
set_option maxRecDepth 100000 in
theorem mayHave12 (w : World) : Calls Tryz.prog 104 #[.int .i64 1, .int .i64 2] w fun e w' => e = .returned (.bool true) ∧ w' = w := by
  go_enter Tryz.func104, Tryz.ntmps104
  go_wp2_with (go_at_call 102; refine (isAmount2 _).mono ?_; rintro e w1 ⟨rfl, h1⟩; subst h1)
  go_ret
  exact ⟨rfl, rfl⟩
/-- The piece that says a number with one digit at least. -/
def pc1 : Array Value := #[.int .i64 2, .string ⟨#[]⟩, .int .i64 1, .int .i64 0, .int .i64 0, .bool false, .bool false]
set_option maxRecDepth 100000 in
set_option maxHeartbeats 2000000 in
theorem pieceFits1 (w : World) : Calls Tryz.prog 105 #[.agg #[.int .i64 2, .string ⟨#[]⟩, .int .i64 1, .int .i64 0, .int .i64 0, .bool false, .bool false]] w fun e w' => e = .returned (.bool true) ∧ Fr noB w w' := by
  have HNF := numberFits_any 1 0
  rw [show nfB 1 0 = true by decide] at HNF
  go_enter Tryz.func105, Tryz.ntmps105
  go_wp2_with fail
  go_region
  go_wp2_with (go_at_call 13; refine (HNF _).mono ?_; rintro e w1 ⟨rfl, h1⟩; subst h1)
  go_ret
  exact ⟨rfl, (((Fr.refl noB w).alloc _).alloc _).drew⟩
/-- The piece lies in block b. -/
def Pc1 (w : World) (b : Nat) : Prop := w.heap[b]? = some (.cells #[.int .i64 2, .string ⟨#[]⟩, .int .i64 1, .int .i64 0, .int .i64 0, .bool false, .bool false] 58 (0, 0))
theorem Pc1.fr {w w' : World} {b : Nat} (h : Pc1 w b) (hF : Fr noB w w') : Pc1 w' b := hF.obj h id
theorem Pc1.cells {w : World} {b : Nat} (h : Pc1 w b) : w.cell? ⟨b, 0, none⟩ = some (.int .i64 2) ∧ w.cell? ⟨b, 1, none⟩ = some (.string ⟨#[]⟩) ∧ w.cell? ⟨b, 2, none⟩ = some (.int .i64 1) ∧ w.cell? ⟨b, 3, none⟩ = some (.int .i64 0) ∧ w.cell? ⟨b, 4, none⟩ = some (.int .i64 0) ∧ w.cell? ⟨b, 5, none⟩ = some (.bool false) ∧ w.cell? ⟨b, 6, none⟩ = some (.bool false) := by
  refine ⟨?_, ?_, ?_, ?_, ?_, ?_, ?_⟩ <;> exact cellOf h rfl
theorem alloc2_obj (w : World) (o1 o2 : Obj) : ((w.alloc o1).alloc o2).heap[w.heap.size + 1]? = some o2 := by
  have := heap_alloc_new (w.alloc o1) o2
  simpa using this
set_option maxRecDepth 100000 in
set_option maxHeartbeats 2000000 in
theorem piecesFit1 (pb : Nat) (w : World) (hP : Pc1 w pb) : Calls Tryz.prog 65 #[.agg #[.int .i64 1, .slice (some ⟨pb, 0, none⟩) 1 1, .slice none 0 0, .bool false]] w fun e w' => e = .returned (.bool true) ∧ Fr noB w w' := by
  obtain ⟨c0, c1, c2, c3, c4, c5, c6⟩ := hP.cells
  have hpb : pb < w.heap.size := lt_of_block hP
  clear hP
  go_enter Tryz.func65, Tryz.ntmps65
  go_wp2_with fail
  refine wp_loop_rounds 2 ?_
  rw [rounds_succ]
  go_wp2_with (first
    | (go_at_call 104; refine (mayHave12 _).mono ?_; rintro e w1 ⟨rfl, h1⟩; subst h1)
    | (go_at_call 105; refine (pieceFits1 _).mono ?_; rintro e w2 ⟨rfl, hF2⟩; have d0 : w2.cell? ⟨w.heap.size + 1, 0, none⟩ = some (.int .i64 2) := cellOf (hF2.obj (alloc2_obj w _ _) id) rfl)
    | (go_at_call 102; refine (isAmount2 _).mono ?_; rintro e w3 ⟨rfl, h3⟩; subst h3))
  rw [rounds_succ]
  go_wp2_with fail
  go_ret
  exact ⟨rfl, ((((Fr.refl noB w).alloc _).alloc _).trans hF2)⟩
set_option maxRecDepth 100000 in
theorem mapsFit0 (many : Int) (w : World) : Calls Tryz.prog 66 #[.slice none 0 0, .int .i64 many] w fun e w' => e = .returned (.bool true) ∧ Fr noB w w' := by
  go_enter Tryz.func66, Tryz.ntmps66
  go_wp2_with fail
  refine wp_loop_rounds 1 ?_
  rw [rounds_succ]
  go_wp2_with fail
  go_ret
  exact ⟨rfl, Fr.refl _ _⟩
set_option maxRecDepth 100000 in
set_option maxHeartbeats 2000000 in
theorem check1 (pb : Nat) (w : World) (hP : Pc1 w pb) : Calls Tryz.prog 34 #[.agg #[.int .i64 1, .slice (some ⟨pb, 0, none⟩) 1 1, .slice none 0 0, .bool false], .int .i64 1] w fun e w' => e = .returned (.int .i64 0) ∧ Fr noB w w' := by
  have HPF := piecesFit1 pb (w.alloc (.cells #[.int .i64 1, .slice (some ⟨pb, 0, none⟩) 1 1, .slice none 0 0, .bool false] 62 (0, 0))) (hP.fr ((Fr.refl noB w).alloc _))
  go_enter Tryz.func34, Tryz.ntmps34
  go_wp2_with (first
    | (go_at_call 65; refine HPF.mono ?_; rintro e w2 ⟨rfl, hF2⟩; have d2 : w2.cell? ⟨w.heap.size, 2, none⟩ = some (.slice none 0 0) := cellOf (hF2.obj (heap_alloc_new w _) id) rfl)
    | (go_at_call 66; refine (mapsFit0 _ _).mono ?_; rintro e w3 ⟨rfl, hF3⟩))
  go_ret
  exact ⟨rfl, (((Fr.refl noB w).alloc _).trans hF2).trans hF3⟩
#print axioms check1
end Go.Proofs.YtnklmcmdlobicaaGreatDoor
