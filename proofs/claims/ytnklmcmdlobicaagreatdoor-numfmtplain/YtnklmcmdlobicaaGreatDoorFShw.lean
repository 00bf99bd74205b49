/- Show of 7 by the format of one number. -/
import Derived.Test.YtnklmcmdlobicaaGreatDoorFRec
import Derived.Test.YtnklmcmdlobicaaGreatDoorShelf3
import Derived.Laws.Tables
namespace Go.Proofs.YtnklmcmdlobicaaGreatDoor
open Go.RowKit Ieee Go.Shelf
attribute [local go_sem] run_store_float

theorem VAt.all {w : World} {B : Nat} {k : Int} {n : Nat} {s : ByteArray} {y : Bool} {e : Int} (h : VAt w B k n s y e) : w.cell? ⟨B, 0, none⟩ = some (.int .i64 k) ∧ w.cell? ⟨B, 1, none⟩ = some (.float .f64 n) ∧ w.cell? ⟨B, 2, none⟩ = some (.string s) ∧ w.cell? ⟨B, 3, none⟩ = some (.bool y) ∧ w.cell? ⟨B, 4, none⟩ = some (.int .i64 e) := ⟨h.c0, h.c1, h.c2, h.c3, h.c4⟩
set_option maxRecDepth 100000 in
set_option maxHeartbeats 2000000 in
theorem formed7 (w : World) : Calls Tryz.prog 93 #[(.agg #[.int .i64 1, .float .f64 4619567317775286272, .string ⟨#[]⟩, .bool false, .int .i64 0])] w fun e w' => e = .returned (.bool true) ∧ Fr noB w w' := by
  have hRk := preckon_any 4619567317775286272 (by omega)
  rw [show rkK 4619567317775286272 = 1 by decide +kernel, show rkN 4619567317775286272 = 4619567317775286272 by decide +kernel, show rkE 4619567317775286272 = 0 by decide +kernel] at hRk
  have hSm := psame_any 1 4619567317775286272 ⟨#[]⟩ false 0 1 4619567317775286272 ⟨#[]⟩ false 0
  rw [show smB 1 4619567317775286272 ⟨#[]⟩ false 0 1 4619567317775286272 ⟨#[]⟩ false 0 = true from smB_self _ _ _ _ _] at hSm
  have hO : VAt (w.alloc (.cells #[.int .i64 1, .float .f64 4619567317775286272, .string ⟨#[]⟩, .bool false, .int .i64 0] 66 (0, 0))) w.heap.size 1 4619567317775286272 ⟨#[]⟩ false 0 := ⟨heap_alloc_new w _⟩
  obtain ⟨W, hW⟩ : ∃ W, w.alloc (.cells #[.int .i64 1, .float .f64 4619567317775286272, .string ⟨#[]⟩, .bool false, .int .i64 0] 66 (0, 0)) = W := ⟨_, rfl⟩
  rw [hW] at hO
  have hF : Fr noB w W := by rw [← hW]; exact (Fr.refl noB w).alloc _
  have HF : Hid _ := hF
  clear hF
  go_enter Tryz.func93, Tryz.ntmps93
  obtain ⟨a0, a1, a2, a3, a4⟩ := hO.all
  have hOd : VAt W.drew w.heap.size 1 4619567317775286272 ⟨#[]⟩ false 0 := ⟨hO.o⟩
  go_wp2_with fail
  go_region_held3 (fun w' => w'.cell? ⟨w.heap.size, 0, none⟩ = some (.int .i64 1) ∧ w'.cell? ⟨w.heap.size, 1, none⟩ = some (.float .f64 4619567317775286272) ∧ w'.cell? ⟨w.heap.size, 2, none⟩ = some (.string ⟨#[]⟩) ∧ w'.cell? ⟨w.heap.size, 3, none⟩ = some (.bool false) ∧ w'.cell? ⟨w.heap.size, 4, none⟩ = some (.int .i64 0)) (first | exact hOd.all | exact hO1.all | exact hO2.all) (first
    | (go_at_call 131; with_reducible refine (hRk _).mono ?_; rintro e w1 ⟨rfl, hF1⟩; have hO1 := hOd.fr hF1 id)
    | (go_at_call 130; with_reducible refine (hSm _).mono ?_; rintro e w2 ⟨rfl, hF2⟩; have hO2 := hO1.fr hF2 id))
  go_wp2_with fail
  go_ret
  exact ⟨rfl, ((HF.out.drew).trans hF1).trans hF2⟩
theorem num7 : numX 4619567317775286272 1 0 false = [55] := by decide +kernel
theorem num1234 : numX 4653144203864309760 1 2 true = [49, 44, 50, 51, 52, 46, 53, 48] := by decide +kernel
set_option maxRecDepth 100000 in
set_option maxHeartbeats 2000000 in
theorem vcheck7 (w : World) : Calls Tryz.prog 58 #[(.agg #[.int .i64 1, .float .f64 4619567317775286272, .string ⟨#[]⟩, .bool false, .int .i64 0])] w fun e w' => e = .returned (.int .i64 0) ∧ Fr noB w w' := by
  have hO : VAt (w.alloc (.cells #[.int .i64 1, .float .f64 4619567317775286272, .string ⟨#[]⟩, .bool false, .int .i64 0] 66 (0, 0))) w.heap.size 1 4619567317775286272 ⟨#[]⟩ false 0 := ⟨heap_alloc_new w _⟩
  have hF : Fr noB w (w.alloc (.cells #[.int .i64 1, .float .f64 4619567317775286272, .string ⟨#[]⟩, .bool false, .int .i64 0] 66 (0, 0))) := (Fr.refl noB w).alloc _
  go_enter Tryz.func58, Tryz.ntmps58
  go_wp2_with (go_at_call 93; refine (formed7 _).mono ?_; rintro e w1 ⟨rfl, hF1⟩; have c2 := (hO.fr hF1 id).c2)
  go_ret
  exact ⟨rfl, hF.trans hF1⟩
set_option maxRecDepth 100000 in
theorem isPlace1 (v : Option Addr) (c : Nat) (w : World) : Calls Tryz.prog 60 #[.slice v 1 c, .int .i64 0] w fun e w' => e = .returned (.bool true) ∧ w' = w := by
  go_enter Tryz.func60, Tryz.ntmps60
  go_wp2_with fail
  go_ret
  exact ⟨rfl, rfl⟩
/-- The list of formats lies in block b, its piece in block pb. -/
def Ls1 (w : World) (b pb : Nat) : Prop := w.heap[b]? = some (.cells #[.int .i64 1, .slice (some ⟨pb, 0, none⟩) 1 1, .slice none 0 0, .bool false] 62 (0, 0))
theorem Ls1.fr {w w' : World} {b pb : Nat} (h : Ls1 w b pb) (hF : Fr noB w w') : Ls1 w' b pb := hF.obj h id
theorem Ls1.cells {w : World} {b pb : Nat} (h : Ls1 w b pb) : w.cell? ⟨b, 0, none⟩ = some (.int .i64 1) ∧ w.cell? ⟨b, 1, none⟩ = some (.slice (some ⟨pb, 0, none⟩) 1 1) ∧ w.cell? ⟨b, 2, none⟩ = some (.slice none 0 0) ∧ w.cell? ⟨b, 3, none⟩ = some (.bool false) := by
  refine ⟨?_, ?_, ?_, ?_⟩ <;> exact cellOf h rfl
set_option maxRecDepth 100000 in
set_option maxHeartbeats 2000000 in
theorem pick7 (lb pb : Nat) (w : World) (hL : Ls1 w lb pb) : Calls Tryz.prog 59 #[.slice (some ⟨lb, 0, none⟩) 1 1, .int .i64 0, (.agg #[.int .i64 1, .float .f64 4619567317775286272, .string ⟨#[]⟩, .bool false, .int .i64 0])] w fun e w' => e = .returned (.int .i64 0) ∧ Fr noB w w' := by
  obtain ⟨l0, l1, l2, l3⟩ := hL.cells
  have hlb : lb < w.heap.size := lt_of_block hL
  clear hL
  go_enter Tryz.func59, Tryz.ntmps59
  go_wp2_with (go_at_call 60; refine (isPlace1 _ _ _).mono ?_; rintro e w1 ⟨rfl, h1⟩; subst h1)
  refine wp_loop_rounds 1 ?_
  rw [rounds_succ]
  go_wp2_with fail
  go_ret
  exact ⟨rfl, (Fr.refl noB _).alloc _⟩
set_option maxRecDepth 100000 in
theorem goesWith11 (w : World) : Calls Tryz.prog 97 #[.int .i64 1, .int .i64 1] w fun e w' => e = .returned (.bool true) ∧ w' = w := by
  go_enter Tryz.func97, Tryz.ntmps97
  go_wp2_with fail
  go_ret
  exact ⟨rfl, rfl⟩
set_option maxRecDepth 100000 in
set_option maxHeartbeats 2000000 in
theorem shows1 (pb : Nat) (w : World) (hP : Pc1 w pb) : Calls Tryz.prog 61 #[.agg #[.int .i64 1, .slice (some ⟨pb, 0, none⟩) 1 1, .slice none 0 0, .bool false], .int .i64 1, .int .i64 1] w fun e w' => e = .returned (.bool true) ∧ Fr noB w w' := by
  have hb : Ls1 (w.alloc (.cells #[.int .i64 1, .slice (some ⟨pb, 0, none⟩) 1 1, .slice none 0 0, .bool false] 62 (0, 0))) w.heap.size pb := heap_alloc_new w _
  have HCK := check1 pb (w.alloc (.cells #[.int .i64 1, .slice (some ⟨pb, 0, none⟩) 1 1, .slice none 0 0, .bool false] 62 (0, 0))) (hP.fr ((Fr.refl noB w).alloc _))
  go_enter Tryz.func61, Tryz.ntmps61
  go_wp2_with (first
    | (go_at_call 34; refine HCK.mono ?_; rintro e w2 ⟨rfl, hF2⟩; obtain ⟨d0, d1, d2, d3⟩ := (hb.fr hF2).cells)
    | (go_at_call 97; refine (goesWith11 _).mono ?_; rintro e w3 ⟨rfl, h3⟩; subst h3))
  go_ret
  exact ⟨rfl, ((Fr.refl noB w).alloc _).trans hF2⟩
/-- What is said of 7. -/
abbrev said7 : Value := .agg #[.string ⟨#[]⟩, .bool false, .float .f64 4619567317775286272, .int .i64 0, .int .i64 0, .int .i64 0, .int .i64 0, .int .i64 0, .int .i64 0, .int .i64 0, .int .i64 0]
set_option maxRecDepth 100000 in
set_option maxHeartbeats 2000000 in
theorem sayAmount7 (w : World) : Calls Tryz.prog 100 #[.int .i64 1, .float .f64 4619567317775286272] w fun e w' => e = .returned (.tuple #[said7, .bool true]) ∧ Fr noB w w' := by
  have HAb := abs_any 4619567317775286272 (by omega)
  rw [show 4619567317775286272 % 9223372036854775808 = 4619567317775286272 from rfl] at HAb
  have hlt : (FloatKind.f64.format.order 4619567317775286272 0 == some .lt) = false := by decide +kernel
  go_enter Tryz.func100, Tryz.ntmps100
  go_wp2_with (go_at_call 27; refine (HAb _).mono ?_; rintro e w1 ⟨rfl, h1⟩; subst h1)
  refine bodyPost_ret ?_ rfl ⟨rfl, (Fr.refl noB w).alloc _⟩
  simp [results, Tryz.results100, go_sem]
theorem Fr.setRowB {S : Nat → Prop} {a w : World} (h : Fr S a w) (g : Nat) (hp : S g ∨ a.heap.size ≤ g) (cs : Array Value) : Fr S a (w.setRow g cs) :=
  ⟨h.os, h.tape, h.output, by simpa [World.setRow] using h.size, fun k hk hs => by
    rw [← h.block k hk hs]
    have hne : ¬ g = k := fun e => by subst e; rcases hp with h | h; exact hs h; omega
    simp [World.setRow, Array.getElem?_modify, hne]⟩
theorem said_cells {w : World} {g : Nat} (h : w.heap[g]? = some (.cells #[.string ⟨#[]⟩, .bool false, .float .f64 4619567317775286272, .int .i64 0, .int .i64 0, .int .i64 0, .int .i64 0, .int .i64 0, .int .i64 0, .int .i64 0, .int .i64 0] 91 (0, 0))) : w.cell? ⟨g, 0, none⟩ = some (.string ⟨#[]⟩) ∧ w.cell? ⟨g, 1, none⟩ = some (.bool false) ∧ w.cell? ⟨g, 2, none⟩ = some (.float .f64 4619567317775286272) ∧ w.cell? ⟨g, 3, none⟩ = some (.int .i64 0) ∧ w.cell? ⟨g, 4, none⟩ = some (.int .i64 0) ∧ w.cell? ⟨g, 5, none⟩ = some (.int .i64 0) ∧ w.cell? ⟨g, 6, none⟩ = some (.int .i64 0) ∧ w.cell? ⟨g, 7, none⟩ = some (.int .i64 0) ∧ w.cell? ⟨g, 8, none⟩ = some (.int .i64 0) ∧ w.cell? ⟨g, 9, none⟩ = some (.int .i64 0) ∧ w.cell? ⟨g, 10, none⟩ = some (.int .i64 0) := by
  refine ⟨?_, ?_, ?_, ?_, ?_, ?_, ?_, ?_, ?_, ?_, ?_⟩ <;> exact cellOf h rfl
theorem alloc3_obj (w : World) (o1 o2 o3 : Obj) : (((w.alloc o1).alloc o2).alloc o3).heap[w.heap.size + 1 + 1]? = some o3 := by
  have := heap_alloc_new ((w.alloc o1).alloc o2) o3
  simpa using this
theorem said_one : (#[.string ⟨#[]⟩, .bool false, .float .f64 4619567317775286272, .int .i64 0, .int .i64 0, .int .i64 0, .int .i64 0, .int .i64 0, .int .i64 0, .int .i64 0, .int .i64 0] : Array Value).all (·.oneCell') = true := by kernel_rfl
theorem info_said : (Tryz.prog.info? 91).map (·.size) = some 11 := by kernel_rfl
set_option maxRecDepth 100000 in
set_option maxHeartbeats 2000000 in
theorem say7 (pb : Nat) (w : World) : Calls Tryz.prog 63 #[.agg #[.int .i64 1, .slice (some ⟨pb, 0, none⟩) 1 1, .slice none 0 0, .bool false], (.agg #[.int .i64 1, .float .f64 4619567317775286272, .string ⟨#[]⟩, .bool false, .int .i64 0])] w fun e w' => e = .returned (.tuple #[said7, .bool true]) ∧ Fr noB w w' := by
  go_enter Tryz.func63, Tryz.ntmps63
  go_wp2_with (first
    | (go_at_call 100; refine (sayAmount7 _).mono ?_; rintro e w1 ⟨rfl, hF1⟩; have hg := hF1.obj (alloc3_obj w _ _ _) id)
    | (refine wpList_store_row rfl 91 (.tmp 4) (.tmp 28) rfl (w.heap.size + 1 + 1) #[.string ⟨#[]⟩, .bool false, .float .f64 4619567317775286272, .int .i64 0, .int .i64 0, .int .i64 0, .int .i64 0, .int .i64 0, .int .i64 0, .int .i64 0, .int .i64 0] rfl rfl 91 _ hg info_said rfl said_one ?_))
  have hg2 := setRow_heap w1 _ _ #[.string ⟨#[]⟩, .bool false, .float .f64 4619567317775286272, .int .i64 0, .int .i64 0, .int .i64 0, .int .i64 0, .int .i64 0, .int .i64 0, .int .i64 0, .int .i64 0] _ _ hg
  obtain ⟨c0, c1, c2, c3, c4, c5, c6, c7, c8, c9, c10⟩ := said_cells hg2
  have hF2 : Fr noB w (w1.setRow (w.heap.size + 1 + 1) #[.string ⟨#[]⟩, .bool false, .float .f64 4619567317775286272, .int .i64 0, .int .i64 0, .int .i64 0, .int .i64 0, .int .i64 0, .int .i64 0, .int .i64 0, .int .i64 0]) := ((((((Fr.refl noB w).alloc _).alloc _).alloc _).trans hF1).setRowB _ (Or.inr (by omega)) _)
  generalize w1.setRow (w.heap.size + 1 + 1) #[.string ⟨#[]⟩, .bool false, .float .f64 4619567317775286272, .int .i64 0, .int .i64 0, .int .i64 0, .int .i64 0, .int .i64 0, .int .i64 0, .int .i64 0, .int .i64 0] = W2 at *
  clear hg hg2 hF1
  refine bodyPost_ret ?_ rfl ⟨rfl, hF2⟩
  simp [results, Tryz.results63, go_sem, c0, c1, c2, c3, c4, c5, c6, c7, c8, c9, c10]
set_option maxRecDepth 100000 in
set_option maxHeartbeats 2000000 in
theorem showNumber7 (M : Nat) (w : World) (hX : XTab w) (hO : OTab w) (hT : CTab w M) : Calls Tryz.prog 151 #[.agg #[.int .i64 2, .string ⟨#[]⟩, .int .i64 1, .int .i64 0, .int .i64 0, .bool false, .bool false], said7] w fun e w' => e = .returned (.string ⟨#[55]⟩) ∧ Fr noB w w' := by
  have HN : Hid (∀ W, Fr noB w W → Calls Tryz.prog 6 #[.float .f64 4619567317775286272, .int .i64 1, .int .i64 0, .bool false] W fun e w' => e = .returned (.tuple #[.string ⟨#[55]⟩, .int .i64 0]) ∧ Fr noB W w') := by
    intro W hW
    have h := number_fin 4619567317775286272 1 0 M false W (by omega) (by decide +kernel) (by omega) (by omega) (hX.fr hW) (hO.fr hW) (hT.low hW (fun _ _ h => h.elim))
    rw [num7] at h
    exact h
  clear hX hO hT
  go_enter Tryz.func151, Tryz.ntmps151
  go_wp2_with (go_at_call 6; refine (HN.out _ (((Fr.refl noB w).alloc _).alloc _)).mono ?_; rintro e w1 ⟨rfl, hF1⟩)
  go_ret
  exact ⟨rfl, (((Fr.refl noB w).alloc _).alloc _).trans hF1⟩
#print axioms say7
#print axioms showNumber7
end Go.Proofs.YtnklmcmdlobicaaGreatDoor
