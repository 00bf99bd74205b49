/- joined and Show of 7 by the format of one number. -/
import Derived.Test.YtnklmcmdlobicaaGreatDoorFShw
namespace Go.Proofs.YtnklmcmdlobicaaGreatDoor
open Go.RowKit Ieee Go.Shelf
attribute [local go_sem] run_store_float

/-- The table of functions. -/
abbrev ways7 : Array Value := #[.nilFunc, .func (.func 150) #[] #[], .func (.func 151) #[] #[], .func (.func 152) #[] #[], .func (.func 153) #[] #[], .func (.func 150) #[] #[], .func (.func 154) #[] #[], .func (.func 156) #[] #[], .func (.func 157) #[] #[], .func (.func 159) #[] #[], .func (.func 160) #[] #[], .func (.func 162) #[] #[], .func (.func 163) #[] #[], .func (.func 164) #[] #[], .func (.func 165) #[] #[]]
theorem ways_one : ways7.all (·.oneCell') = true := by kernel_rfl
theorem info_ways : (Tryz.prog.info? 129).map (·.size) = some 15 := by kernel_rfl
set_option maxRecDepth 100000 in
set_option maxHeartbeats 2000000 in
theorem ways_any (w : World) : Calls Tryz.prog 101 #[] w fun e w' => e = .returned (.agg ways7) ∧ Fr noB w w' := by
  go_enter Tryz.func101, Tryz.ntmps101
  go_wp2_with (refine wpList_store_row rfl 129 (.tmp 0) (.tmp 15) rfl w.heap.size ways7 rfl rfl 129 _ (heap_alloc_new w _) info_ways rfl ways_one ?_; rw [World.setRow_alloc_new])
  exact bodyPost_ret (results_cell_row Tryz.results101 _ _ w.heap.size 129 ways7 (0, 0) _ rfl (heap_alloc_new w _) Tryz.underlying129 rfl info_ways) rfl ⟨rfl, (Fr.refl noB w).alloc _⟩
theorem contains7 (w : World) : Calls Tryz.prog 103 #[.string ⟨#[55]⟩, .string ⟨#[49, 50, 51, 52, 53, 54, 55, 56, 57]⟩] w fun e w' => e = .returned (.bool true) ∧ Fr noB w w' := by
  have h := Any.strings_ContainsAny_laid Tryz.laysLaysn150 (by kernel_rfl) ⟨#[55]⟩ ⟨#[49, 50, 51, 52, 53, 54, 55, 56, 57]⟩ w (by decide) (by decide) (by
      intro j b hj
      match j, hj with
      | 0, hj => cases hj; decide
      | j + 1, hj => simp at hj) (by
      intro j b hj
      have hm := List.mem_of_getElem? hj
      have hall : ∀ b ∈ ([49, 50, 51, 52, 53, 54, 55, 56, 57] : List UInt8), b.toNat < 128 := by decide
      exact hall b hm)
  refine h.mono ?_
  rintro e w' ⟨rfl, hb⟩
  exact ⟨by rw [show Lib.containsAny (⟨#[55]⟩ : ByteArray).data.toList (⟨#[49, 50, 51, 52, 53, 54, 55, 56, 57]⟩ : ByteArray).data.toList = true by decide], Fr.ofBelow hb⟩
/-- All that the pieces read in the round. -/
def Rd7 (w : World) (bp bw bs : Nat) : Prop := Pc1 w bp ∧ w.heap[bw]? = some (.cells ways7 129 (0, 0)) ∧ w.heap[bs]? = some (.cells #[.string ⟨#[]⟩, .bool false, .float .f64 4619567317775286272, .int .i64 0, .int .i64 0, .int .i64 0, .int .i64 0, .int .i64 0, .int .i64 0, .int .i64 0, .int .i64 0] 91 (0, 0))
theorem Rd7.fr {w w' : World} {bp bw bs : Nat} (h : Rd7 w bp bw bs) (hF : Fr noB w w') : Rd7 w' bp bw bs := ⟨h.1.fr hF, hF.obj h.2.1 id, hF.obj h.2.2 id⟩
theorem Rd7.cells {w : World} {bp bw bs : Nat} (h : Rd7 w bp bw bs) : (w.cell? ⟨bp, 0, none⟩ = some (.int .i64 2) ∧ w.cell? ⟨bp, 1, none⟩ = some (.string ⟨#[]⟩) ∧ w.cell? ⟨bp, 2, none⟩ = some (.int .i64 1) ∧ w.cell? ⟨bp, 3, none⟩ = some (.int .i64 0) ∧ w.cell? ⟨bp, 4, none⟩ = some (.int .i64 0) ∧ w.cell? ⟨bp, 5, none⟩ = some (.bool false) ∧ w.cell? ⟨bp, 6, none⟩ = some (.bool false)) ∧ w.cell? ⟨bw, 2, none⟩ = some (.func (.func 151) #[] #[]) ∧ (w.cell? ⟨bs, 0, none⟩ = some (.string ⟨#[]⟩) ∧ w.cell? ⟨bs, 1, none⟩ = some (.bool false) ∧ w.cell? ⟨bs, 2, none⟩ = some (.float .f64 4619567317775286272) ∧ w.cell? ⟨bs, 3, none⟩ = some (.int .i64 0) ∧ w.cell? ⟨bs, 4, none⟩ = some (.int .i64 0) ∧ w.cell? ⟨bs, 5, none⟩ = some (.int .i64 0) ∧ w.cell? ⟨bs, 6, none⟩ = some (.int .i64 0) ∧ w.cell? ⟨bs, 7, none⟩ = some (.int .i64 0) ∧ w.cell? ⟨bs, 8, none⟩ = some (.int .i64 0) ∧ w.cell? ⟨bs, 9, none⟩ = some (.int .i64 0) ∧ w.cell? ⟨bs, 10, none⟩ = some (.int .i64 0)) :=
  ⟨h.1.cells, cellOf h.2.1 rfl, said_cells h.2.2⟩
set_option maxRecDepth 100000 in
set_option maxHeartbeats 4000000 in
theorem joined7 (M pb : Nat) (w : World) (hP : Pc1 w pb) (hX : XTab w) (hO : OTab w) (hT : CTab w M) : Calls Tryz.prog 64 #[.slice (some ⟨pb, 0, none⟩) 1 1, said7, .bool false] w fun e w' => e = .returned (.string ⟨#[55]⟩) ∧ Fr noB w w' := by
  obtain ⟨W1, hW1⟩ : ∃ W1, (w.alloc (.cells #[.string ⟨#[]⟩, .bool false, .float .f64 4619567317775286272, .int .i64 0, .int .i64 0, .int .i64 0, .int .i64 0, .int .i64 0, .int .i64 0, .int .i64 0, .int .i64 0] 91 (0, 0))).alloc (.cells #[.pointer none, .slice none 0 0] 74 (0, 0)) = W1 := ⟨_, rfl⟩
  have hF1 : Fr noB w W1 := by rw [← hW1]; exact ((Fr.refl noB w).alloc _).alloc _
  have hz1 : W1.heap.size = w.heap.size + 2 := by rw [← hW1]; simp
  have hI1 : Bld (w.heap.size + 1) (w.heap.size + 1) (Lib.byteCells []) W1 := by
    rw [← hW1]
    have h := Lib.IsBuilderF.of (Lib.fresh_isBuilder 74 5 (w.alloc (.cells #[.string ⟨#[]⟩, .bool false, .float .f64 4619567317775286272, .int .i64 0, .int .i64 0, .int .i64 0, .int .i64 0, .int .i64 0, .int .i64 0, .int .i64 0, .int .i64 0] 91 (0, 0))))
    rw [show (w.alloc (.cells #[.string ⟨#[]⟩, .bool false, .float .f64 4619567317775286272, .int .i64 0, .int .i64 0, .int .i64 0, .int .i64 0, .int .i64 0, .int .i64 0, .int .i64 0, .int .i64 0] 91 (0, 0))).heap.size = w.heap.size + 1 by simp] at h
    exact h
  have hs1 : W1.heap[w.heap.size]? = some (.cells #[.string ⟨#[]⟩, .bool false, .float .f64 4619567317775286272, .int .i64 0, .int .i64 0, .int .i64 0, .int .i64 0, .int .i64 0, .int .i64 0, .int .i64 0, .int .i64 0] 91 (0, 0)) := by
    rw [← hW1]
    exact ((Fr.refl noB (w.alloc (.cells #[.string ⟨#[]⟩, .bool false, .float .f64 4619567317775286272, .int .i64 0, .int .i64 0, .int .i64 0, .int .i64 0, .int .i64 0, .int .i64 0, .int .i64 0, .int .i64 0] 91 (0, 0)))).alloc _).obj (heap_alloc_new w _) id
  have HSN : Hid (∀ W, Fr noB w W → Calls Tryz.prog 151 #[.agg #[.int .i64 2, .string ⟨#[]⟩, .int .i64 1, .int .i64 0, .int .i64 0, .bool false, .bool false], said7] W fun e w' => e = .returned (.string ⟨#[55]⟩) ∧ Fr noB W w') := fun W h => showNumber7 M W (hX.fr h) (hO.fr h) (hT.low h (fun _ _ h => h.elim))
  have HP : Hid (Pc1 w pb) := hP
  have HH : Hid (Fr noB w W1 ∧ W1.heap.size = w.heap.size + 2 ∧ Bld (w.heap.size + 1) (w.heap.size + 1) (Lib.byteCells []) W1 ∧ W1.heap[w.heap.size]? = some (.cells #[.string ⟨#[]⟩, .bool false, .float .f64 4619567317775286272, .int .i64 0, .int .i64 0, .int .i64 0, .int .i64 0, .int .i64 0, .int .i64 0, .int .i64 0, .int .i64 0] 91 (0, 0))) := ⟨hF1, hz1, hI1, hs1⟩
  clear hX hO hT hF1 hz1 hI1 hs1 hP
  go_enter Tryz.func64, Tryz.ntmps64
  go_wp2_with (first
    | (go_at_call 101; refine (ways_any _).mono ?_; rintro e w2 ⟨rfl, hF2⟩)
    | (refine wpList_store_row rfl 129 (.tmp 8) (.tmp 13) rfl w2.heap.size ways7 rfl rfl 129 _ (heap_alloc_new w2 _) info_ways rfl ways_one ?_; rw [World.setRow_alloc_new]))
  obtain ⟨hF1, hz1, hI1, hs1⟩ := HH.out
  have hz2 := hF2.size
  obtain ⟨W3, hW3⟩ : ∃ W3, w2.alloc (.cells ways7 129 (0, 0)) = W3 := ⟨_, rfl⟩
  have hF3 : Fr noB w2 W3 := by rw [← hW3]; exact (Fr.refl noB w2).alloc _
  have hw3 : W3.heap[w2.heap.size]? = some (.cells ways7 129 (0, 0)) := by rw [← hW3]; exact heap_alloc_new w2 _
  have hI3 := Bld.keep hI1 (hF2.trans hF3)
  have hs3 := (hF2.trans hF3).obj hs1 id
  have hFw3 := (hF1.trans hF2).trans hF3
  have hP3 := HP.out.fr hFw3
  have hz3 : W3.heap.size = w2.heap.size + 1 := by rw [← hW3]; simp
  obtain ⟨p0, p1, p2, p3, p4, p5, p6⟩ := hP3.cells
  rw [hW3]
  obtain ⟨bw, hbw⟩ : ∃ bw, w2.heap.size = bw := ⟨_, rfl⟩
  rw [hbw] at hw3 hz3 ⊢
  have HK : Hid (Fr noB w W3 ∧ W3.heap.size = bw + 1 ∧ w.heap.size + 2 ≤ bw ∧ Bld (w.heap.size + 1) (w.heap.size + 1) (Lib.byteCells []) W3 ∧ W3.heap[w.heap.size]? = some (.cells #[.string ⟨#[]⟩, .bool false, .float .f64 4619567317775286272, .int .i64 0, .int .i64 0, .int .i64 0, .int .i64 0, .int .i64 0, .int .i64 0, .int .i64 0, .int .i64 0] 91 (0, 0)) ∧ W3.heap[bw]? = some (.cells ways7 129 (0, 0))) := ⟨hFw3, hz3, by omega, hI3, hs3, hw3⟩
  clear HH hF1 hz1 hI1 hs1 hz2 hW3 hF3 hw3 hI3 hs3 hFw3 hP3 hz3 hbw hF2 hW1 HP
  refine wp_loop_rounds 2 ?_
  rw [rounds_succ]
  go_wp2_with fail
  obtain ⟨W4, hW4⟩ : ∃ W4, W3.alloc (.cells #[.int .i64 2, .string ⟨#[]⟩, .int .i64 1, .int .i64 0, .int .i64 0, .bool false, .bool false] 58 (0, 0)) = W4 := ⟨_, rfl⟩
  obtain ⟨hFw3, hz3, hb2, hI3, hs3, hw3⟩ := HK.out
  have hF4 : Fr noB W3 W4 := by rw [← hW4]; exact (Fr.refl noB W3).alloc _
  have hR4 : Rd7 W4 (bw + 1) bw w.heap.size := ⟨by rw [← hW4, ← hz3]; exact heap_alloc_new W3 _, hF4.obj hw3 id, hF4.obj hs3 id⟩
  have hI4 := Bld.keep hI3 hF4
  have hFw4 := hFw3.trans hF4
  rw [hW4, hz3]
  have hR4d : Rd7 W4.drew (bw + 1) bw w.heap.size := hR4
  have HL : Hid (Fr noB w W4 ∧ w.heap.size + 2 ≤ bw ∧ Bld (w.heap.size + 1) (w.heap.size + 1) (Lib.byteCells []) W4) := ⟨hFw4, hb2, hI4⟩
  have HSN4 := HSN.out W4.drew hFw4.drew
  clear HK hFw3 hz3 hb2 hI3 hs3 hw3 hF4 hI4 hFw4 hW4 p0 p1 p2 p3 p4 p5 p6 HSN hR4
  go_region_held3 (fun w' => (w'.cell? ⟨bw + 1, 0, none⟩ = some (.int .i64 2) ∧ w'.cell? ⟨bw + 1, 1, none⟩ = some (.string ⟨#[]⟩) ∧ w'.cell? ⟨bw + 1, 2, none⟩ = some (.int .i64 1) ∧ w'.cell? ⟨bw + 1, 3, none⟩ = some (.int .i64 0) ∧ w'.cell? ⟨bw + 1, 4, none⟩ = some (.int .i64 0) ∧ w'.cell? ⟨bw + 1, 5, none⟩ = some (.bool false) ∧ w'.cell? ⟨bw + 1, 6, none⟩ = some (.bool false)) ∧ w'.cell? ⟨bw, 2, none⟩ = some (.func (.func 151) #[] #[]) ∧ (w'.cell? ⟨w.heap.size, 0, none⟩ = some (.string ⟨#[]⟩) ∧ w'.cell? ⟨w.heap.size, 1, none⟩ = some (.bool false) ∧ w'.cell? ⟨w.heap.size, 2, none⟩ = some (.float .f64 4619567317775286272) ∧ w'.cell? ⟨w.heap.size, 3, none⟩ = some (.int .i64 0) ∧ w'.cell? ⟨w.heap.size, 4, none⟩ = some (.int .i64 0) ∧ w'.cell? ⟨w.heap.size, 5, none⟩ = some (.int .i64 0) ∧ w'.cell? ⟨w.heap.size, 6, none⟩ = some (.int .i64 0) ∧ w'.cell? ⟨w.heap.size, 7, none⟩ = some (.int .i64 0) ∧ w'.cell? ⟨w.heap.size, 8, none⟩ = some (.int .i64 0) ∧ w'.cell? ⟨w.heap.size, 9, none⟩ = some (.int .i64 0) ∧ w'.cell? ⟨w.heap.size, 10, none⟩ = some (.int .i64 0))) (first | exact hR4d.cells | exact hR5.cells) ((go_at_call 151; with_reducible refine HSN4.mono ?_; rintro e w5 ⟨rfl, hF5⟩; have hR5 := hR4d.fr hF5))
  obtain ⟨hFw4, hb2, hI4⟩ := HL.out
  have hF45 : Fr noB W4 w5 := ((Fr.refl noB W4).drew).trans hF5
  have hI5 := Bld.keep hI4 hF45
  have hFw5 := hFw4.trans hF45
  have c0 := hR5.1.cells.1
  have HM : Hid (Fr noB w w5 ∧ Bld (w.heap.size + 1) (w.heap.size + 1) (Lib.byteCells []) w5 ∧ w.heap.size + 1 ≤ w5.heap.size) := ⟨hFw5, hI5, by have := lt_of_block hR5.1; omega⟩
  clear HL hFw4 hb2 hI4 hF45 hI5 hFw5 hR5 hR4d hF5 HSN4
  go_wp2_with (first
    | (go_at_call 102; with_reducible refine (isAmount2 _).mono ?_; rintro e w9 ⟨rfl, h9⟩; subst h9)
    | (go_at_call 103; with_reducible refine (contains7 _).mono ?_; rintro e w6 ⟨rfl, hF6⟩))
  obtain ⟨hFw5, hI5, hz5⟩ := HM.out
  have hz6 := hF6.size
  have HW := writeString_any (w.heap.size + 1) (w.heap.size + 1) _ ⟨#[55]⟩ w6 (Bld.keep hI5 hF6) (by rw [Lib.byteCells_length]; decide) (by omega)
  rw [Lib.strCells_eq, ← Lib.byteCells_append] at HW
  have HN6 : Hid (Fr noB w w6 ∧ w.heap.size + 1 ≤ w6.heap.size) := ⟨hFw5.trans hF6, by omega⟩
  clear HM hFw5 hI5 hz5 hz6 hF6 c0
  refine HW.mono ?_
  rintro e w7 ⟨rfl, hB7, hb7, _⟩
  have HS := bldString_any (w.heap.size + 1) (w.heap.size + 1) _ w7 (Or.inr hB7) (by have := hb7.size; have := HN6.out.2; omega)
  have HF7 : Hid (Below w.heap.size w w7) := by
    show Below _ _ _
    exact (HN6.out.1.below (Nat.le_refl _) (fun _ h => h.elim)).trans (hb7.mono (Nat.le_succ _))
  rw [show ([] ++ (⟨#[55]⟩ : ByteArray).data.toList : List UInt8) = [55] from rfl] at HS
  clear HW hB7 hb7 HN6
  go_wp2_with fail
  rw [rounds_succ]
  go_wp2_with (first
    | (go_at_call 49; refine HS.mono ?_; rintro e w8 ⟨rfl, hb8⟩)
    | (go_at_call 19; refine (fsigned_any false ⟨#[55]⟩ (by decide) _).mono ?_; rintro e w10 ⟨rfl, h10⟩; subst h10))
  go_ret
  exact ⟨rfl, Fr.ofBelow (HF7.out.trans (hb8.mono (Nat.le_succ _)))⟩
#print axioms joined7
end Go.Proofs.YtnklmcmdlobicaaGreatDoor
