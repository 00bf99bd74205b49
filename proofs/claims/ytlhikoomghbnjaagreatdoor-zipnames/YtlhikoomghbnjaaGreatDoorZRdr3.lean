/- The reader's head, local header and record, where they stand whole. -/
import Derived.Test.YtlhikoomghbnjaaGreatDoorZRdr2
import Derived.Test.YtlhikoomghbnjaaGreatDoorEq
namespace Go.Proofs.YtlhikoomghbnjaaGreatDoor
open Go.RowKit
attribute [local go_sem ↓] Go.wp_at_zero Go.wp_at_succ

theorem Bld.later {w0 w : World} {rb : Nat} {t : TypeId} {cs : Array Value} {ao : Option Addr} {cap : Nat} {B : List Nat} {lack p : Nat} {a : Nat} {ca : Array Value} {ty : TypeId} (rd : RdA w rb t cs ao cap B lack p) (ha : w.heap[a]? = some (.cells ca ty (0, 0))) (fr : Fr (oneB rb) w0 w) (a0 : w0.heap.size ≤ a) (rlt : rb < w0.heap.size) (olt : ∀ k off sp, ao = some ⟨k, off, sp⟩ → k < w0.heap.size) (cb : Array Value) :
    Bld w0 (w.alloc (.cells cb ty (0, 0))) rb t cs ao cap B lack p a w.heap.size ca cb ty := by
  have hal := lt_of_block ha
  have hs := fr.size
  exact ⟨rd.keep ((Fr.refl noB w).alloc _), (Below.heap_alloc _ _ _ hal).trans ha, heap_alloc_new _ _, fr.alloc _, a0, hs, by omega, rlt, olt⟩

section
variable (rb : Nat) (t : TypeId) (cs : Array Value) (ao : Option Addr) (cap : Nat) (B : List Nat) (lack : Nat)

set_option maxRecDepth 100000 in
set_option maxHeartbeats 1600000 in
theorem headA (p : Nat) (w : World) (h : RdA w rb t cs ao cap B lack p) (hB : ∀ x ∈ B, x < 256) (hn : p + 20 ≤ B.length) :
    Calls Tryz.prog 62 #[.pointer (some ⟨rb, 0, none⟩)] w fun e w' => e = .returned (hdV (shAt B p) (shAt B (p + 2)) (lgAt B (p + 8)) (lgAt B (p + 12)) (lgAt B (p + 16)) ⟨#[]⟩) ∧ RdA w' rb t cs ao cap B lack (p + 20) ∧ Fr (oneB rb) w w' := by
  have HC : Hid (∀ q w1, q + 2 ≤ B.length → RdA w1 rb t cs ao cap B lack q → Calls Tryz.prog 54 #[.pointer (some ⟨rb, 0, none⟩)] w1 fun e w' => e = .returned (.int .u16 ((shAt B q : Nat) : Int)) ∧ RdA w' rb t cs ao cap B lack (q + 2) ∧ Fr (oneB rb) w1 w') := fun q w1 hq h1 => shortA rb t cs ao cap B lack q w1 h1 hB hq
  have HK : Hid (∀ w1, RdA w1 rb t cs ao cap B lack (p + 4) → Calls Tryz.prog 51 #[.pointer (some ⟨rb, 0, none⟩), .int .i64 4] w1 fun e w' => e = .returned (.tuple #[]) ∧ RdA w' rb t cs ao cap B lack (p + 8) ∧ Fr (oneB rb) w1 w') := fun w1 h1 => skipA rb t cs ao cap B lack 4 (p + 4) (p + 8) w1 h1 rfl (by omega)
  have HL : Hid (∀ w1, RdA w1 rb t cs ao cap B lack (p + 8) → Calls Tryz.prog 75 #[.pointer (some ⟨rb, 0, none⟩)] w1 fun e w' => e = .returned (lg3 (lgAt B (p + 8)) (lgAt B (p + 12)) (lgAt B (p + 16))) ∧ RdA w' rb t cs ao cap B lack (p + 20) ∧ Fr (oneB rb) w1 w') := fun w1 h1 => longsA rb t cs ao cap B lack (p + 8) w1 h1 hB (by omega)
  have H0 : Hid _ := Bld.start (ty := 69) h (by omega) #[.int .u16 0, .int .u16 0, .int .u32 0, .int .u32 0, .int .u32 0, .string ⟨#[]⟩]
  have C1 := HC.out p _ (by omega) H0.out.rd
  clear h hB
  have HC2 := fun w1 => HC.out (p + 2) w1 (by omega)
  generalize shAt B p = x0 at *
  generalize shAt B (p + 2) = x1 at *
  generalize lgAt B (p + 8) = x2 at *
  generalize lgAt B (p + 12) = x3 at *
  generalize lgAt B (p + 16) = x4 at *
  have HC3 : Hid _ := HC2
  clear HC2 HC
  unfold lg3 at HL
  unfold hdV
  go_enter Tryz.func62, Tryz.ntmps62
  go_wp2_with fail
  refine C1.mono ?_
  rintro e w1 ⟨rfl, h1, f1⟩
  have H1 : Hid _ := H0.out.step h1 f1
  have cb := cellOf (o := 0) H1.out.hb rfl
  have zb := freeOf 0 H1.out.hb
  have H1' : Hid _ := H1.out.setB 0 (.int .u16 (x0 : Int))
  have C2 := HC3.out _ H1'.out.rd
  clear h1 f1
  go_wp2_with fail
  refine C2.mono ?_
  rintro e w2 ⟨rfl, h2, f2⟩
  have H2 : Hid _ := H1'.out.step h2 f2
  have cb2 := cellOf (o := 1) H2.out.hb rfl
  have zb2 := freeOf 1 H2.out.hb
  have H2' : Hid _ := H2.out.setB 1 (.int .u16 (x1 : Int))
  have C3 := HK.out _ H2'.out.rd
  clear h2 f2 cb zb
  go_wp2_with fail
  refine C3.mono ?_
  rintro e w3 ⟨rfl, h3, f3⟩
  have H3 : Hid _ := H2'.out.step h3 f3
  have C4 := HL.out _ H3.out.rd
  clear h3 f3 cb2 zb2
  go_wp2_with fail
  refine C4.mono ?_
  rintro e w4 ⟨rfl, h4, f4⟩
  have H4 : Hid _ := H3.out.step h4 f4
  have d0 : w4.cell? ⟨w.heap.size + 1, 0, none⟩ = some (.int .u16 (x0 : Int)) := cellOf (o := 0) H4.out.hb rfl
  have d1 : w4.cell? ⟨w.heap.size + 1, 1, none⟩ = some (.int .u16 (x1 : Int)) := cellOf (o := 1) H4.out.hb rfl
  have d2 := cellOf (o := 2) H4.out.hb rfl
  have d3 := cellOf (o := 3) H4.out.hb rfl
  have d4 := cellOf (o := 4) H4.out.hb rfl
  have d5 := cellOf (o := 5) H4.out.hb rfl
  have z2 := freeOf 2 H4.out.hb
  have z3 := freeOf 3 H4.out.hb
  have z4 := freeOf 4 H4.out.hb
  have a0 := cellOf (o := 0) H4.out.ha rfl
  have a1 := cellOf (o := 1) H4.out.ha rfl
  have a2 := cellOf (o := 2) H4.out.ha rfl
  have a3 := cellOf (o := 3) H4.out.ha rfl
  have a4 := cellOf (o := 4) H4.out.ha rfl
  have a5 := cellOf (o := 5) H4.out.ha rfl
  have y0 := freeOf 0 H4.out.ha
  have y1 := freeOf 1 H4.out.ha
  have y2 := freeOf 2 H4.out.ha
  have y3 := freeOf 3 H4.out.ha
  have y4 := freeOf 4 H4.out.ha
  have y5 := freeOf 5 H4.out.ha
  have H5 : Hid _ := ((((((((H4.out.setB 2 (.int .u32 (x2 : Int))).setB 3 (.int .u32 (x3 : Int))).setB 4 (.int .u32 (x4 : Int))).setA 0 (.int .u16 (x0 : Int))).setA 1 (.int .u16 (x1 : Int))).setA 2 (.int .u32 (x2 : Int))).setA 3 (.int .u32 (x3 : Int))).setA 4 (.int .u32 (x4 : Int))).setA 5 (.string ⟨#[]⟩)
  clear h4 f4
  go_wp2_with fail
  exact bodyPost_ret (results_cell_row Tryz.results62 _ _ w.heap.size 69 #[.int .u16 (x0 : Int), .int .u16 (x1 : Int), .int .u32 (x2 : Int), .int .u32 (x3 : Int), .int .u32 (x4 : Int), .string ⟨#[]⟩] (0, 0) _ rfl H5.out.ha Tryz.underlying69 rfl Tryz.infoHead) rfl ⟨rfl, H5.out.rd, H5.out.fr⟩

set_option maxRecDepth 100000 in
set_option maxHeartbeats 1600000 in
theorem localA (p nl el : Nat) (w : World) (h : RdA w rb t cs ao cap B lack p) (hB : ∀ x ∈ B, x < 256) (hm : lgAt B p = 67324752) (hnl : shAt B (p + 26) = nl) (hel : shAt B (p + 28) = el) (hn : p + 30 + nl + el ≤ B.length) :
    Calls Tryz.prog 57 #[.pointer (some ⟨rb, 0, none⟩)] w fun e w' => e = .returned (hdV (shAt B (p + 6)) (shAt B (p + 8)) (lgAt B (p + 14)) (lgAt B (p + 18)) (lgAt B (p + 22)) (strOf ((B.drop (p + 30)).take nl))) ∧ RdA w' rb t cs ao cap B lack (p + 30 + nl + el) ∧ Fr (oneB rb) w w' := by
  have hb0 := heap_alloc_new w (.cells #[.int .u16 0, .int .u16 0, .int .u32 0, .int .u32 0, .int .u32 0, .string ⟨#[]⟩] 69 (0, 0))
  have hN := (Fr.refl noB w).alloc (.cells #[.int .u16 0, .int .u16 0, .int .u32 0, .int .u32 0, .int .u32 0, .string ⟨#[]⟩] 69 (0, 0))
  have C1 := markA rb t cs ao cap B lack p 67324752 _ (h.keep hN) hB (by omega) hm
  have hrb : rb < w.heap.size := lt_of_block h.at_
  have HOL : Hid (∀ k off sp, ao = some ⟨k, off, sp⟩ → k < w.heap.size) := h.olt (by omega)
  have HK : Hid (∀ (n q r : Nat) w1, q + n = r → r ≤ B.length → RdA w1 rb t cs ao cap B lack q → Calls Tryz.prog 51 #[.pointer (some ⟨rb, 0, none⟩), .int .i64 (n : Int)] w1 fun e w' => e = .returned (.tuple #[]) ∧ RdA w' rb t cs ao cap B lack r ∧ Fr (oneB rb) w1 w') := fun n q r w1 h1 h2 h3 => skipA rb t cs ao cap B lack n q r w1 h3 h1 h2
  have HT : Hid (∀ (n q r : Nat) w1, q + n = r → r ≤ B.length → RdA w1 rb t cs ao cap B lack q → Calls Tryz.prog 59 #[.pointer (some ⟨rb, 0, none⟩), .int .i64 (n : Int)] w1 fun e w' => ∃ ao' c', e = .returned (.slice ao' n c') ∧ Bs w' (.slice ao' n c') ((B.drop q).take n) ∧ (∀ b off sp, ao' = some ⟨b, off, sp⟩ → b ≠ rb) ∧ RdA w' rb t cs ao cap B lack r ∧ Fr (oneB rb) w1 w') := fun n q r w1 h1 h2 h3 => takeA rb t cs ao cap B lack n q r w1 h3 h1 h2
  have HS : Hid (∀ q w1, q + 2 ≤ B.length → RdA w1 rb t cs ao cap B lack q → Calls Tryz.prog 52 #[.pointer (some ⟨rb, 0, none⟩)] w1 fun e w' => e = .returned (.int .i64 ((shAt B q : Nat) : Int)) ∧ RdA w' rb t cs ao cap B lack (q + 2) ∧ Fr (oneB rb) w1 w') := fun q w1 h1 h2 => sizeA rb t cs ao cap B lack q w1 h2 hB h1
  have HHd : Hid (∀ w1, RdA w1 rb t cs ao cap B lack (p + 6) → Calls Tryz.prog 62 #[.pointer (some ⟨rb, 0, none⟩)] w1 fun e w' => e = .returned (hdV (shAt B (p + 6)) (shAt B (p + 8)) (lgAt B (p + 14)) (lgAt B (p + 18)) (lgAt B (p + 22)) ⟨#[]⟩) ∧ RdA w' rb t cs ao cap B lack (p + 26) ∧ Fr (oneB rb) w1 w') := fun w1 h1 => headA rb t cs ao cap B lack (p + 6) w1 h1 hB (by omega)
  obtain ⟨nm, hnm⟩ : ∃ nm, strOf ((B.drop (p + 30)).take nl) = nm := ⟨_, rfl⟩
  have HNM : Hid (strOf ((B.drop (p + 30)).take nl) = nm) := hnm
  rw [hnm]
  clear hnm
  have HBx : Hid (∀ x ∈ (B.drop (p + 30)).take nl, x < 256) := fun x hx => hB x (List.mem_of_mem_drop (List.mem_of_mem_take hx))
  have HNL : Hid (shAt B (p + 26) = nl ∧ shAt B (p + 28) = el) := ⟨hnl, hel⟩
  have hne : w.heap.size ≠ rb := by omega
  have HB0 : Hid _ := hb0
  have HN : Hid _ := hN
  generalize shAt B (p + 6) = x0 at *
  generalize shAt B (p + 8) = x1 at *
  generalize lgAt B (p + 14) = x2 at *
  generalize lgAt B (p + 18) = x3 at *
  generalize lgAt B (p + 22) = x4 at *
  unfold hdV at *
  clear h hB hnl hel hb0 hN hm
  go_enter Tryz.func57, Tryz.ntmps57
  go_wp2_with fail
  refine C1.mono ?_
  rintro e w1 ⟨rfl, h1, f1⟩
  have b1 := f1.obj HB0.out hne
  have C2 := HK.out 2 (p + 4) (p + 6) w1 rfl (by omega) h1
  have F1 : Hid _ := (HN.out.weak (S := oneB rb)).trans f1
  have B1 : Hid _ := b1
  clear h1 f1 b1
  go_wp2_with fail
  refine C2.mono ?_
  rintro e w2 ⟨rfl, h2, f2⟩
  have B2 : Hid _ := f2.obj B1.out hne
  have F2 : Hid _ := F1.out.trans f2
  have C3 := HHd.out w2 h2
  clear h2 f2
  go_wp2_with fail
  refine C3.mono ?_
  rintro e w3 ⟨rfl, h3, f3⟩
  have H4 : Hid _ := Bld.later h3 (f3.obj B2.out hne) (F2.out.trans f3) (Nat.le_refl _) hrb HOL.out #[.int .u16 (x0 : Int), .int .u16 (x1 : Int), .int .u32 (x2 : Int), .int .u32 (x3 : Int), .int .u32 (x4 : Int), .string ⟨#[]⟩]
  have C4 := HS.out (p + 26) _ (by omega) H4.out.rd
  rw [HNL.out.1] at C4
  clear h3 f3
  go_wp2_with fail
  refine C4.mono ?_
  rintro e w4 ⟨rfl, h4, f4⟩
  have H5 : Hid _ := H4.out.step h4 f4
  have C5 := HS.out (p + 28) _ (by omega) H5.out.rd
  rw [HNL.out.2] at C5
  clear h4 f4
  go_wp2_with fail
  refine C5.mono ?_
  rintro e w5 ⟨rfl, h5, f5⟩
  have H6 : Hid _ := H5.out.step h5 f5
  have C6 := HT.out nl (p + 30) (p + 30 + nl) _ rfl (by omega) H6.out.rd
  clear h5 f5
  go_wp2_with fail
  refine C6.mono ?_
  rintro e w6 ⟨ao', c', rfl, hbs, -, h6, f6⟩
  have H7 : Hid _ := H6.out.step h6 f6
  have hcv := conv_bytes w6 _ _ hbs HBx.out
  rw [HNM.out] at hcv
  have g5 := cellOf (o := 5) H7.out.hb rfl
  have z5 := freeOf 5 H7.out.hb
  have H8 : Hid _ := H7.out.setB 5 (.string nm)
  have C7 := HK.out el (p + 30 + nl) (p + 30 + nl + el) _ rfl (by omega) H8.out.rd
  clear h6 f6 hbs
  go_wp2_with fail
  refine C7.mono ?_
  rintro e w7 ⟨rfl, h7, f7⟩
  have H9 : Hid _ := H8.out.step h7 f7
  have d0 : w7.cell? ⟨w3.heap.size, 0, none⟩ = some (.int .u16 (x0 : Int)) := cellOf (o := 0) H9.out.hb rfl
  have d1 : w7.cell? ⟨w3.heap.size, 1, none⟩ = some (.int .u16 (x1 : Int)) := cellOf (o := 1) H9.out.hb rfl
  have d2 : w7.cell? ⟨w3.heap.size, 2, none⟩ = some (.int .u32 (x2 : Int)) := cellOf (o := 2) H9.out.hb rfl
  have d3 : w7.cell? ⟨w3.heap.size, 3, none⟩ = some (.int .u32 (x3 : Int)) := cellOf (o := 3) H9.out.hb rfl
  have d4 : w7.cell? ⟨w3.heap.size, 4, none⟩ = some (.int .u32 (x4 : Int)) := cellOf (o := 4) H9.out.hb rfl
  have d5 : w7.cell? ⟨w3.heap.size, 5, none⟩ = some (.string nm) := cellOf (o := 5) H9.out.hb rfl
  have a0 := cellOf (o := 0) H9.out.ha rfl
  have a1 := cellOf (o := 1) H9.out.ha rfl
  have a2 := cellOf (o := 2) H9.out.ha rfl
  have a3 := cellOf (o := 3) H9.out.ha rfl
  have a4 := cellOf (o := 4) H9.out.ha rfl
  have a5 := cellOf (o := 5) H9.out.ha rfl
  have y0 := freeOf 0 H9.out.ha
  have y1 := freeOf 1 H9.out.ha
  have y2 := freeOf 2 H9.out.ha
  have y3 := freeOf 3 H9.out.ha
  have y4 := freeOf 4 H9.out.ha
  have y5 := freeOf 5 H9.out.ha
  have H10 : Hid _ := (((((H9.out.setA 0 (.int .u16 (x0 : Int))).setA 1 (.int .u16 (x1 : Int))).setA 2 (.int .u32 (x2 : Int))).setA 3 (.int .u32 (x3 : Int))).setA 4 (.int .u32 (x4 : Int))).setA 5 (.string nm)
  clear h7 f7 g5 z5 hcv
  go_wp2_with fail
  exact bodyPost_ret (results_cell_row Tryz.results57 _ _ w.heap.size 69 #[.int .u16 (x0 : Int), .int .u16 (x1 : Int), .int .u32 (x2 : Int), .int .u32 (x3 : Int), .int .u32 (x4 : Int), .string nm] (0, 0) _ rfl H10.out.ha Tryz.underlying69 rfl Tryz.infoHead) rfl ⟨rfl, H10.out.rd, H10.out.fr⟩
set_option maxRecDepth 100000 in
set_option maxHeartbeats 1600000 in
theorem recordA (p nl el kl : Nat) (w : World) (h : RdA w rb t cs ao cap B lack p) (hB : ∀ x ∈ B, x < 256) (hm : lgAt B p = 33639248) (hnl : shAt B (p + 28) = nl) (hel : shAt B (p + 30) = el) (hkl : shAt B (p + 32) = kl) (hn : p + 46 + nl + el + kl ≤ B.length) :
    Calls Tryz.prog 39 #[.pointer (some ⟨rb, 0, none⟩)] w fun e w' => e = .returned (recV (shAt B (p + 8)) (shAt B (p + 10)) (lgAt B (p + 16)) (lgAt B (p + 20)) (lgAt B (p + 24)) (strOf ((B.drop (p + 46)).take nl)) (shAt B (p + 34)) (lgAt B (p + 42))) ∧ RdA w' rb t cs ao cap B lack (p + 46 + nl + el + kl) ∧ Fr (oneB rb) w w' := by
  have hb0 := heap_alloc_new w (.cells #[.int .u16 0, .int .u16 0, .int .u32 0, .int .u32 0, .int .u32 0, .string ⟨#[]⟩, .int .u16 0, .int .u32 0] 72 (0, 0))
  have hN := (Fr.refl noB w).alloc (.cells #[.int .u16 0, .int .u16 0, .int .u32 0, .int .u32 0, .int .u32 0, .string ⟨#[]⟩, .int .u16 0, .int .u32 0] 72 (0, 0))
  have C1 := markA rb t cs ao cap B lack p 33639248 _ (h.keep hN) hB (by omega) hm
  have hrb : rb < w.heap.size := lt_of_block h.at_
  have HOL : Hid (∀ k off sp, ao = some ⟨k, off, sp⟩ → k < w.heap.size) := h.olt (by omega)
  have HK : Hid (∀ (n q r : Nat) w1, q + n = r → r ≤ B.length → RdA w1 rb t cs ao cap B lack q → Calls Tryz.prog 51 #[.pointer (some ⟨rb, 0, none⟩), .int .i64 (n : Int)] w1 fun e w' => e = .returned (.tuple #[]) ∧ RdA w' rb t cs ao cap B lack r ∧ Fr (oneB rb) w1 w') := fun n q r w1 h1 h2 h3 => skipA rb t cs ao cap B lack n q r w1 h3 h1 h2
  have HT : Hid (∀ (n q r : Nat) w1, q + n = r → r ≤ B.length → RdA w1 rb t cs ao cap B lack q → Calls Tryz.prog 59 #[.pointer (some ⟨rb, 0, none⟩), .int .i64 (n : Int)] w1 fun e w' => ∃ ao' c', e = .returned (.slice ao' n c') ∧ Bs w' (.slice ao' n c') ((B.drop q).take n) ∧ (∀ b off sp, ao' = some ⟨b, off, sp⟩ → b ≠ rb) ∧ RdA w' rb t cs ao cap B lack r ∧ Fr (oneB rb) w1 w') := fun n q r w1 h1 h2 h3 => takeA rb t cs ao cap B lack n q r w1 h3 h1 h2
  have HS : Hid (∀ q w1, q + 2 ≤ B.length → RdA w1 rb t cs ao cap B lack q → Calls Tryz.prog 52 #[.pointer (some ⟨rb, 0, none⟩)] w1 fun e w' => e = .returned (.int .i64 ((shAt B q : Nat) : Int)) ∧ RdA w' rb t cs ao cap B lack (q + 2) ∧ Fr (oneB rb) w1 w') := fun q w1 h1 h2 => sizeA rb t cs ao cap B lack q w1 h2 hB h1
  have HHd : Hid (∀ w1, RdA w1 rb t cs ao cap B lack (p + 8) → Calls Tryz.prog 62 #[.pointer (some ⟨rb, 0, none⟩)] w1 fun e w' => e = .returned (hdV (shAt B (p + 8)) (shAt B (p + 10)) (lgAt B (p + 16)) (lgAt B (p + 20)) (lgAt B (p + 24)) ⟨#[]⟩) ∧ RdA w' rb t cs ao cap B lack (p + 28) ∧ Fr (oneB rb) w1 w') := fun w1 h1 => headA rb t cs ao cap B lack (p + 8) w1 h1 hB (by omega)
  have HSH : Hid (∀ w1, RdA w1 rb t cs ao cap B lack (p + 34) → Calls Tryz.prog 54 #[.pointer (some ⟨rb, 0, none⟩)] w1 fun e w' => e = .returned (.int .u16 ((shAt B (p + 34) : Nat) : Int)) ∧ RdA w' rb t cs ao cap B lack (p + 36) ∧ Fr (oneB rb) w1 w') := fun w1 h1 => shortA rb t cs ao cap B lack (p + 34) w1 h1 hB (by omega)
  have HLG : Hid (∀ w1, RdA w1 rb t cs ao cap B lack (p + 42) → Calls Tryz.prog 50 #[.pointer (some ⟨rb, 0, none⟩)] w1 fun e w' => e = .returned (.int .u32 ((lgAt B (p + 42) : Nat) : Int)) ∧ RdA w' rb t cs ao cap B lack (p + 46) ∧ Fr (oneB rb) w1 w') := fun w1 h1 => longA rb t cs ao cap B lack (p + 42) w1 h1 hB (by omega)
  obtain ⟨nm, hnm⟩ : ∃ nm, strOf ((B.drop (p + 46)).take nl) = nm := ⟨_, rfl⟩
  have HNM : Hid (strOf ((B.drop (p + 46)).take nl) = nm) := hnm
  rw [hnm]
  clear hnm
  have HBx : Hid (∀ x ∈ (B.drop (p + 46)).take nl, x < 256) := fun x hx => hB x (List.mem_of_mem_drop (List.mem_of_mem_take hx))
  have HNL : Hid (shAt B (p + 28) = nl ∧ shAt B (p + 30) = el ∧ shAt B (p + 32) = kl) := ⟨hnl, hel, hkl⟩
  have hne : w.heap.size ≠ rb := by omega
  have HB0 : Hid _ := hb0
  have HN : Hid _ := hN
  generalize shAt B (p + 8) = x0 at *
  generalize shAt B (p + 10) = x1 at *
  generalize lgAt B (p + 16) = x2 at *
  generalize lgAt B (p + 20) = x3 at *
  generalize lgAt B (p + 24) = x4 at *
  generalize shAt B (p + 34) = x6 at *
  generalize lgAt B (p + 42) = x7 at *
  unfold hdV at *
  unfold recV
  clear h hB hnl hel hkl hb0 hN hm
  go_enter Tryz.func39, Tryz.ntmps39
  go_wp2_with fail
  refine C1.mono ?_
  rintro e w1 ⟨rfl, h1, f1⟩
  have b1 := f1.obj HB0.out hne
  have C2 := HK.out 4 (p + 4) (p + 8) w1 rfl (by omega) h1
  have F1 : Hid _ := (HN.out.weak (S := oneB rb)).trans f1
  have B1 : Hid _ := b1
  clear h1 f1 b1
  go_wp2_with fail
  refine C2.mono ?_
  rintro e w2 ⟨rfl, h2, f2⟩
  have B2 : Hid _ := f2.obj B1.out hne
  have F2 : Hid _ := F1.out.trans f2
  have C3 := HHd.out w2 h2
  clear h2 f2
  go_wp2_with fail
  refine C3.mono ?_
  rintro e w3 ⟨rfl, h3, f3⟩
  have H4 : Hid _ := Bld.later h3 (f3.obj B2.out hne) (F2.out.trans f3) (Nat.le_refl _) hrb HOL.out #[.int .u16 (x0 : Int), .int .u16 (x1 : Int), .int .u32 (x2 : Int), .int .u32 (x3 : Int), .int .u32 (x4 : Int), .string ⟨#[]⟩, .int .u16 0, .int .u32 0]
  have C4 := HS.out (p + 28) _ (by omega) H4.out.rd
  rw [HNL.out.1] at C4
  clear h3 f3
  go_wp2_with fail
  refine C4.mono ?_
  rintro e w4 ⟨rfl, h4, f4⟩
  have H5 : Hid _ := H4.out.step h4 f4
  have C5 := HS.out (p + 30) _ (by omega) H5.out.rd
  rw [HNL.out.2.1] at C5
  clear h4 f4
  go_wp2_with fail
  refine C5.mono ?_
  rintro e w5 ⟨rfl, h5, f5⟩
  have H6 : Hid _ := H5.out.step h5 f5
  have C5b := HS.out (p + 32) _ (by omega) H6.out.rd
  rw [HNL.out.2.2] at C5b
  clear h5 f5
  go_wp2_with fail
  refine C5b.mono ?_
  rintro e w5b ⟨rfl, h5b, f5b⟩
  have H6b : Hid _ := H6.out.step h5b f5b
  have C5c := HSH.out _ H6b.out.rd
  clear h5b f5b
  go_wp2_with fail
  refine C5c.mono ?_
  rintro e w5c ⟨rfl, h5c, f5c⟩
  have H6c : Hid _ := H6b.out.step h5c f5c
  have g6 := cellOf (o := 6) H6c.out.hb rfl
  have z6 := freeOf 6 H6c.out.hb
  have H6d : Hid _ := H6c.out.setB 6 (.int .u16 (x6 : Int))
  have C5d := HK.out 6 (p + 36) (p + 42) _ rfl (by omega) H6d.out.rd
  clear h5c f5c
  go_wp2_with fail
  refine C5d.mono ?_
  rintro e w5d ⟨rfl, h5d, f5d⟩
  have H6e : Hid _ := H6d.out.step h5d f5d
  have C5e := HLG.out _ H6e.out.rd
  clear h5d f5d g6 z6
  go_wp2_with fail
  refine C5e.mono ?_
  rintro e w5e ⟨rfl, h5e, f5e⟩
  have H6f : Hid _ := H6e.out.step h5e f5e
  have g7 := cellOf (o := 7) H6f.out.hb rfl
  have z7 := freeOf 7 H6f.out.hb
  have H6g : Hid _ := H6f.out.setB 7 (.int .u32 (x7 : Int))
  have C6 := HT.out nl (p + 46) (p + 46 + nl) _ rfl (by omega) H6g.out.rd
  clear h5e f5e
  go_wp2_with fail
  refine C6.mono ?_
  rintro e w6 ⟨ao', c', rfl, hbs, -, h6, f6⟩
  have H7 : Hid _ := H6g.out.step h6 f6
  have hcv := conv_bytes w6 _ _ hbs HBx.out
  rw [HNM.out] at hcv
  have g5 := cellOf (o := 5) H7.out.hb rfl
  have z5 := freeOf 5 H7.out.hb
  have H8 : Hid _ := H7.out.setB 5 (.string nm)
  have C7 := HK.out el (p + 46 + nl) (p + 46 + nl + el) _ rfl (by omega) H8.out.rd
  clear h6 f6 hbs g7 z7
  go_wp2_with fail
  refine C7.mono ?_
  rintro e w7 ⟨rfl, h7, f7⟩
  have H8b : Hid _ := H8.out.step h7 f7
  have C8 := HK.out kl (p + 46 + nl + el) (p + 46 + nl + el + kl) _ rfl (by omega) H8b.out.rd
  clear h7 f7 g5 z5 hcv
  go_wp2_with fail
  refine C8.mono ?_
  rintro e w8 ⟨rfl, h8, f8⟩
  have H9 : Hid _ := H8b.out.step h8 f8
  have d0 : w8.cell? ⟨w3.heap.size, 0, none⟩ = some (.int .u16 (x0 : Int)) := cellOf (o := 0) H9.out.hb rfl
  have d1 : w8.cell? ⟨w3.heap.size, 1, none⟩ = some (.int .u16 (x1 : Int)) := cellOf (o := 1) H9.out.hb rfl
  have d2 : w8.cell? ⟨w3.heap.size, 2, none⟩ = some (.int .u32 (x2 : Int)) := cellOf (o := 2) H9.out.hb rfl
  have d3 : w8.cell? ⟨w3.heap.size, 3, none⟩ = some (.int .u32 (x3 : Int)) := cellOf (o := 3) H9.out.hb rfl
  have d4 : w8.cell? ⟨w3.heap.size, 4, none⟩ = some (.int .u32 (x4 : Int)) := cellOf (o := 4) H9.out.hb rfl
  have d5 : w8.cell? ⟨w3.heap.size, 5, none⟩ = some (.string nm) := cellOf (o := 5) H9.out.hb rfl
  have d6 : w8.cell? ⟨w3.heap.size, 6, none⟩ = some (.int .u16 (x6 : Int)) := cellOf (o := 6) H9.out.hb rfl
  have d7 : w8.cell? ⟨w3.heap.size, 7, none⟩ = some (.int .u32 (x7 : Int)) := cellOf (o := 7) H9.out.hb rfl
  have a0 := cellOf (o := 0) H9.out.ha rfl
  have a1 := cellOf (o := 1) H9.out.ha rfl
  have a2 := cellOf (o := 2) H9.out.ha rfl
  have a3 := cellOf (o := 3) H9.out.ha rfl
  have a4 := cellOf (o := 4) H9.out.ha rfl
  have a5 := cellOf (o := 5) H9.out.ha rfl
  have a6 := cellOf (o := 6) H9.out.ha rfl
  have a7 := cellOf (o := 7) H9.out.ha rfl
  have y0 := freeOf 0 H9.out.ha
  have y1 := freeOf 1 H9.out.ha
  have y2 := freeOf 2 H9.out.ha
  have y3 := freeOf 3 H9.out.ha
  have y4 := freeOf 4 H9.out.ha
  have y5 := freeOf 5 H9.out.ha
  have y6 := freeOf 6 H9.out.ha
  have y7 := freeOf 7 H9.out.ha
  have H10 : Hid _ := (((((((H9.out.setA 0 (.int .u16 (x0 : Int))).setA 1 (.int .u16 (x1 : Int))).setA 2 (.int .u32 (x2 : Int))).setA 3 (.int .u32 (x3 : Int))).setA 4 (.int .u32 (x4 : Int))).setA 5 (.string nm)).setA 6 (.int .u16 (x6 : Int))).setA 7 (.int .u32 (x7 : Int))
  clear h8 f8
  go_wp2_with fail
  exact bodyPost_ret (results_cell_row Tryz.results39 _ _ w.heap.size 72 #[.int .u16 (x0 : Int), .int .u16 (x1 : Int), .int .u32 (x2 : Int), .int .u32 (x3 : Int), .int .u32 (x4 : Int), .string nm, .int .u16 (x6 : Int), .int .u32 (x7 : Int)] (0, 0) _ rfl H10.out.ha Tryz.underlying72 rfl Tryz.infoRecord) rfl ⟨rfl, H10.out.rd, H10.out.fr⟩
#print axioms localA
#print axioms recordA
end
end Go.Proofs.YtlhikoomghbnjaaGreatDoor
