/- Show of 7 by the format of one number. -/
import Derived.Test.YtnklmcmdlobicaaGreatDoorFShv
import Derived.Deep.RegionHeld3
import Derived.Deep.DeepCutAuto
namespace Go.Proofs.YtnklmcmdlobicaaGreatDoor
open Go.RowKit Ieee Go.Shelf
attribute [local go_sem] run_store_float

theorem load_pieces (w : World) (b o : Nat) (v : Value) (h : w.cell? ⟨b, o, none⟩ = some v) : (Instr.loadAt 59 (.pointer (some ⟨b, o, none⟩))).run Tryz.prog w = .ok v w := by
  have hu := Tryz.underlying59
  simp [go_sem, h]
theorem load_bool (w : World) (b o : Nat) (v : Value) (h : w.cell? ⟨b, o, none⟩ = some v) : (Instr.loadAt 4 (.pointer (some ⟨b, o, none⟩))).run Tryz.prog w = .ok v w := by
  have hu := Tryz.underlying4
  simp [go_sem, h]
theorem load_said (w : World) (rk : Nat) (h : w.heap[rk]? = some (.cells #[.string ⟨#[]⟩, .bool false, .float .f64 4619567317775286272, .int .i64 0, .int .i64 0, .int .i64 0, .int .i64 0, .int .i64 0, .int .i64 0, .int .i64 0, .int .i64 0] 91 (0, 0))) : (Instr.loadAt 91 (.pointer (some ⟨rk, 0, none⟩))).run Tryz.prog w = .ok said7 w := by
  have hu := Tryz.underlying91
  obtain ⟨c0, c1, c2, c3, c4, c5, c6, c7, c8, c9, c10⟩ := said_cells h
  simp [go_sem, c0, c1, c2, c3, c4, c5, c6, c7, c8, c9, c10]
section
variable {P : Program} {ops : Array Oper} {S : World → Prop} {op : Oper} {a : Act}
theorem y_loadOf (ty : TypeId) (x : Operand) (p v : Value) (hw : Region.wanted op (yielded ops a.tmps) = true) (ho : op.op = .load ty x) (hx : a.eval x = p) (hS : ∀ w, S w → (Instr.loadAt ty p).run Tryz.prog w = .ok v w) : YieldsIf Tryz.prog ops S op v a :=
  .inl ⟨hw, fun w hw' => by
    unfold execOp
    simp only [ho, hx, Sem.run_bind, Sem.run_pure, hS w hw', Result.andThen_ok]⟩
theorem frame_to {Q : Exit → Act → World → Prop} {a : Act} {w : World} (b : Act) (h : a = b) (hq : Q .normal b w) : Q .normal a w := by
  rw [h]
  exact hq
theorem wp_go {w : World} {next : Act → World → Prop} {Q : Exit → Act → World → Prop} (f : FuncId) (args : Array Value) (h : (execOp a.eval op).run P w = .ok (.enter f args) w)
    (hc : Calls P f args w fun e w'' => match e, w'' with
      | .returned v, w'' => next (a.put op.dst v) w''
      | .panicked chain, w'' => Q (.panic chain) a w''
      | .outgrown, _ => LetsOut Q) : Oper.wp P op a w next Q := by
  unfold Oper.wp
  rw [h]
  exact hc
end
theorem said_zero {w : World} {g : Nat} (h : w.heap[g]? = some (.cells #[.string ⟨#[]⟩, .bool false, .float .f64 0, .int .i64 0, .int .i64 0, .int .i64 0, .int .i64 0, .int .i64 0, .int .i64 0, .int .i64 0, .int .i64 0] 91 (0, 0))) : (w.cell? ⟨g, 0, none⟩ = some (.string ⟨#[]⟩) ∧ w.cell? ⟨g, 1, none⟩ = some (.bool false) ∧ w.cell? ⟨g, 2, none⟩ = some (.float .f64 0) ∧ w.cell? ⟨g, 3, none⟩ = some (.int .i64 0) ∧ w.cell? ⟨g, 4, none⟩ = some (.int .i64 0) ∧ w.cell? ⟨g, 5, none⟩ = some (.int .i64 0) ∧ w.cell? ⟨g, 6, none⟩ = some (.int .i64 0) ∧ w.cell? ⟨g, 7, none⟩ = some (.int .i64 0) ∧ w.cell? ⟨g, 8, none⟩ = some (.int .i64 0) ∧ w.cell? ⟨g, 9, none⟩ = some (.int .i64 0) ∧ w.cell? ⟨g, 10, none⟩ = some (.int .i64 0)) ∧ ∀ i, w.frozen? ⟨g, i, none⟩ = false := by
  refine ⟨⟨?_, ?_, ?_, ?_, ?_, ?_, ?_, ?_, ?_, ?_, ?_⟩, fun i => freeOf i h⟩ <;> exact cellOf h rfl
theorem set11 {W : World} {B : Nat} {a0 a1 a2 a3 a4 a5 a6 a7 a8 a9 a10 : Value} {t : TypeId} (h : W.heap[B]? = some (.cells #[a0, a1, a2, a3, a4, a5, a6, a7, a8, a9, a10] t (0, 0))) (b0 b1 b2 b3 b4 b5 b6 b7 b8 b9 b10 : Value) : (((((((((((W.setCell ⟨B, 0, none⟩ b0).setCell ⟨B, 1, none⟩ b1).setCell ⟨B, 2, none⟩ b2).setCell ⟨B, 3, none⟩ b3).setCell ⟨B, 4, none⟩ b4).setCell ⟨B, 5, none⟩ b5).setCell ⟨B, 6, none⟩ b6).setCell ⟨B, 7, none⟩ b7).setCell ⟨B, 8, none⟩ b8).setCell ⟨B, 9, none⟩ b9).setCell ⟨B, 10, none⟩ b10).heap[B]? = some (.cells #[b0, b1, b2, b3, b4, b5, b6, b7, b8, b9, b10] t (0, 0)) := by
  have h0 : (W.setCell ⟨B, 0, none⟩ b0).heap[B]? = some (.cells #[b0, a1, a2, a3, a4, a5, a6, a7, a8, a9, a10] t (0, 0)) := setOf 0 b0 h
  have h1 : ((W.setCell ⟨B, 0, none⟩ b0).setCell ⟨B, 1, none⟩ b1).heap[B]? = some (.cells #[b0, b1, a2, a3, a4, a5, a6, a7, a8, a9, a10] t (0, 0)) := setOf 1 b1 h0
  have h2 : (((W.setCell ⟨B, 0, none⟩ b0).setCell ⟨B, 1, none⟩ b1).setCell ⟨B, 2, none⟩ b2).heap[B]? = some (.cells #[b0, b1, b2, a3, a4, a5, a6, a7, a8, a9, a10] t (0, 0)) := setOf 2 b2 h1
  have h3 : ((((W.setCell ⟨B, 0, none⟩ b0).setCell ⟨B, 1, none⟩ b1).setCell ⟨B, 2, none⟩ b2).setCell ⟨B, 3, none⟩ b3).heap[B]? = some (.cells #[b0, b1, b2, b3, a4, a5, a6, a7, a8, a9, a10] t (0, 0)) := setOf 3 b3 h2
  have h4 : (((((W.setCell ⟨B, 0, none⟩ b0).setCell ⟨B, 1, none⟩ b1).setCell ⟨B, 2, none⟩ b2).setCell ⟨B, 3, none⟩ b3).setCell ⟨B, 4, none⟩ b4).heap[B]? = some (.cells #[b0, b1, b2, b3, b4, a5, a6, a7, a8, a9, a10] t (0, 0)) := setOf 4 b4 h3
  have h5 : ((((((W.setCell ⟨B, 0, none⟩ b0).setCell ⟨B, 1, none⟩ b1).setCell ⟨B, 2, none⟩ b2).setCell ⟨B, 3, none⟩ b3).setCell ⟨B, 4, none⟩ b4).setCell ⟨B, 5, none⟩ b5).heap[B]? = some (.cells #[b0, b1, b2, b3, b4, b5, a6, a7, a8, a9, a10] t (0, 0)) := setOf 5 b5 h4
  have h6 : (((((((W.setCell ⟨B, 0, none⟩ b0).setCell ⟨B, 1, none⟩ b1).setCell ⟨B, 2, none⟩ b2).setCell ⟨B, 3, none⟩ b3).setCell ⟨B, 4, none⟩ b4).setCell ⟨B, 5, none⟩ b5).setCell ⟨B, 6, none⟩ b6).heap[B]? = some (.cells #[b0, b1, b2, b3, b4, b5, b6, a7, a8, a9, a10] t (0, 0)) := setOf 6 b6 h5
  have h7 : ((((((((W.setCell ⟨B, 0, none⟩ b0).setCell ⟨B, 1, none⟩ b1).setCell ⟨B, 2, none⟩ b2).setCell ⟨B, 3, none⟩ b3).setCell ⟨B, 4, none⟩ b4).setCell ⟨B, 5, none⟩ b5).setCell ⟨B, 6, none⟩ b6).setCell ⟨B, 7, none⟩ b7).heap[B]? = some (.cells #[b0, b1, b2, b3, b4, b5, b6, b7, a8, a9, a10] t (0, 0)) := setOf 7 b7 h6
  have h8 : (((((((((W.setCell ⟨B, 0, none⟩ b0).setCell ⟨B, 1, none⟩ b1).setCell ⟨B, 2, none⟩ b2).setCell ⟨B, 3, none⟩ b3).setCell ⟨B, 4, none⟩ b4).setCell ⟨B, 5, none⟩ b5).setCell ⟨B, 6, none⟩ b6).setCell ⟨B, 7, none⟩ b7).setCell ⟨B, 8, none⟩ b8).heap[B]? = some (.cells #[b0, b1, b2, b3, b4, b5, b6, b7, b8, a9, a10] t (0, 0)) := setOf 8 b8 h7
  have h9 : ((((((((((W.setCell ⟨B, 0, none⟩ b0).setCell ⟨B, 1, none⟩ b1).setCell ⟨B, 2, none⟩ b2).setCell ⟨B, 3, none⟩ b3).setCell ⟨B, 4, none⟩ b4).setCell ⟨B, 5, none⟩ b5).setCell ⟨B, 6, none⟩ b6).setCell ⟨B, 7, none⟩ b7).setCell ⟨B, 8, none⟩ b8).setCell ⟨B, 9, none⟩ b9).heap[B]? = some (.cells #[b0, b1, b2, b3, b4, b5, b6, b7, b8, b9, a10] t (0, 0)) := setOf 9 b9 h8
  have h10 : (((((((((((W.setCell ⟨B, 0, none⟩ b0).setCell ⟨B, 1, none⟩ b1).setCell ⟨B, 2, none⟩ b2).setCell ⟨B, 3, none⟩ b3).setCell ⟨B, 4, none⟩ b4).setCell ⟨B, 5, none⟩ b5).setCell ⟨B, 6, none⟩ b6).setCell ⟨B, 7, none⟩ b7).setCell ⟨B, 8, none⟩ b8).setCell ⟨B, 9, none⟩ b9).setCell ⟨B, 10, none⟩ b10).heap[B]? = some (.cells #[b0, b1, b2, b3, b4, b5, b6, b7, b8, b9, b10] t (0, 0)) := setOf 10 b10 h9
  exact h10
theorem fr11 {S : Nat → Prop} {w W : World} (h : Fr S w W) (B : Nat) (hB : S B ∨ w.heap.size ≤ B) (b0 b1 b2 b3 b4 b5 b6 b7 b8 b9 b10 : Value) : Fr S w (((((((((((W.setCell ⟨B, 0, none⟩ b0).setCell ⟨B, 1, none⟩ b1).setCell ⟨B, 2, none⟩ b2).setCell ⟨B, 3, none⟩ b3).setCell ⟨B, 4, none⟩ b4).setCell ⟨B, 5, none⟩ b5).setCell ⟨B, 6, none⟩ b6).setCell ⟨B, 7, none⟩ b7).setCell ⟨B, 8, none⟩ b8).setCell ⟨B, 9, none⟩ b9).setCell ⟨B, 10, none⟩ b10) :=
  (((((((((((h.setCell ⟨B, 0, none⟩ hB b0).setCell ⟨B, 1, none⟩ hB b1).setCell ⟨B, 2, none⟩ hB b2).setCell ⟨B, 3, none⟩ hB b3).setCell ⟨B, 4, none⟩ hB b4).setCell ⟨B, 5, none⟩ hB b5).setCell ⟨B, 6, none⟩ hB b6).setCell ⟨B, 7, none⟩ hB b7).setCell ⟨B, 8, none⟩ hB b8).setCell ⟨B, 9, none⟩ hB b9).setCell ⟨B, 10, none⟩ hB b10)
set_option maxRecDepth 100000 in
set_option maxHeartbeats 4000000 in
theorem show7 (M lb pb : Nat) (w : World) (hL : Ls1 w lb pb) (hP : Pc1 w pb) (hX : XTab w) (hO : OTab w) (hT : CTab w M) : Calls Tryz.prog 32 #[.slice (some ⟨lb, 0, none⟩) 1 1, .int .i64 0, (.agg #[.int .i64 1, .float .f64 4619567317775286272, .string ⟨#[]⟩, .bool false, .int .i64 0])] w fun e w' => e = .returned (.string ⟨#[55]⟩) ∧ Fr noB w w' := by
  obtain ⟨W, hW⟩ : ∃ W, w.alloc (.cells #[.int .i64 1, .float .f64 4619567317775286272, .string ⟨#[]⟩, .bool false, .int .i64 0] 66 (0, 0)) = W := ⟨_, rfl⟩
  have hV : VAt W w.heap.size 1 4619567317775286272 ⟨#[]⟩ false 0 := ⟨by rw [← hW]; exact heap_alloc_new w _⟩
  have hF : Fr noB w W := by rw [← hW]; exact (Fr.refl noB w).alloc _
  have HLW : Hid (Ls1 W lb pb) := hL.fr hF
  have HPW : Hid (Pc1 W pb) := hP.fr hF
  have HJ : Hid (∀ W', Fr noB W W' → Calls Tryz.prog 64 #[.slice (some ⟨pb, 0, none⟩) 1 1, said7, .bool false] W' fun e w' => e = .returned (.string ⟨#[55]⟩) ∧ Fr noB W' w') := fun W' h => joined7 M pb W' (hP.fr (hF.trans h)) (hX.fr (hF.trans h)) (hO.fr (hF.trans h)) (hT.low (hF.trans h) (fun _ _ h => h.elim))
  have HV : Hid (VAt W w.heap.size 1 4619567317775286272 ⟨#[]⟩ false 0) := hV
  have HF : Hid (Fr noB w W) := hF
  obtain ⟨a0, a1, a2, a3, a4⟩ := hV.all
  clear hL hP hX hO hT hV hF
  go_enter Tryz.func32, Tryz.ntmps32
  go_upto_region 6 with (first
    | (go_at_call 58; refine (vcheck7 _).mono ?_; rintro e w1 ⟨rfl, hF1⟩; obtain ⟨b0, b1, b2, b3, b4⟩ := (HV.out.fr hF1 id).all)
    | (go_at_call 59; refine (pick7 lb pb _ (HLW.out.fr hF1)).mono ?_; rintro e w2 ⟨rfl, hF2⟩))
  have hF12 := hF1.trans hF2
  have hF12d : Fr noB W w2.drew := hF12.drew
  have hLd := HLW.out.fr hF12d
  have hVd := HV.out.fr hF12d id
  have HF12 : Hid (Fr noB W w2) := hF12
  clear hF1 hF2 hF12 a0 a1 a2 a3 a4 b0 b1 b2 b3 b4
  go_cut [40] (fun bv wc => bv = .bool false ∧ Fr noB W wc)
  case first =>
    go_region_held3 (fun w' => (w'.cell? ⟨lb, 0, none⟩ = some (.int .i64 1) ∧ w'.cell? ⟨lb, 1, none⟩ = some (.slice (some ⟨pb, 0, none⟩) 1 1) ∧ w'.cell? ⟨lb, 2, none⟩ = some (.slice none 0 0) ∧ w'.cell? ⟨lb, 3, none⟩ = some (.bool false)) ∧ (w'.cell? ⟨w.heap.size, 0, none⟩ = some (.int .i64 1) ∧ w'.cell? ⟨w.heap.size, 1, none⟩ = some (.float .f64 4619567317775286272) ∧ w'.cell? ⟨w.heap.size, 2, none⟩ = some (.string ⟨#[]⟩) ∧ w'.cell? ⟨w.heap.size, 3, none⟩ = some (.bool false) ∧ w'.cell? ⟨w.heap.size, 4, none⟩ = some (.int .i64 0))) (first | exact ⟨hLd.cells, hVd.all⟩ | exact ⟨hL3.cells, hV3.all⟩) (first
      | (go_at_call 60; with_reducible refine (isPlace1 _ _ _).mono ?_; rintro e w9 ⟨rfl, h9⟩; obtain rfl : w2.drew = w9 := h9.symm)
      | (go_at_call 61; with_reducible refine (shows1 pb _ (HPW.out.fr hF12d)).mono ?_; rintro e w3 ⟨rfl, hF3⟩; have hL3 := hLd.fr hF3; have hV3 := hVd.fr hF3 id))
    go_wp2_with fail
    go_meet
    exact ⟨rfl, hF12d.trans hF3⟩
  case rest =>
    obtain ⟨rfl, hFc⟩ := hcut
    have hFcd : Fr noB W wc.drew := hFc.drew
    have hFa : Fr noB W (wc.alloc (.cells #[.string ⟨#[]⟩, .bool false, .float .f64 0, .int .i64 0, .int .i64 0, .int .i64 0, .int .i64 0, .int .i64 0, .int .i64 0, .int .i64 0, .int .i64 0] 91 (0, 0))).drew := (hFc.alloc _).drew
    have hza : ((wc.alloc (.cells #[.string ⟨#[]⟩, .bool false, .float .f64 0, .int .i64 0, .int .i64 0, .int .i64 0, .int .i64 0, .int .i64 0, .int .i64 0, .int .i64 0, .int .i64 0] 91 (0, 0))).drew).heap[wc.heap.size]? = some (.cells #[.string ⟨#[]⟩, .bool false, .float .f64 0, .int .i64 0, .int .i64 0, .int .i64 0, .int .i64 0, .int .i64 0, .int .i64 0, .int .i64 0, .int .i64 0] 91 (0, 0)) := heap_alloc_new wc _
    obtain ⟨l0, l1, l2, l3⟩ := (HLW.out.fr hFc).cells
    obtain ⟨v0, v1, v2, v3, v4⟩ := (HV.out.fr hFc id).all
    have hlb : lb < wc.heap.size := lt_of_block (HLW.out.fr hFc)
    have hvb : w.heap.size < wc.heap.size := lt_of_block (HV.out.fr hFc id).o
    clear hF12d hLd hVd HF12
    go_upto_region 8 with fail
    go_cut [8, 9] (fun pv bv wc2 => ∃ rk, pv = .pointer (some ⟨rk, 0, none⟩) ∧ bv = .bool true ∧ wc2.heap[rk]? = some (.cells #[.string ⟨#[]⟩, .bool false, .float .f64 4619567317775286272, .int .i64 0, .int .i64 0, .int .i64 0, .int .i64 0, .int .i64 0, .int .i64 0, .int .i64 0, .int .i64 0] 91 (0, 0)) ∧ Fr noB W wc2)
    case first =>
      go_region_with (first
        | (go_at_call 63; with_reducible refine (say7 pb wc.drew).mono ?_; rintro e w4 ⟨rfl, hF4⟩; have hFe := hFcd.trans hF4)
        | (go_at_call 63; with_reducible refine (say7 pb (wc.alloc (.cells #[.string ⟨#[]⟩, .bool false, .float .f64 0, .int .i64 0, .int .i64 0, .int .i64 0, .int .i64 0, .int .i64 0, .int .i64 0, .int .i64 0, .int .i64 0] 91 (0, 0))).drew).mono ?_; rintro e w4 ⟨rfl, hF4⟩; have hFe := hFa.trans hF4; have hg := hF4.obj hza id; obtain ⟨⟨z0, z1, z2, z3, z4, z5, z6, z7, z8, z9, z10⟩, zf⟩ := said_zero hg))
      all_goals (go_wp2_with fail; go_meet)
      all_goals refine ⟨_, rfl, rfl, ?_, ?_⟩
      all_goals first
        | with_reducible exact heap_alloc_new w4 _
        | with_reducible exact hFe.alloc _
        | with_reducible exact (hFe.alloc _).drew
        | with_reducible exact set11 hg _ _ _ _ _ _ _ _ _ _ _
        | with_reducible exact fr11 hFe _ (Or.inr hFc.size) _ _ _ _ _ _ _ _ _ _ _
    case rest =>
      obtain ⟨rk, rfl, rfl, hrk, hFr⟩ := hcut
      obtain ⟨c0, c1, c2, c3, c4, c5, c6, c7, c8, c9, c10⟩ := said_cells hrk
      obtain ⟨l0, l1, l2, l3⟩ := (HLW.out.fr hFr).cells
      have hFrd : Fr noB W wc.drew := hFr.drew
      have hrkd : wc.drew.heap[rk]? = some (.cells #[.string ⟨#[]⟩, .bool false, .float .f64 4619567317775286272, .int .i64 0, .int .i64 0, .int .i64 0, .int .i64 0, .int .i64 0, .int .i64 0, .int .i64 0, .int .i64 0] 91 (0, 0)) := hrk
      have HJ2 := HJ.out wc.drew hFrd
      have hLd2 := HLW.out.fr hFrd
      clear l0 l1 l2 l3 c0 c1 c2 c3 c4 c5 c6 c7 c8 c9 c10
      go_wp2_with fail
      refine wp_region_held_drew (S := fun w' => Ls1 w' lb pb ∧ w'.heap[rk]? = some (.cells #[.string ⟨#[]⟩, .bool false, .float .f64 4619567317775286272, .int .i64 0, .int .i64 0, .int .i64 0, .int .i64 0, .int .i64 0, .int .i64 0, .int .i64 0, .int .i64 0] 91 (0, 0))) (by kernel_rfl) ⟨hLd2, hrkd⟩ (fun hHeld => ?_)
      refine wpAnyH_take (i := 0) (v := .slice (some ⟨lb, 0, none⟩) 1 1) rfl (by kernel_rfl) (by kernel_rfl) (by kernel_rfl) (fun _ _ _ h => h) (Or.inl ⟨by kernel_rfl, fun w hSw => by kernel_rfl⟩) hHeld ?_
      refine wpAnyH_take (i := 1) (v := .int .i64 0) rfl (by kernel_rfl) (by kernel_rfl) (by kernel_rfl) (fun _ _ _ h => h) (Or.inl ⟨by kernel_rfl, fun w hSw => by kernel_rfl⟩) hHeld ?_
      refine wpAnyH_take (i := 2) (v := .pointer (some ⟨lb, 0, none⟩)) rfl (by kernel_rfl) (by kernel_rfl) (by kernel_rfl) (fun _ _ _ h => h) (Or.inl ⟨by kernel_rfl, fun w hSw => by kernel_rfl⟩) hHeld ?_
      refine wpAnyH_take (i := 3) (v := .pointer (some ⟨lb, 1, none⟩)) rfl (by kernel_rfl) (by kernel_rfl) (by kernel_rfl) (fun _ _ _ h => h) (Or.inl ⟨by kernel_rfl, fun w hSw => by kernel_rfl⟩) hHeld ?_
      refine wpAnyH_take (i := 4) (v := .slice (some ⟨pb, 0, none⟩) 1 1) rfl (by kernel_rfl) (by kernel_rfl) (by kernel_rfl) (fun _ _ _ h => h) (y_loadOf 59 (.tmp 59) (.pointer (some ⟨lb, 1, none⟩)) _ (by kernel_rfl) rfl (by kernel_rfl) (fun w h => load_pieces w lb 1 _ h.1.cells.2.1)) hHeld ?_
      refine wpAnyH_take (i := 5) (v := said7) rfl (by kernel_rfl) (by kernel_rfl) (by kernel_rfl) (fun _ _ _ h => h) (y_loadOf 91 (.tmp 8) (.pointer (some ⟨rk, 0, none⟩)) _ (by kernel_rfl) rfl (by kernel_rfl) (fun w h => load_said w rk h.2)) hHeld ?_
      refine wpAnyH_take (i := 6) (v := .pointer (some ⟨rk, 1, none⟩)) rfl (by kernel_rfl) (by kernel_rfl) (by kernel_rfl) (fun _ _ _ h => h) (Or.inl ⟨by kernel_rfl, fun w hSw => by kernel_rfl⟩) hHeld ?_
      refine wpAnyH_take (i := 7) (v := .bool false) rfl (by kernel_rfl) (by kernel_rfl) (by kernel_rfl) (fun _ _ _ h => h) (y_loadOf 4 (.tmp 62) (.pointer (some ⟨rk, 1, none⟩)) _ (by kernel_rfl) rfl (by kernel_rfl) (fun w h => load_bool w rk 1 _ (said_cells h.2).2.1)) hHeld ?_
      refine wpAnyH_take (i := 8) (v := .bool false) rfl (by kernel_rfl) (by kernel_rfl) (by kernel_rfl) (fun _ _ _ h => h) (Or.inl ⟨by kernel_rfl, fun w hSw => by kernel_rfl⟩) hHeld ?_
      refine wpAnyH_take (i := 9) (v := undef) rfl (by kernel_rfl) (by kernel_rfl) (by kernel_rfl) (fun _ _ _ h => h) (Or.inr ⟨by kernel_rfl, rfl⟩) hHeld ?_
      refine wpAnyH_take (i := 10) (v := undef) rfl (by kernel_rfl) (by kernel_rfl) (by kernel_rfl) (fun _ _ _ h => h) (Or.inr ⟨by kernel_rfl, rfl⟩) hHeld ?_
      refine wpAnyH_take (i := 11) (v := undef) rfl (by kernel_rfl) (by kernel_rfl) (by kernel_rfl) (fun _ _ _ h => h) (Or.inr ⟨by kernel_rfl, rfl⟩) hHeld ?_
      refine wpAnyH_take (i := 12) (v := .bool false) rfl (by kernel_rfl) (by kernel_rfl) (by kernel_rfl) (fun _ _ _ h => h) (Or.inl ⟨by kernel_rfl, fun w hSw => by kernel_rfl⟩) hHeld ?_
      refine wpAnyH_ready (rs := [13]) (by kernel_rfl) (by simp) ?_
      refine AllReadyH.cons rfl (fun K hK => ?_) AllReadyH.nil
      rw [if_pos (by kernel_rfl)]
      refine wp_go 64 #[.slice (some ⟨pb, 0, none⟩) 1 1, said7, .bool false] (by kernel_rfl) ?_
      refine HJ2.mono ?_
      rintro e w6 ⟨rfl, hF6⟩
      refine hK.out _ _ ⟨hLd2.fr hF6, hF6.obj hrkd id⟩ (fun hHeld6 => ?_)
      clear hK K
      refine wpAnyH_take (i := 14) (v := .string ⟨#[55]⟩) rfl (by kernel_rfl) (by kernel_rfl) (by kernel_rfl) (fun _ _ _ h => h) (Or.inl ⟨by kernel_rfl, fun w hSw => by kernel_rfl⟩) hHeld6 ?_
      refine wpAnyH_done (by kernel_rfl) ?_ _
      refine frame_to { tmps := #[.slice (some ⟨lb, 0, none⟩) 1 1, .int .i64 0, (.agg #[.int .i64 1, .float .f64 4619567317775286272, .string ⟨#[]⟩, .bool false, .int .i64 0]), undef, undef, .pointer (some ⟨w.heap.size, 0, none⟩), .string ⟨#[55]⟩, .int .i64 0, .pointer (some ⟨rk, 0, none⟩), .bool true, .bool false, u11, u12, u13, u14, u15, u16, .bool false, u18, u19, u20, u21, u22, u23, u24, u25, u26, u27, u28, u29, u30, u31, u32, u33, u34, u35, u36, u37, u38, u39, u40, u41, u42, u43, u44, u45, u46, u47, u48, u49, u50, u51, .bool true, .bool false, u54, u55, .slice (some ⟨lb, 0, none⟩) 1 1, .int .i64 0, .pointer (some ⟨lb, 0, none⟩), .pointer (some ⟨lb, 1, none⟩), .slice (some ⟨pb, 0, none⟩) 1 1, said7, .pointer (some ⟨rk, 1, none⟩), .bool false, .bool false, undef, undef, undef, .bool false, .string ⟨#[55]⟩], defers := [] } (by kernel_rfl) ?_
      dsimp only
      go_wp2_with fail
      go_ret
      exact ⟨rfl, (HF.out.trans hFrd).trans hF6⟩
#print axioms show7
end Go.Proofs.YtnklmcmdlobicaaGreatDoor
