/- Lines and levels: their tables, and what is asked of them. -/
import Derived.Test.YtdmjbhbiehjelaaGreatDoorProg
import Derived.Test.YtdmjbhbiehjelaaGreatDoorK01
import Derived.Laws.Tables
import Derived.Laws.Rows
import Derived.Deep.Cut
namespace Go.Proofs.YtdmjbhbiehjelaaGreatDoor
open Go.RowKit

/-- The operators' lines, signs and operations, in the table's order. -/
def oprL : List (Nat × ByteArray × Int) := [(1, ⟨#[61]⟩, 18), (1, ⟨#[60, 62]⟩, 19), (1, ⟨#[60]⟩, 20), (1, ⟨#[60, 61]⟩, 21), (1, ⟨#[62]⟩, 22), (1, ⟨#[62, 61]⟩, 23), (2, ⟨#[38]⟩, 17), (3, ⟨#[43]⟩, 15), (3, ⟨#[45]⟩, 16), (4, ⟨#[42]⟩, 13), (4, ⟨#[47]⟩, 14), (5, ⟨#[94]⟩, 12), (8, ⟨#[126]⟩, 24), (9, ⟨#[33]⟩, 25)]
def oLn (i : Nat) : Nat := (oprL.getD i (0, ⟨#[]⟩, 0)).1
def oSg (i : Nat) : ByteArray := (oprL.getD i (0, ⟨#[]⟩, 0)).2.1
def oOp (i : Nat) : Int := (oprL.getD i (0, ⟨#[]⟩, 0)).2.2
def OpT (w : World) : Prop := ∃ fr, w.heap[2]? = some (.cells #[.int .i64 1, .string ⟨#[61]⟩, .int .i64 18, .int .i64 1, .string ⟨#[60, 62]⟩, .int .i64 19, .int .i64 1, .string ⟨#[60]⟩, .int .i64 20, .int .i64 1, .string ⟨#[60, 61]⟩, .int .i64 21, .int .i64 1, .string ⟨#[62]⟩, .int .i64 22, .int .i64 1, .string ⟨#[62, 61]⟩, .int .i64 23, .int .i64 2, .string ⟨#[38]⟩, .int .i64 17, .int .i64 3, .string ⟨#[43]⟩, .int .i64 15, .int .i64 3, .string ⟨#[45]⟩, .int .i64 16, .int .i64 4, .string ⟨#[42]⟩, .int .i64 13, .int .i64 4, .string ⟨#[47]⟩, .int .i64 14, .int .i64 5, .string ⟨#[94]⟩, .int .i64 12, .int .i64 8, .string ⟨#[126]⟩, .int .i64 24, .int .i64 9, .string ⟨#[33]⟩, .int .i64 25] 111 fr)
def PrT (w : World) : Prop := ∃ fr, w.heap[0]? = some (.cells #[.string ⟨#[]⟩, .int .i64 0, .string ⟨#[]⟩, .int .i64 10, .string ⟨#[]⟩, .int .i64 10, .string ⟨#[]⟩, .int .i64 10, .string ⟨#[]⟩, .int .i64 10, .string ⟨#[]⟩, .int .i64 10, .string ⟨#[]⟩, .int .i64 10, .string ⟨#[]⟩, .int .i64 10, .string ⟨#[]⟩, .int .i64 10, .string ⟨#[43]⟩, .int .i64 7, .string ⟨#[45]⟩, .int .i64 7, .string ⟨#[37]⟩, .int .i64 6, .string ⟨#[94]⟩, .int .i64 5, .string ⟨#[42]⟩, .int .i64 4, .string ⟨#[47]⟩, .int .i64 4, .string ⟨#[43]⟩, .int .i64 3, .string ⟨#[45]⟩, .int .i64 3, .string ⟨#[38]⟩, .int .i64 2, .string ⟨#[61]⟩, .int .i64 1, .string ⟨#[60, 62]⟩, .int .i64 1, .string ⟨#[60]⟩, .int .i64 1, .string ⟨#[60, 61]⟩, .int .i64 1, .string ⟨#[62]⟩, .int .i64 1, .string ⟨#[62, 61]⟩, .int .i64 1, .string ⟨#[126]⟩, .int .i64 8, .string ⟨#[33]⟩, .int .i64 9] 67 fr)
theorem OpT.fr {w w' : World} (h : OpT w) (hF : Fr noB w w') : OpT w' := by
  obtain ⟨f, e⟩ := h
  exact ⟨f, hF.obj e id⟩
theorem PrT.fr {w w' : World} (h : PrT w) (hF : Fr noB w w') : PrT w' := by
  obtain ⟨f, e⟩ := h
  exact ⟨f, hF.obj e id⟩
theorem info_arr14 : (Tryz.prog.info? 111).map (·.size) = some 42 := by kernel_rfl
theorem idx14 (i : Nat) (hi : i < 14) (w : World) : (Instr.index 111 (.agg #[.int .i64 1, .string ⟨#[61]⟩, .int .i64 18, .int .i64 1, .string ⟨#[60, 62]⟩, .int .i64 19, .int .i64 1, .string ⟨#[60]⟩, .int .i64 20, .int .i64 1, .string ⟨#[60, 61]⟩, .int .i64 21, .int .i64 1, .string ⟨#[62]⟩, .int .i64 22, .int .i64 1, .string ⟨#[62, 61]⟩, .int .i64 23, .int .i64 2, .string ⟨#[38]⟩, .int .i64 17, .int .i64 3, .string ⟨#[43]⟩, .int .i64 15, .int .i64 3, .string ⟨#[45]⟩, .int .i64 16, .int .i64 4, .string ⟨#[42]⟩, .int .i64 13, .int .i64 4, .string ⟨#[47]⟩, .int .i64 14, .int .i64 5, .string ⟨#[94]⟩, .int .i64 12, .int .i64 8, .string ⟨#[126]⟩, .int .i64 24, .int .i64 9, .string ⟨#[33]⟩, .int .i64 25]) (.int .i64 (i : Int))).run Tryz.prog w = .ok (.agg #[.int .i64 (oLn i : Int), .string (oSg i), .int .i64 (oOp i)]) w := by
  obtain rfl | rfl | rfl | rfl | rfl | rfl | rfl | rfl | rfl | rfl | rfl | rfl | rfl | rfl : i = 0 ∨ i = 1 ∨ i = 2 ∨ i = 3 ∨ i = 4 ∨ i = 5 ∨ i = 6 ∨ i = 7 ∨ i = 8 ∨ i = 9 ∨ i = 10 ∨ i = 11 ∨ i = 12 ∨ i = 13 := by omega
  all_goals kernel_rfl
theorem oper_tab (w : World) (h : OpT w) : ∃ (CS : Array Value) (fr : Nat × Nat), w.heap[2]? = some (.cells CS 111 fr) ∧ (Tryz.prog.info? 111).map (·.size) = some CS.size ∧ ∀ (i : Nat), i < 14 → ∀ W : World, (Instr.index 111 (.agg CS) (.int .i64 (i : Int))).run Tryz.prog W = .ok (.agg #[.int .i64 (oLn i : Int), .string (oSg i), .int .i64 (oOp i)]) W := by
  obtain ⟨f, e⟩ := h
  exact ⟨_, f, e, info_arr14, fun i hi W => idx14 i hi W⟩
theorem oLn_eq (i : Nat) (hi : i < 14) : lnF (oOp i) = oLn i := by
  have e : ∀ k : _root_.Fin 14, lnF (oOp k.val) = oLn k.val := by decide
  exact e ⟨i, hi⟩
theorem oLn_no (op : Int) (h : ∀ i, i < 14 → ¬ oOp i = op) : lnF op = if op = 11 then 6 else if op = 9 ∨ op = 10 then 7 else if 1 ≤ op ∧ op ≤ 8 then 10 else 0 := by
  have a : ∀ i : _root_.Fin 14, ¬ oOp i.val = op := fun i => h i.val i.isLt
  have b : ¬ (12 ≤ op ∧ op ≤ 25) := fun hb => by
    have c : ∀ j : _root_.Fin 14, ∃ i : _root_.Fin 14, oOp i.val = 12 + (j.val : Int) := by decide
    obtain ⟨i, hi⟩ := c ⟨(op - 12).toNat, by omega⟩
    exact a i (by rw [hi]; simp; omega)
  unfold lnF
  (repeat' split) <;> omega
set_option maxRecDepth 100000 in
set_option maxHeartbeats 2000000 in
theorem lineOf_any (op : Int) (w : World) (hO : OpT w) : Calls Tryz.prog 64 #[.int .i64 op] w fun e w' => e = .returned (.int .i64 (lnF op : Int)) ∧ Fr noB w w' := by
  obtain ⟨CS, fz, hblk, hinf, hI⟩ := oper_tab w hO
  have HY : Hid (∀ i, i < 14 → oOp i = op → lnF op = oLn i) := fun i hi e => by rw [← e]; exact oLn_eq i hi
  have HN : Hid ((∀ i, i < 14 → ¬ oOp i = op) → lnF op = if op = 11 then 6 else if op = 9 ∨ op = 10 then 7 else if 1 ≤ op ∧ op ≤ 8 then 10 else 0) := oLn_no op
  generalize oLn = LN at *
  generalize oSg = SG at *
  generalize oOp = OP at *
  obtain ⟨A, hA⟩ : ∃ A : Nat, lnF op = A := ⟨_, rfl⟩
  rw [hA] at HY HN ⊢
  clear hO hA
  go_enter Tryz.func64, Tryz.ntmps64
  go_wp2_with (refine wpList_load_row rfl 111 (.global 2) rfl 2 rfl 111 CS fz _ hblk Tryz.underlying111 rfl hinf ?_)
  clear hblk hinf
  go_loopw [6] (fun iv wr => ∃ i : Nat, iv = .int .i64 (i : Int) ∧ i ≤ 14 ∧ Hid (∀ j, j < i → ¬ OP j = op) ∧ Hid (Fr noB w wr)) (fun iv _ => 14 - (intOf iv).toNat)
  case atStart => exact ⟨0, rfl, by omega, fun j hj => by omega, Fr.refl _ _⟩
  case round =>
    obtain ⟨i, rfl, hi, HC, HF⟩ := hrel
    by_cases hlt : i < 14
    · have hx := fun W => hI i hlt W
      clear hI
      have HF2 : Hid (∀ o, Fr noB w (wr.alloc o)) := fun o => HF.out.alloc o
      by_cases he : OP i = op
      · have HV : Hid (A = LN i) := HY.out i hlt he
        generalize LN i = T at *
        generalize SG i = T2 at *
        rw [he] at hx
        clear he HC HY HN
        go_wp2_with fail
        go_ret
        rw [HV.out]
        exact ⟨rfl, HF2.out _⟩
      · have HV : Hid (∀ j, j < i + 1 → ¬ OP j = op) := fun j hj => by
          by_cases h : j = i
          · rw [h]; exact he
          · exact HC.out j (by omega)
        generalize LN i = T at *
        generalize SG i = T2 at *
        generalize OP i = T3 at *
        clear HC HY HN
        go_wp2_with fail
        go_roundw
        case rel => exact ⟨i + 1, by go_num, by omega, HV, HF2.out _⟩
        case measure => simp [intOf]; omega
    · obtain rfl : i = 14 := by omega
      have HV : Hid _ := HN.out HC.out
      clear HC HY HN hI
      by_cases h1 : op = 11
      · have HV1 : Hid (A = 6) := by
          have := HV.out
          rwa [if_pos h1] at this
        subst h1
        clear HV
        go_wp2_with fail
        go_ret
        rw [HV1.out]
        exact ⟨rfl, HF.out⟩
      · by_cases h2 : op = 9
        · have HV1 : Hid (A = 7) := by
            have := HV.out
            rwa [if_neg h1, if_pos (Or.inl h2)] at this
          subst h2
          clear HV
          go_wp2_with fail
          go_ret
          rw [HV1.out]
          exact ⟨rfl, HF.out⟩
        · by_cases h3 : op = 10
          · have HV1 : Hid (A = 7) := by
              have := HV.out
              rwa [if_neg h1, if_pos (Or.inr h3)] at this
            subst h3
            clear HV
            go_wp2_with fail
            go_ret
            rw [HV1.out]
            exact ⟨rfl, HF.out⟩
          · have g2 : (op == 9) = false := by simpa using h2
            have g3 : (op == 10) = false := by simpa using h3
            by_cases h4 : 1 ≤ op ∧ op ≤ 8
            · have HV1 : Hid (A = 10) := by
                have := HV.out
                rwa [if_neg h1, if_neg (by rintro (e | e) <;> omega), if_pos h4] at this
              obtain ⟨h5, h6⟩ := h4
              clear HV
              go_wp2_with fail
              go_ret
              rw [HV1.out]
              exact ⟨rfl, HF.out⟩
            · have HV1 : Hid (A = 0) := by
                have := HV.out
                rwa [if_neg h1, if_neg (by rintro (e | e) <;> omega), if_neg h4] at this
              clear HV
              by_cases h5 : 1 ≤ op
              · have h6 : ¬ op ≤ 8 := fun e => h4 ⟨h5, e⟩
                clear h4
                go_wp2_with fail
                go_ret
                rw [HV1.out]
                exact ⟨rfl, HF.out⟩
              · clear h4
                go_wp2_with fail
                go_ret
                rw [HV1.out]
                exact ⟨rfl, HF.out⟩
/-- What the table of operations says of a number. -/
theorem ptab_cells {w : World} (h : PrT w) (n : Nat) (hn : n < 26) : w.cell? ⟨0, n * 2, none⟩ = some (.string (sgF n)) ∧ w.cell? ⟨0, n * 2 + 1, none⟩ = some (.int .i64 (lnF n : Int)) := by
  obtain ⟨f, e⟩ := h
  obtain rfl | rfl | rfl | rfl | rfl | rfl | rfl | rfl | rfl | rfl | rfl | rfl | rfl | rfl | rfl | rfl | rfl | rfl | rfl | rfl | rfl | rfl | rfl | rfl | rfl | rfl : n = 0 ∨ n = 1 ∨ n = 2 ∨ n = 3 ∨ n = 4 ∨ n = 5 ∨ n = 6 ∨ n = 7 ∨ n = 8 ∨ n = 9 ∨ n = 10 ∨ n = 11 ∨ n = 12 ∨ n = 13 ∨ n = 14 ∨ n = 15 ∨ n = 16 ∨ n = 17 ∨ n = 18 ∨ n = 19 ∨ n = 20 ∨ n = 21 ∨ n = 22 ∨ n = 23 ∨ n = 24 ∨ n = 25 := by omega
  all_goals exact ⟨by simp only [World.cell?, e]; rfl, by simp only [World.cell?, e]; rfl⟩
theorem opn_in {w : World} (h : PrT w) (n : Nat) (hn : n < 26) : (Instr.loadAt 44 (.pointer (some ⟨0, n * 2, none⟩))).run Tryz.prog w = .ok (.agg #[.string (sgF n), .int .i64 (lnF n : Int)]) w := by
  have hu := Tryz.underlying44
  obtain ⟨g0, g1⟩ := ptab_cells h n hn
  simp [go_sem, g0, g1]
theorem sgF_no (op : Int) (h : ¬ (0 ≤ op ∧ op < 26)) : sgF op = ⟨#[]⟩ ∧ lnF op = 0 := by
  constructor
  · unfold sgF
    repeat rw [if_neg (by omega)]
  · unfold lnF
    (repeat' split) <;> first | rfl | omega
theorem opInfo : (Tryz.prog.info? 44).map (·.size) = some 2 := by kernel_rfl
set_option maxRecDepth 100000 in
set_option maxHeartbeats 2000000 in
theorem opn_any (op : Int) (w : World) (hP : PrT w) : Calls Tryz.prog 20 #[.int .i64 op] w fun e w' => e = .returned (.agg #[.string (sgF op), .int .i64 (lnF op : Int)]) ∧ Fr noB w w' := by
  have HF : Hid (∀ o, Fr noB w (w.alloc o)) := fun o => (Fr.refl noB w).alloc o
  by_cases h0 : op < 0
  · obtain ⟨e1, e2⟩ := sgF_no op (by omega)
    rw [e1, e2]
    clear hP e1 e2
    go_enter Tryz.func20, Tryz.ntmps20
    go_wp2_with fail
    exact bodyPost_ret (results_cell_row Tryz.results20 _ _ w.heap.size 44 #[.string ⟨#[]⟩, .int .i64 0] (0, 0) _ rfl (heap_alloc_new w _) Tryz.underlying44 rfl opInfo) rfl ⟨rfl, HF.out _⟩
  · by_cases h1 : op < 26
    · obtain ⟨n, rfl⟩ : ∃ n : Nat, op = (n : Int) := ⟨op.toNat, by omega⟩
      have hn : n < 26 := by omega
      have hc := ptab_cells (hP.fr (HF.out (.cells #[.string ⟨#[]⟩, .int .i64 0] 44 (0, 0)))) n hn
      obtain ⟨g0, g1⟩ := hc
      clear hP
      generalize sgF n = S at *
      generalize lnF n = L at *
      go_enter Tryz.func20, Tryz.ntmps20
      go_wp2_with fail
      exact bodyPost_ret (results_cell_row Tryz.results20 _ _ w.heap.size 44 #[.string S, .int .i64 (L : Int)] (0, 0) _ rfl (heap_alloc_new w _) Tryz.underlying44 rfl opInfo) rfl ⟨rfl, HF.out _⟩
    · obtain ⟨e1, e2⟩ := sgF_no op (by omega)
      rw [e1, e2]
      clear hP e1 e2
      go_enter Tryz.func20, Tryz.ntmps20
      go_wp2_with fail
      exact bodyPost_ret (results_cell_row Tryz.results20 _ _ w.heap.size 44 #[.string ⟨#[]⟩, .int .i64 0] (0, 0) _ rfl (heap_alloc_new w _) Tryz.underlying44 rfl opInfo) rfl ⟨rfl, HF.out _⟩
set_option maxRecDepth 100000 in
theorem psign_any (op : Int) (w : World) (hP : PrT w) : Calls Tryz.prog 11 #[.int .i64 op] w fun e w' => e = .returned (.string (sgF op)) ∧ Fr noB w w' := by
  have H := opn_any op w hP
  clear hP
  generalize sgF op = S at *
  generalize lnF op = L at *
  have hf : ∀ W, (Instr.field 44 (.agg #[.string S, .int .i64 (L : Int)]) 0).run Tryz.prog W = .ok (.string S) W := fun _ => by kernel_rfl
  go_enter Tryz.func11, Tryz.ntmps11
  go_wp2_with (go_at_call 20; refine H.mono ?_; rintro e w1 ⟨rfl, hF1⟩)
  go_ret
  exact ⟨rfl, hF1⟩
set_option maxRecDepth 100000 in
theorem plevel_any (op : Int) (w : World) (hP : PrT w) : Calls Tryz.prog 13 #[.int .i64 op] w fun e w' => e = .returned (.int .i64 (lnF op : Int)) ∧ Fr noB w w' := by
  have H := opn_any op w hP
  clear hP
  generalize sgF op = S at *
  generalize lnF op = L at *
  have hf : ∀ W, (Instr.field 44 (.agg #[.string S, .int .i64 (L : Int)]) 1).run Tryz.prog W = .ok (.int .i64 (L : Int)) W := fun _ => by kernel_rfl
  go_enter Tryz.func13, Tryz.ntmps13
  go_wp2_with (go_at_call 20; refine H.mono ?_; rintro e w1 ⟨rfl, hF1⟩)
  go_ret
  exact ⟨rfl, hF1⟩
/-- What hold throws. -/
def pthr (c : Int) : Ending := .panicked [{ v := .iface 50 (.agg #[.int .i64 c]), recovered := false }]
theorem phold_ok (c : Int) (w : World) : Calls Tryz.prog 24 #[.bool true, .int .i64 c] w fun e w' => e = .returned (.tuple #[]) ∧ w' = w := by
  go_enter Tryz.func24, Tryz.ntmps24
  go_wp2_with fail
  go_end0
  exact ⟨rfl, rfl⟩
theorem phold_no (c : Int) (w : World) : Calls Tryz.prog 24 #[.bool false, .int .i64 c] w fun e w' => e = pthr c ∧ w' = w := by
  go_enter Tryz.func24, Tryz.ntmps24
  go_wp2_with fail
  exact ⟨rfl, rfl, rfl⟩
#print axioms phold_no
#print axioms plevel_any
#print axioms lineOf_any
#print axioms ptab_cells
end Go.Proofs.YtdmjbhbiehjelaaGreatDoor
