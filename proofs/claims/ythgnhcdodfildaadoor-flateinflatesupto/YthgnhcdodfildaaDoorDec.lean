/- The contracts of huff's longest, inCodeOrder and NewDecoder. -/
import Derived.Test.YthgnhcdodfildaaDoorCodes
import Derived.Test.YthgnhcdodfildaaDoorDecM
import Derived.Deep.LoopGhost
import Derived.Deep.RegionHeld3
namespace Go.Proofs.YthgnhcdodfildaaDoor
open Go.RowKit

set_option maxHeartbeats 400000 in
theorem longest_any (f : Nat → Nat) (w : World) :
    Calls Tryd.prog 88 #[.agg (A16 .i64 f)] w fun e w' => e = .returned (.int .i64 ((lgN f 16 : Nat) : Int)) ∧ Fr noB w w' := by
  go_enter Tryd.func88, Tryd.ntmps88
  go_wp2_with (refine wpList_load_row rfl 122 (.tmp 1) rfl w.heap.size rfl 122 (A16 .i64 f) (0, 0) _ (heap_alloc_new _ _) Tryd.underlying122 rfl (infoBL f .i64) ?_)
  go_loop [3, 7] (fun t i => ∃ k : Nat, k ≤ 16 ∧ i = .int .i64 (k : Int) ∧ t = .int .i64 ((lgN f k : Nat) : Int)) (fun _ i => 16 - (intOf i).toNat)
  case atStart => exact ⟨0, Nat.zero_le _, rfl, rfl⟩
  case round =>
    obtain ⟨k, hk, rfl, rfl⟩ := hrel
    by_cases hlt : k < 16
    · have hi := fun w => index_BL f k hlt w
      by_cases h0 : 0 < f k
      · have h0' : 0 < ((f k : Nat) : Int) := by omega
        have HL : Hid (lgN f (k + 1) = k) := by show (if 0 < f k then k else lgN f k) = k; rw [if_pos h0]
        go_wp2
        go_round
        case rel => exact ⟨k + 1, by omega, by go_num, by rw [HL.out]⟩
        case measure => simp [intOf]; omega
      · have h0' : ¬ 0 < ((f k : Nat) : Int) := by omega
        have HL : Hid (lgN f (k + 1) = lgN f k) := by show (if 0 < f k then k else lgN f k) = _; rw [if_neg h0]
        go_wp2
        go_round
        case rel => exact ⟨k + 1, by omega, by go_num, by rw [HL.out]⟩
        case measure => simp [intOf]; omega
    · go_wp2_with fail
      go_ret
      have : k = 16 := by omega
      subst this
      exact ⟨rfl, (Fr.refl _ _).alloc _⟩

theorem Tryd.infoI : (Tryd.prog.info? 3).map (fun i => (i.zero, i.size, i.bytes)) = some (some (.int .i64 0), 1, 8) := by kernel_rfl

/-- The places behind k symbols. -/
def plcN (M : List Nat) (k : Nat) : Nat → Nat := fun l => ssum (cntN M) l + cntN (M.take k) l
theorem plcN_zero (M : List Nat) : plcN M 0 = ssum (cntN M) := by funext l; simp [plcN, cntN_nil]
theorem plcN_hit (M : List Nat) (k : Nat) (h : k < M.length) (h0 : 0 < M[k]) : plcN M (k + 1) = upd (plcN M k) M[k] (plcN M k M[k] + 1) := by
  funext l
  unfold plcN
  rw [take_snoc M k h, cntN_snoc _ _ h0]
  unfold upd
  split
  · rename_i e; rw [e]; omega
  · rfl
theorem plcN_miss (M : List Nat) (k : Nat) (h : k < M.length) (h0 : M[k] = 0) : plcN M (k + 1) = plcN M k := by
  funext l
  unfold plcN
  rw [take_snoc M k h, h0, cntN_snoc0]
theorem plcN_pos (M : List Nat) (k : Nat) (h : k < M.length) : plcN M k M[k] = posN M k := by
  unfold plcN posN; rw [getD_get M k h]
theorem plcN_le {M : List Nat} (h15 : ∀ x ∈ M, x ≤ 15) (k l : Nat) (hl : l ≤ 15) : plcN M k l ≤ manyN M := by
  have h1 := count_take_le M k l
  have h3 := ssum_mono (cntN M) (l + 1) 16 (by omega)
  rw [ssum_all M h15] at h3
  have h4 : ssum (cntN M) (l + 1) = ssum (cntN M) l + cntN M l := rfl
  unfold plcN; omega

set_option maxRecDepth 100000 in
set_option maxHeartbeats 1600000 in
theorem inOrder_any (v : Value) (M : List Nat) (w : World) (hv : Ns .i64 w v (up M)) (hM : Code M) :
    Calls Tryd.prog 89 #[v, .agg (A16 .i64 (cntN M))] w fun e w' => ∃ g, e = .returned (.slice (some ⟨g, 0, none⟩) (manyN M) (manyN M)) ∧ w.heap.size ≤ g ∧ RowN w' g 3 .i64 (ordN M M.length) ∧ Fr noB w w' := by
  obtain ⟨i0, hi, hz0, hz1, hz2⟩ := info_parts Tryd.infoI
  have hl := hM.short
  have hf := cnt512 M hl
  have hml := manyN_le M
  have HS := symbols_any (cntN M) hf
  rw [ssum_all M hM.le] at HS
  have h15 := hM.le
  obtain ⟨ao, cap, rfl, h1, h2, h4, h3⟩ := hv
  rw [length_up] at *
  have hat : NsAt .i64 w ao (up M) := h3
  clear h3
  unfold maxLen at h2
  obtain ⟨W, hW⟩ : ∃ W, W = (w.alloc (.cells (A16 .i64 (cntN M)) 122 (0, 0))).alloc (.cells (A16 .i64 (fun _ => 0)) 122 (0, 0)) := ⟨_, rfl⟩
  have hF0 : Fr noB w W := by rw [hW]; exact (((Fr.refl noB w).alloc _).alloc _)
  have hc0 : ArrAt W w.heap.size 122 .i64 (cntN M) := by
    rw [hW]; exact (Below.heap_alloc _ _ _ (by simp)).trans (heap_alloc_new _ _)
  have hg0 : ArrAt W (w.heap.size + 1) 122 .i64 (fun _ => 0) := by
    rw [hW]
    have := heap_alloc_new (w.alloc (.cells (A16 .i64 (cntN M)) 122 (0, 0))) (.cells (A16 .i64 (fun _ => 0)) 122 (0, 0))
    rw [World.size_alloc] at this
    exact this
  go_enter Tryd.func89, Tryd.ntmps89
  go_wp2_with fail
  go_loopw [6] (fun i wr => ∃ k : Nat, k ≤ 15 ∧ i = .int .i64 ((k : Int) + 1) ∧ ArrAt wr w.heap.size 122 .i64 (cntN M) ∧ ArrAt wr (w.heap.size + 1) 122 .i64 (fun l => if l ≤ k then ssum (cntN M) l else 0) ∧ Fr noB w wr) (fun i _ => 16 - (intOf i).toNat)
  case atStart => exact ⟨0, Nat.zero_le _, rfl, by rw [hW] at hc0; exact hc0, by
      rw [hW] at hg0
      have e : (fun l => if l ≤ 0 then ssum (cntN M) l else 0) = fun _ => 0 := by
        funext l
        split
        · rename_i h
          obtain rfl : l = 0 := by omega
          rfl
        · rfl
      rw [e]
      exact hg0, by rw [hW] at hF0; exact hF0⟩
  case round =>
    clear hg0 hF0 hc0 hW
    obtain ⟨k, hk, rfl, hc, hg, hF⟩ := hrel
    by_cases hlt : k < 15
    · have cf := A16_cellOf hc k (by omega)
      have cg := A16_cellOf hg k (by omega)
      have fg := freeOf (k + 1) hg
      have cg1 := A16_cellOf hg (k + 1) (by omega)
      rw [if_pos (Nat.le_refl k)] at cg
      have hfk := hf k
      have hsk := ssum_le (cntN M) hf k
      clear HS hf
      go_wp2_with fail
      go_region
      go_wp2
      rw [show (((ssum (cntN M) k : Nat) : Int) + ((cntN M k : Nat) : Int)) = ((ssum (cntN M) (k + 1) : Nat) : Int) from by show _ = ((ssum (cntN M) k + cntN M k : Nat) : Int); omega]
      go_roundw
      case rel =>
        refine ⟨k + 1, by omega, by go_num, ?_, ?_, ?_⟩
        · exact hc.set_ne (by omega) _ _
        · have := hg.set (k + 1) (ssum (cntN M) (k + 1))
          have e : upd (fun l => if l ≤ k then ssum (cntN M) l else 0) (k + 1) (ssum (cntN M) (k + 1)) = (fun l => if l ≤ k + 1 then ssum (cntN M) l else 0) := by
            funext l
            unfold upd
            by_cases e : l = k + 1
            · simp [e]
            · by_cases e2 : l ≤ k
              · rw [if_neg e]; show (if l ≤ k then ssum (cntN M) l else 0) = _; rw [if_pos e2, if_pos (by omega)]
              · rw [if_neg e]; show (if l ≤ k then ssum (cntN M) l else 0) = _; rw [if_neg e2, if_neg (by omega)]
          rw [e] at this
          exact this
        · exact (hF.setCell ⟨w.heap.size + 1, k + 1, none⟩ (Or.inr (by show w.heap.size ≤ w.heap.size + 1; omega)) _).drew
      case measure => simp [intOf]; omega
    · have hk15 : k = 15 := by omega
      subst hk15
      have hg' : ArrAt wr (w.heap.size + 1) 122 .i64 (plcN M 0) := by
        have e : A16 .i64 (fun l => if l ≤ 15 then ssum (cntN M) l else 0) = A16 .i64 (plcN M 0) := by
          rw [plcN_zero]
          apply Array.ext
          · simp
          · intro i h1 h2
            have hi : i ≤ 15 := by have := A16_size .i64 (ssum (cntN M)); omega
            simp [A16, hi]
        unfold ArrAt at hg ⊢
        rw [hg, e]
      clear hg hk hlt
      go_wp2_with (first | (refine wpList_load_row rfl 122 (.tmp 3) rfl w.heap.size rfl 122 (A16 .i64 (cntN M)) (0, 0) _ hc Tryd.underlying122 rfl (infoBL _ .i64) ?_) | (go_at_call 97; refine (HS _).mono ?_; rintro e w3 ⟨rfl, hF3⟩) | (at_make; refine wpList_make_full _ rfl (.tmp 26) (.tmp 26) 73 rfl _ 3 i0 (.int .i64 0) 1 Tryd.underlying73 hi hz0 hz1 .i64 .i64 _ _ (manyN M) rfl rfl rfl rfl (by rw [hz2]; omega) (by unfold maxLen; omega) (Nat.le_refl _) ?_))
      intro w4 hown hgrow
      have hrow := made_nums hown
      have hF4 : Fr noB w w4 := (hF.trans hF3).grown hgrow (by simp)
      have hp : ArrAt w4 (w.heap.size + 1) 122 .i64 (plcN M 0) := by
        have := hg'.keep hF3 id
        exact (hgrow.block _ (lt_of_block this) (by simp)).trans this
      have hs1 : w.heap.size ≤ w3.heap.size := (hF.trans hF3).size
      have hs2 : w.heap.size + 1 < w3.heap.size := lt_of_block (hg'.keep hF3 id)
      obtain ⟨p, hpp⟩ : ∃ p, p = w3.heap.size := ⟨_, rfl⟩
      rw [← hpp] at hrow hs1 hs2 ⊢
      clear hown hgrow HS hF3 hF hc hg' hpp
      have hrow0 : RowN w4 p 3 .i64 (ordN M 0) := hrow
      clear hrow
      go_wp2_with fail
      go_loopg [30] M.length (fun g i wr => ∃ k : Nat, k ≤ M.length ∧ g = M.length - k ∧ i = .int .i64 (k : Int) ∧ RowN wr p 3 .i64 (ordN M k) ∧ ArrAt wr (w.heap.size + 1) 122 .i64 (plcN M k) ∧ Fr noB w wr)
      case atStart => exact ⟨0, Nat.zero_le _, rfl, rfl, hrow0, hp, hF4⟩
      case round =>
        clear hrow0 hp hF4
        obtain ⟨k, hk, rfl, rfl, hrow, hp, hF⟩ := hrel
        by_cases hlt : k < M.length
        · obtain ⟨b, off, rfl, hb, hcell⟩ := (hat.keep hF).get k (by simpa using hlt)
          rw [up_get _ _ hlt] at hcell
          have hx := h15 M[k] (List.getElem_mem hlt)
          have cx := A16_cellOf hp M[k] (by omega)
          have fx := freeOf M[k] hp
          have hn := plcN_le h15 k M[k] hx
          have H0 : Hid (M[k] = 0 → plcN M (k + 1) = plcN M k ∧ ordN M (k + 1) = ordN M k) := fun h => ⟨plcN_miss M k hlt h, by show (if M.getD k 0 = 0 then ordN M k else (ordN M k).set (posN M k) k) = _; rw [getD_get M k hlt, if_pos h]⟩
          have H1 : Hid (0 < M[k] → plcN M (k + 1) = upd (plcN M k) M[k] (plcN M k M[k] + 1) ∧ ordN M (k + 1) = (ordN M k).set (plcN M k M[k]) k ∧ plcN M k M[k] < manyN M) := fun h => ⟨plcN_hit M k hlt h, by show (if M.getD k 0 = 0 then ordN M k else (ordN M k).set (posN M k) k) = _; rw [getD_get M k hlt, if_neg (by omega), plcN_pos M k hlt], by rw [plcN_pos M k hlt]; exact posN_lt h15 k hlt h⟩
          generalize M[k] = x at *
          by_cases hx0 : x = 0
          · have hx0' : ¬ 0 < (x : Int) := by omega
            obtain ⟨e1, e2⟩ := H0.out hx0
            have E1 : Hid _ := e1
            have E2 : Hid _ := e2
            clear e1 e2 H0 H1 cx fx
            go_wp2
            go_roundg (M.length - (k + 1))
            case measure => omega
            case rel => exact ⟨k + 1, by omega, rfl, by go_num, by rw [E2.out]; exact hrow, by rw [E1.out]; exact hp, hF⟩
          · have hx0' : 0 < (x : Int) := by omega
            obtain ⟨e1, e2, e3⟩ := H1.out (by omega)
            have E1 : Hid _ := e1
            have E2 : Hid _ := e2
            have cr := hrow.cell (plcN M k x) (by simpa using e3)
            have fr := freeOf (plcN M k x) hrow
            have hne : ¬ w.heap.size + 1 = p := by omega
            clear e1 e2 H0 H1
            go_wp2
            go_roundg (M.length - (k + 1))
            case measure => omega
            case rel =>
              have h1 := (hrow.set (plcN M k x) k).set_ne (show p ≠ w.heap.size + 1 by omega) x (.int .i64 ((plcN M k x + 1 : Nat) : Int))
              have h2 := (hp.set_ne (show w.heap.size + 1 ≠ p by omega) (plcN M k x) (.int .i64 (k : Int))).set x (plcN M k x + 1)
              rw [← E1.out] at h2
              rw [← E2.out] at h1
              refine ⟨k + 1, by omega, rfl, by go_num, h1, h2, ?_⟩
              exact (hF.setCell ⟨p, plcN M k x, none⟩ (Or.inr (by show w.heap.size ≤ p; omega)) _).setCell ⟨w.heap.size + 1, x, none⟩ (Or.inr (by show w.heap.size ≤ w.heap.size + 1; omega)) _
        · have hkM : k = M.length := by omega
          subst hkM
          go_wp2_with fail
          go_ret
          exact ⟨p, rfl, by omega, hrow, hF⟩

/-- A decoder's cells. -/
def decCells (f : Nat → Nat) (lg : Nat) (sv : Value) : Array Value := (Value.bool true :: ((List.range 16).map fun i => Value.int .i64 ((f i : Nat) : Int)) ++ [.int .i64 (lg : Int), sv]).toArray
/-- Block db is a decoder. -/
def DecAt (w : World) (db : Nat) (f : Nat → Nat) (lg : Nat) (sv : Value) : Prop := w.heap[db]? = some (.cells (decCells f lg sv) 135 (0, 0))
theorem DecAt.made {w : World} {db : Nat} {f : Nat → Nat} {lg : Nat} {sv : Value} (h : DecAt w db f lg sv) : w.cell? ⟨db, 0, none⟩ = some (.bool true) := cellOf h rfl
theorem DecAt.long {w : World} {db : Nat} {f : Nat → Nat} {lg : Nat} {sv : Value} (h : DecAt w db f lg sv) : w.cell? ⟨db, 17, none⟩ = some (.int .i64 (lg : Int)) := cellOf h rfl
theorem DecAt.syms {w : World} {db : Nat} {f : Nat → Nat} {lg : Nat} {sv : Value} (h : DecAt w db f lg sv) : w.cell? ⟨db, 18, none⟩ = some sv := cellOf h rfl
theorem DecAt.count {w : World} {db : Nat} {f : Nat → Nat} {lg : Nat} {sv : Value} (h : DecAt w db f lg sv) (l : Nat) (hl : l < 16) : w.cell? ⟨db, 1 + l, none⟩ = some (.int .i64 ((f l : Nat) : Int)) := by
  refine cellOf h ?_
  unfold decCells
  rw [Nat.add_comm 1 l]
  simp [List.getElem?_append, hl]
/-- A whole decoder of the lengths M. -/
structure DecIs (w : World) (db sb : Nat) (M : List Nat) : Prop where
  dec : DecAt w db (cntN M) (longM M) (.slice (some ⟨sb, 0, none⟩) (manyN M) (manyN M))
  row : RowN w sb 3 .i64 (ordN M M.length)
theorem DecIs.keep {S : Nat → Prop} {w w' : World} {db sb : Nat} {M : List Nat} (h : DecIs w db sb M) (hF : Fr S w w') (h1 : ¬ S db) (h2 : ¬ S sb) : DecIs w' db sb M := ⟨hF.obj h.dec h1, h.row.keep hF h2⟩

set_option maxHeartbeats 400000 in
theorem newDec_bad (v : Value) (L : List Int) (w : World) (hv : Ns .i64 w v L) (hc : chk L ≠ 0) :
    Calls Tryd.prog 75 #[v] w fun e w' => e = .returned (.tuple #[.pointer none, .int .i64 (chk L)]) ∧ Fr noB w w' := by
  have HC := check_any v L w hv
  generalize chk L = c at *
  have hb : (c == 0) = false := by simpa using hc
  obtain ⟨ao, cap, rfl, h1, h2, h4, h3⟩ := hv
  go_enter Tryd.func75, Tryd.ntmps75
  go_wp2_with (go_at_call 68; refine HC.mono ?_; rintro e w1 ⟨rfl, hF1⟩)
  go_ret2
  exact ⟨rfl, hF1⟩

theorem keepS {w0 w w' : World} {g : Nat} {cs : List Value} (h : w.rangeAt g 0 cs ∧ Fr noB w0 w ∧ g < w.heap.size) (hF : Fr noB w w') : w'.rangeAt g 0 cs ∧ Fr noB w0 w' ∧ g < w'.heap.size :=
  ⟨fun j v hj => (hF.cell (a := ⟨g, 0 + j, none⟩) h.2.2 id).trans (h.1 j v hj), h.2.1.trans hF, Nat.lt_of_lt_of_le h.2.2 hF.size⟩
theorem wp_buildTo {P : Program} {o : Oper} {a : Act} {w : World} {K : Act → World → Prop} {Q : Exit → Act → World → Prop} (t : TypeId) (parts : Array (Nat × Operand)) (ho : o.op = .build t parts)
    (cells : Array Value) (hf : P.built t (parts.map fun (i, x) => (i, a.eval x)).toList = some cells) (h : K (a.put o.dst (.agg cells)) w) : o.wp P a w K Q :=
  wp_build t parts ho (by rw [hf]; rfl) (by rw [hf]; exact h)
theorem built_dec (f : Nat → Nat) (lg : Nat) (a : Option Addr) (n m : Nat) : Tryd.prog.built 135 [(0, .bool true), (1, .agg (A16 .i64 f)), (2, .int .i64 (lg : Int)), (3, .slice a n m)] = some (decCells f lg (.slice a n m)) := by kernel_rfl

set_option maxRecDepth 100000 in
set_option maxHeartbeats 3200000 in
theorem newDec_good (v : Value) (M : List Nat) (w : World) (hv : Ns .i64 w v (up M)) (hM : Code M) :
    Calls Tryd.prog 75 #[v] w fun e w' => ∃ db sb, e = .returned (.tuple #[.pointer (some ⟨db, 0, none⟩), .int .i64 0]) ∧ w.heap.size ≤ db ∧ w.heap.size ≤ sb ∧ db ≠ sb ∧ DecIs w' db sb M ∧ Fr noB w w' := by
  have HC := check_any v (up M) w hv
  rw [hM.ok] at HC
  have HN := fun w1 (hF : Fr noB w w1) => count_any v M w1 (hv.keep hF) hM.le hM.short
  obtain ⟨cs, hcs⟩ : ∃ cs : List Value, A16 .i64 (cntN M) = cs.toArray := ⟨_, rfl⟩
  have HL := longest_any (cntN M)
  have HI := fun w1 (hF : Fr noB w w1) => inOrder_any v M w1 (hv.keep hF) hM
  have hcl : cs.length = 16 := by
    have := A16_size .i64 (cntN M)
    rw [hcs] at this
    simpa using this
  have hone : ∀ u ∈ cs, u.oneCell' = true := by
    have := A16_one .i64 (cntN M)
    rw [hcs, Array.all_eq_true_iff_forall_mem] at this
    intro u hu
    exact this u (by simpa using hu)
  have hinf : (Tryd.prog.info? 122).map (·.size) = some cs.length := by rw [hcl]; exact Tryd.infoBL
  have hund := Tryd.underlying122
  obtain ⟨ao, cap, rfl, h1, h2, h4, h3⟩ := hv
  rw [length_up] at *
  clear h3
  have hbt : ∀ (a : Option Addr) (n : Nat), Tryd.prog.built 135 [(0, .bool true), (1, .agg cs.toArray), (2, .int .i64 ((lgN (cntN M) 16 : Nat) : Int)), (3, .slice a n n)] = some (decCells (cntN M) (longM M) (.slice a n n)) := by
    intro a n
    rw [← hcs]
    exact built_dec _ _ _ _ _
  rw [hcs] at HN HL HI
  go_enter Tryd.func75, Tryd.ntmps75
  go_wp2_with (first | (go_at_call 68; refine HC.mono ?_; rintro e w1 ⟨rfl, hF1⟩) | (go_at_call 70; refine (HN _ hF1).mono ?_; rintro e w2 ⟨rfl, hF2⟩) | (refine wpList_store_row rfl 122 (.tmp 5) (.tmp 12) rfl w2.heap.size cs.toArray rfl rfl 122 _ (heap_alloc_new _ _) (by simpa using hinf) (by simp [hcl]) (by rw [← hcs]; exact A16_one _ _) ?_; rw [World.setRow_alloc_new]))
  have hb2 := heap_alloc_new w2 (.cells cs.toArray 122 (0, 0))
  have hF3 : Fr noB w (w2.alloc (.cells cs.toArray 122 (0, 0))) := (hF1.trans hF2).alloc _
  have hlt2 : w2.heap.size < (w2.alloc (.cells cs.toArray 122 (0, 0))).heap.size := by simp
  generalize w2.alloc (.cells cs.toArray 122 (0, 0)) = W at *
  generalize w2.heap.size = g at *
  have hS0 : W.drew.rangeAt g 0 cs ∧ Fr noB w W.drew ∧ g < W.drew.heap.size := ⟨fun j v hj => by
    rw [Nat.zero_add]
    exact cellOf (w := W.drew) (cs := cs.toArray) hb2 (by simpa using hj), hF3.drew, hlt2⟩
  clear hb2 hF3 hlt2 hF1 hF2 HC HN
  refine wp_region_held_drew (S := fun w' => w'.rangeAt g 0 cs ∧ Fr noB w w' ∧ g < w'.heap.size) (by kernel_rfl) hS0 (fun hHeld => ?_)
  refine wpAnyH_take (i := 0) rfl (by kernel_rfl) (by kernel_rfl) (by kernel_rfl) (fun _ _ _ h => h) (yieldsIf_load_mid (by rfl) _ _ rfl _ _ rfl cs _ (fun _ h => h.1) hund rfl hinf) hHeld ?_
  simp only [Act.put]
  refine wpAnyH_take (i := 1) rfl (by kernel_rfl) (by kernel_rfl) (by kernel_rfl) (fun _ _ _ h => h) (yieldsIf_load_mid (by rfl) _ _ rfl _ _ rfl cs _ (fun _ h => h.1) hund rfl hinf) hHeld ?_
  simp only [Act.put]
  refine wpAnyH_take (i := 4) rfl (by kernel_rfl) (by kernel_rfl) (by kernel_rfl) (fun _ _ _ h => h) (yieldsIf_load_mid (by rfl) _ _ rfl _ _ rfl cs _ (fun _ h => h.1) hund rfl hinf) hHeld ?_
  simp only [Act.put]
  refine wpAnyH_take (i := 3) (v := .slice ao M.length cap) rfl (by kernel_rfl) (by kernel_rfl) (by kernel_rfl) (fun _ _ _ h => h) (Or.inl ⟨by rfl, fun w hSw => by go_simp⟩) hHeld ?_
  simp only [Act.put]
  refine wpAnyH_ready (rs := [2]) (by kernel_rfl) (by simp) ?_
  refine AllReadyH.cons rfl (fun K hK => ?_) AllReadyH.nil
  go_simp
  refine (HL _).mono ?_
  rintro e w5 ⟨rfl, hFL⟩
  refine hK.out _ _ (keepS hHeld hFL) (fun hHeld5 => ?_)
  clear hK K
  refine wpAnyH_ready (rs := [5]) (by kernel_rfl) (by simp) ?_
  refine AllReadyH.cons rfl (fun K hK => ?_) AllReadyH.nil
  go_simp
  refine (HI _ hHeld5.2.1).mono ?_
  rintro e w6 ⟨sb, rfl, hsb, hrow, hFI⟩
  refine hK.out _ _ (keepS hHeld5 hFI) (fun hHeld6 => ?_)
  clear hK K
  refine wpAnyH_ready (rs := [6]) (by kernel_rfl) (by simp) ?_
  refine AllReadyH.cons rfl (fun K hK => ?_) AllReadyH.nil
  rw [if_pos (by rfl)]
  refine wp_buildTo _ _ rfl (decCells (cntN M) (longM M) (.slice (some ⟨sb, 0, none⟩) (manyN M) (manyN M))) (by simpa [Act.eval] using hbt (some ⟨sb, 0, none⟩) (manyN M)) ?_
  refine hK.out _ _ hHeld6 (fun hHeld7 => ?_)
  clear hK K
  simp only [Act.put]
  refine wpAnyH_ready (rs := [7]) (by kernel_rfl) (by simp) ?_
  refine AllReadyH.cons rfl (fun K hK => ?_) AllReadyH.nil
  go_simp
  refine hK.out _ _ (keepS hHeld7 ((Fr.refl noB _).alloc _)) (fun hHeld8 => ?_)
  clear hK K
  refine wpAnyH_ready (rs := [8]) (by kernel_rfl) (by simp) ?_
  refine AllReadyH.cons rfl (fun K hK => ?_) AllReadyH.nil
  go_simp
  refine hK.out _ _ hHeld8 (fun hHeld9 => ?_)
  clear hK K
  refine wpAnyH_ready (rs := [9]) (by kernel_rfl) (by simp) ?_
  refine AllReadyH.cons rfl (fun K hK => ?_) AllReadyH.nil
  go_simp
  refine hK.out _ _ hHeld9 (fun hHeld10 => ?_)
  clear hK K
  refine wpAnyH_done (by kernel_rfl) ?_ _
  go_wp2
  go_ret2
  have hlt6 := lt_of_block hrow
  have hs5 : w.heap.size ≤ w5.heap.size := hHeld5.2.1.size
  refine ⟨w6.heap.size, sb, rfl, hHeld6.2.1.size, by omega, by omega, ⟨heap_alloc_new _ _, hrow.keep ((Fr.refl noB _).alloc _) id⟩, hHeld6.2.1.alloc _⟩
#print axioms inOrder_any
#print axioms newDec_good
end Go.Proofs.YthgnhcdodfildaaDoor
