/- The program's Fixed: its contract. -/
import Derived.Test.YthgnhcdodfildaaDoorK27
import Derived.Test.YthgnhcdodfildaaDoorPut
import Derived.Test.YthgnhcdodfildaaDoorCodes
import Derived.Test.YthgnhcdodfildaaDoorEq
import Derived.Deep.LoopGhost
namespace Go.Proofs.YthgnhcdodfildaaDoor
open Go.RowKit

/-- v reads D, in blocks below n. -/
def BsLow (n : Nat) (w : World) (v : Value) (D : List Nat) : Prop := Bs w v D ∧ (D = [] ∨ ∀ b off len cap, v = .slice (some ⟨b, off, none⟩) len cap → b < n)
theorem BsLow.fr {n : Nat} {S : Nat → Prop} {w w' : World} {v : Value} {D : List Nat} (h : BsLow n w v D) (hF : Fr S w w') (hS : ∀ k, k < n → ¬ S k) : BsLow n w' v D := by
  refine ⟨?_, h.2⟩
  obtain ⟨ao, cap, rfl, h1, h2, h4, h3⟩ := h.1
  refine ⟨ao, cap, rfl, h1, h2, h4, ?_⟩
  rcases h3 with h3 | ⟨b, off, rfl, hb, hc⟩
  · exact Or.inl h3
  · rcases h.2 with h5 | h5
    · exact Or.inl h5
    · have hbn := h5 b off _ _ rfl
      exact Or.inr ⟨b, off, rfl, Nat.lt_of_lt_of_le hb hF.size, fun i hi => (hF.cell (a := ⟨b, off + i, none⟩) hb (hS b hbn)).trans (hc i hi)⟩
theorem BsLow.wr {wb : Nat} {w w' : World} {v : Value} {D : List Nat} (h : BsLow wb w v D) (hF : Fr (wS w wb) w w') : BsLow wb w' v D :=
  h.fr hF (fun k hk hs => by rcases hs with e | ⟨e, _⟩ <;> omega)
theorem BsLow.of {w : World} {v : Value} {D : List Nat} (h : Bs w v D) : BsLow w.heap.size w v D := by
  refine ⟨h, ?_⟩
  obtain ⟨ao, cap, rfl, h1, h2, h4, h3⟩ := h
  rcases h3 with h3 | ⟨b, off, rfl, hb, hc⟩
  · exact Or.inl h3
  · right
    intro b' off' len cap' e
    simp at e
    omega
theorem BsLow.take {n k : Nat} {w : World} {ao : Option Addr} {cap : Nat} {D : List Nat} (h : BsLow n w (.slice ao D.length cap) D) (hk : k ≤ D.length) : BsLow n w (.slice ao k cap) (D.take k) := by
  have hl : (D.take k).length = k := by simp; omega
  obtain ⟨⟨ao', cap', e, h1, h2, h4, h3⟩, h5⟩ := h
  simp at e
  obtain ⟨rfl, rfl⟩ := e
  refine ⟨⟨ao, cap, by rw [hl], by omega, h2, h4, ?_⟩, ?_⟩
  · rcases h3 with rfl | ⟨b, off, rfl, hb, hc⟩
    · left; simp
    · right
      refine ⟨b, off, rfl, hb, fun i hi => ?_⟩
      rw [List.getElem_take]
      exact hc i (by omega)
  · rcases h5 with rfl | h5
    · left; simp
    · right
      intro b off len cap' e
      simp at e
      exact h5 b off _ _ (by rw [e.1])
theorem BsLow.drop {n k b off : Nat} {w : World} {cap : Nat} {D : List Nat} (h : BsLow n w (.slice (some ⟨b, off, none⟩) D.length cap) D) (hk : k ≤ D.length) (hD : D ≠ []) : BsLow n w (.slice (some ⟨b, off + k, none⟩) (D.length - k) (cap - k)) (D.drop k) := by
  have hl : (D.drop k).length = D.length - k := by simp
  obtain ⟨⟨ao', cap', e, h1, h2, h4, h3⟩, h5⟩ := h
  simp at e
  obtain ⟨rfl, rfl⟩ := e
  refine ⟨⟨_, cap - k, by rw [hl], by omega, by omega, by simp, ?_⟩, ?_⟩
  · rcases h3 with h3 | ⟨b', off', e, hb, hc⟩
    · exact absurd h3 hD
    · simp at e
      obtain ⟨rfl, rfl⟩ := e
      right
      refine ⟨b, off + k, rfl, hb, fun i hi => ?_⟩
      rw [List.getElem_drop, Nat.add_assoc]
      exact hc (k + i) (by omega)
  · rcases h5 with h5 | h5
    · exact absurd h5 hD
    · right
      intro b' off' len cap' e
      simp at e
      rw [← e.1.1]
      exact h5 b off _ _ rfl

set_option maxHeartbeats 400000 in
theorem putHead_any (wb kind : Nat) (fin : Bool) (l : List Bool) (w : World) (h : WrIs w wb l) (hk : kind < 4) (hl : l.length ≤ 1125899906841000) :
    Calls Tryd.prog 30 #[.pointer (some ⟨wb, 0, none⟩), .int .i64 (kind : Int), .bool fin] w fun e w' => e = .returned (.tuple #[]) ∧ WrIs w' wb (l ++ bitsN fin.toNat 1 ++ bitsN kind 2) ∧ Fr (wS w wb) w w' := by
  have HA := wbits_good wb fin.toNat 1 l w h (by decide) (by cases fin <;> decide) (by omega)
  have HB := fun w1 (h1 : WrIs w1 wb (l ++ bitsN fin.toNat 1)) => wbits_good wb kind 2 (l ++ bitsN fin.toNat 1) w1 h1 (by decide) (by simpa using hk) (by simp; omega)
  have HHB : Hid _ := HB
  clear HB
  cases fin with
  | false =>
    go_enter Tryd.func30, Tryd.ntmps30
    go_wp2_with fail
    refine HA.mono ?_
    rintro e w1 ⟨rfl, h1, hF1⟩
    have HC := HHB.out w1 h1
    go_wp2_with fail
    refine HC.mono ?_
    rintro e w2 ⟨rfl, h2, hF2⟩
    go_wp2_with fail
    go_end0
    exact ⟨rfl, h2, wtrans hF1 hF2⟩
  | true =>
    go_enter Tryd.func30, Tryd.ntmps30
    go_wp2_with fail
    refine HA.mono ?_
    rintro e w1 ⟨rfl, h1, hF1⟩
    have HC := HHB.out w1 h1
    go_wp2_with fail
    refine HC.mono ?_
    rintro e w2 ⟨rfl, h2, hF2⟩
    go_wp2_with fail
    go_end0
    exact ⟨rfl, h2, wtrans hF1 hF2⟩

theorem WrIs.stay {S : Nat → Prop} {w w' : World} {wb : Nat} {l : List Bool} (h : WrIs w wb l) (hF : Fr S w w') (hS : ∀ k, wb ≤ k → ¬ S k) : WrIs w' wb l := by
  obtain ⟨sv, h1, h2⟩ := h
  refine ⟨sv, hF.obj h1 (hS wb (Nat.le_refl _)), ?_⟩
  obtain ⟨o1, o2⟩ := h2
  refine ⟨o1, ?_⟩
  rcases o2 with o2 | ⟨g', cap', cur', k1, k2, k3, k4⟩
  · exact Or.inl o2
  · exact Or.inr ⟨g', cap', cur', k1, k2, hF.obj k3 (hS g' (by omega)), k4⟩

theorem RowN.wr {w w' : World} {wb g : Nat} {e : TypeId} {k : IntKind} {C : List Nat} (h : RowN w g e k C) (he : e ≠ 5) (hg : g ≠ wb) (hF : Fr (wS w wb) w w') : RowN w' g e k C :=
  h.keep hF (fun hs => by
    rcases hs with e' | ⟨_, cs, fr, e'⟩
    · exact hg e'
    · unfold RowN at h
      rw [h] at e'
      simp at e'
      exact he e'.2.1)

set_option maxRecDepth 100000 in
set_option maxHeartbeats 800000 in
theorem newCode_fix (g : Nat) (w : World) (h : RowN w g 3 .i64 fixLit) :
    Calls Tryd.prog 31 #[.slice (some ⟨g, 0, none⟩) 288 288] w fun e w' => ∃ g2, e = .returned (.agg #[.slice (some ⟨g, 0, none⟩) 288 288, .slice (some ⟨g2, 0, none⟩) 288 288]) ∧ w.heap.size ≤ g2 ∧ RowN w' g2 92 .u32 (codesN fixLit) ∧ Fr noB w w' := by
  have hns : ∀ w', Fr noB w w' → Ns .i64 w' (.slice (some ⟨g, 0, none⟩) 288 288) (up fixLit) := fun w' hw => by
    have := (h.keep hw id).ns (by rw [fixLit_length]; decide)
    rw [fixLit_length] at this
    exact this
  have HC := codes_good (.slice (some ⟨g, 0, none⟩) 288 288) fixLit (w.alloc (.cells #[.slice none 0 0, .slice none 0 0] 76 (0, 0))) (hns _ ((Fr.refl noB w).alloc _)) fix_code
  rw [fixLit_length] at HC
  clear hns
  go_enter Tryd.func31, Tryd.ntmps31
  go_wp2_with fail
  refine HC.mono ?_
  rintro e w1 ⟨g2, rfl, hg2, hrow, hF1⟩
  have hb : w1.heap[w.heap.size]? = some (.cells #[.slice none 0 0, .slice none 0 0] 76 (0, 0)) := hF1.obj (heap_alloc_new w _) id
  have c0 := cellOf (o := 0) hb rfl
  have c1 := cellOf (o := 1) hb rfl
  have f0 := freeOf (o := 0) hb
  have f1 := freeOf (o := 1) hb
  have HRw : Hid (RowN w1 g2 92 .u32 (codesN fixLit)) := hrow
  have hFw : Fr noB w w1 := ((Fr.refl noB w).alloc _).trans hF1
  have hne : g2 ≠ w.heap.size := by simp at hg2; omega
  have hg2' : w.heap.size ≤ g2 := by simp at hg2; omega
  clear hrow HC
  go_wp2_with fail
  refine bodyPost_ret (v := .agg #[.slice (some ⟨g, 0, none⟩) 288 288, .slice (some ⟨g2, 0, none⟩) 288 288]) ?_ rfl ⟨g2, rfl, hg2', ?_, ?_⟩
  · simp [results, Tryd.results31, go_sem, c0, c1]
  · exact (HRw.out.set_ne hne _ _).set_ne hne _ _
  · exact (hFw.setCell _ (Or.inr (Nat.le_refl _)) _).setCell _ (Or.inr (Nat.le_refl _)) _

set_option maxRecDepth 100000 in
set_option maxHeartbeats 800000 in
theorem codePut_fix (wb g g2 s : Nat) (l : List Bool) (w : World) (h : WrIs w wb l) (h1 : RowN w g 3 .i64 fixLit) (h2 : RowN w g2 92 .u32 (codesN fixLit)) (hg : g ≠ wb) (hg2 : g2 ≠ wb) (hs : s < 257) (hl : l.length ≤ 1125899906841000) :
    Calls Tryd.prog 33 #[.agg #[.slice (some ⟨g, 0, none⟩) 288 288, .slice (some ⟨g2, 0, none⟩) 288 288], .pointer (some ⟨wb, 0, none⟩), .int .i64 (s : Int)] w fun e w' => e = .returned (.tuple #[]) ∧ WrIs w' wb (l ++ bitsN (revN (codeN fixLit s) (fixL s)) (fixL s)) ∧ Fr (wS w wb) w w' := by
  have hL : fixL s = 8 ∨ fixL s = 9 ∨ fixL s = 7 := by unfold fixL; split <;> (try split) <;> (try split) <;> omega
  have hc : codeN fixLit s < 2 ^ fixL s := by
    have e := fix_codes ⟨s, hs⟩
    simp only at e
    rw [e]
    unfold fixL
    split
    · omega
    · split
      · omega
      · exact Nat.pow_pos (by decide)
  have hk : ∀ w', Fr (wS (w.alloc (.cells #[.slice (some ⟨g, 0, none⟩) 288 288, .slice (some ⟨g2, 0, none⟩) 288 288] 76 (0, 0))) wb) (w.alloc (.cells #[.slice (some ⟨g, 0, none⟩) 288 288, .slice (some ⟨g2, 0, none⟩) 288 288] 76 (0, 0))) w' → Ns .i64 w' (.slice (some ⟨g, 0, none⟩) 288 288) (up fixLit) ∧ Ns .u32 w' (.slice (some ⟨g2, 0, none⟩) 288 288) (up (codesN fixLit)) := fun w' hw => by
    have r1 := ((h1.keep ((Fr.refl noB w).alloc (.cells #[.slice (some ⟨g, 0, none⟩) 288 288, .slice (some ⟨g2, 0, none⟩) 288 288] 76 (0, 0))) id).wr (by decide) hg hw).ns (by rw [fixLit_length]; decide)
    have r2 := ((h2.keep ((Fr.refl noB w).alloc (.cells #[.slice (some ⟨g, 0, none⟩) 288 288, .slice (some ⟨g2, 0, none⟩) 288 288] 76 (0, 0))) id).wr (by decide) hg2 hw).ns (by rw [codesN_length, fixLit_length]; decide)
    rw [fixLit_length] at r1
    rw [codesN_length, fixLit_length] at r2
    exact ⟨r1, r2⟩
  have HP := hput_good wb (.slice (some ⟨g, 0, none⟩) 288 288) (.slice (some ⟨g2, 0, none⟩) 288 288) (up fixLit) (up (codesN fixLit)) l s (fixL s) (codeN fixLit s) (w.alloc (.cells #[.slice (some ⟨g, 0, none⟩) 288 288, .slice (some ⟨g2, 0, none⟩) 288 288] 76 (0, 0))) (h.stay ((Fr.refl noB w).alloc _) (fun _ _ h => h)) hk
    (by simp) (by simp; omega) (by rw [up_get fixLit s (by rw [fixLit_length]; omega), fixLit_get]) (by rw [up_get (codesN fixLit) s (by rw [codesN_length, fixLit_length]; omega), codesN_get _ _ (by rw [fixLit_length]; omega)]) (by omega) (by omega) hc (by omega)
  have HF : Hid (∀ w', Fr (wS (w.alloc (.cells #[.slice (some ⟨g, 0, none⟩) 288 288, .slice (some ⟨g2, 0, none⟩) 288 288] 76 (0, 0))) wb) (w.alloc (.cells #[.slice (some ⟨g, 0, none⟩) 288 288, .slice (some ⟨g2, 0, none⟩) 288 288] 76 (0, 0))) w' → Fr (wS w wb) w w') := fun w' hw => wtrans ((Fr.refl (wS w wb) w).alloc _) hw
  clear hk hL hc
  go_enter Tryd.func33, Tryd.ntmps33
  go_wp2_with fail
  refine HP.mono ?_
  rintro e w1 ⟨rfl, hW, hF1⟩
  go_wp2_with fail
  go_end0
  exact ⟨rfl, hW, HF.out w1 hF1⟩
#print axioms newCode_fix
#print axioms codePut_fix

/-- The bits of a symbol of the fixed code. -/
def fixB (x : Nat) : List Bool := bitsN (revN (codeN fixLit x) (fixL x)) (fixL x)
/-- The bits of bytes. -/
def fixBits (D : List Nat) : List Bool := D.flatMap fixB
/-- The bits of one block of the fixed codes, byte by byte. -/
def fixAll (D : List Nat) : List Bool := bitsN 3 3 ++ fixBits D ++ bitsN 0 7
theorem fixBits_snoc (D : List Nat) (k : Nat) (h : k < D.length) : fixBits (D.take (k + 1)) = fixBits (D.take k) ++ fixB D[k] := by
  unfold fixBits
  rw [List.take_succ_eq_append_getElem h, List.flatMap_append]
  simp
theorem fixL_le (x : Nat) : fixL x ≤ 9 := by unfold fixL; split <;> (try split) <;> (try split) <;> omega
theorem fixBits_len (D : List Nat) : (fixBits D).length ≤ 9 * D.length := by
  induction D with
  | nil => simp [fixBits]
  | cons x D ih =>
    have e : fixBits (x :: D) = fixB x ++ fixBits D := by simp [fixBits]
    have := fixL_le x
    rw [e, List.length_append, List.length_cons]
    simp only [fixB, bitsN_length]
    omega
theorem code_ne {w : World} {cb wb : Nat} {cs : Array Value} (h : w.heap[cb]? = some (.cells cs 76 (0, 0))) (hne : cb ≠ wb) : ¬ wS w wb cb := by
  intro e
  rcases e with e | ⟨_, cs', fr, e⟩
  · exact hne e
  · rw [h] at e
    simp at e
theorem head_fix : bitsN true.toNat 1 ++ bitsN 1 2 = bitsN 3 3 := by decide
theorem end_fix : fixB 256 = bitsN 0 7 := by
  have e := fix_codes ⟨256, by decide⟩
  simp only at e
  have e2 : fixL 256 = 7 := by decide
  unfold fixB
  rw [e, e2]
  decide

set_option maxRecDepth 100000 in
set_option maxHeartbeats 1600000 in
theorem wfixed_any (v : Value) (D : List Nat) (w : World) (hv : Bs w v D) (hD : ∀ x ∈ D, x < 256) (hDl : D.length ≤ 1073741824) :
    Calls Tryd.prog 18 #[v] w fun e w' => ∃ u, e = .returned u ∧ w'.ownsRow w.heap.size 5 1 u (packB (fixAll D)).length (byteVals (packB (fixAll D))) ∧ Fr noB w w' := by
  have HV : Hid (BsLow w.heap.size w v D) := BsLow.of hv
  have HD : Hid (∀ x ∈ D, x < 256) := hD
  obtain ⟨ao, cap, rfl, b1, b2, b4, _⟩ := hv
  unfold maxLen at b2
  have HBl : Hid (∀ k, (fixBits (D.take k)).length ≤ 9663676416) := fun k => by
    have h1 := fixBits_len (D.take k)
    have h2 := List.length_take_le' k D
    omega
  clear hD
  go_enter Tryd.func18, Tryd.ntmps18
  go_wp2_with fail
  refine (newWriter_any w).mono ?_
  rintro e w1 ⟨rfl, hW1, hF1, hs1⟩
  go_wp2_with fail
  refine (putHead_any w.heap.size 1 true [] w1 hW1 (by decide) (by decide)).mono ?_
  rintro e w2 ⟨rfl, hW2, hF2⟩
  rw [List.nil_append, head_fix] at hW2
  go_wp2_with fail
  refine (fixLens_any w2).mono ?_
  rintro e w3 ⟨g, rfl, hg, hr3, hF3⟩
  have hW3 := hW2.stay hF3 (fun _ _ h => h)
  go_wp2_with fail
  refine (newCode_fix g w3 hr3).mono ?_
  rintro e w4 ⟨g2, rfl, hg2, hr4, hF4⟩
  have hW4 := hW3.stay hF4 (fun _ _ h => h)
  have hr3' := hr3.keep hF4 id
  obtain ⟨wb, hwb⟩ : ∃ wb, w.heap.size = wb := ⟨_, rfl⟩
  have HWB : Hid (w.heap.size = wb) := hwb
  have hs2 : wb < w2.heap.size := by have := hF2.size; omega
  have hs3 := hF3.size
  have hs4 := hF4.size
  have hFw4 : Fr noB w w4 := ((hF1.then hF2 (fun k hk => Or.inr (by rcases hk with e | ⟨e, _⟩ <;> omega))).trans hF3).trans hF4
  obtain ⟨w5, hw5⟩ : ∃ w5, w4.alloc (.cells #[.slice (some ⟨g, 0, none⟩) 288 288, .slice (some ⟨g2, 0, none⟩) 288 288] 76 (0, 0)) = w5 := ⟨_, rfl⟩
  have hF5 : Fr noB w4 w5 := by rw [← hw5]; exact (Fr.refl noB w4).alloc _
  have hcb : w5.heap[w4.heap.size]? = some (.cells #[.slice (some ⟨g, 0, none⟩) 288 288, .slice (some ⟨g2, 0, none⟩) 288 288] 76 (0, 0)) := by rw [← hw5]; exact heap_alloc_new _ _
  have H5 : Hid (WrIs w5 wb (bitsN 3 3 ++ fixBits (D.take 0)) ∧ RowN w5 g 3 .i64 fixLit ∧ RowN w5 g2 92 .u32 (codesN fixLit) ∧ w5.heap[w4.heap.size]? = some (.cells #[.slice (some ⟨g, 0, none⟩) 288 288, .slice (some ⟨g2, 0, none⟩) 288 288] 76 (0, 0)) ∧ BsLow wb w5 (.slice ao D.length cap) D) := by
    refine ⟨?_, hr3'.keep hF5 id, hr4.keep hF5 id, hcb, ?_⟩
    · have := hW4.stay hF5 (fun _ _ h => h)
      rw [hwb] at this
      simpa [fixBits] using this
    · have := HV.out.fr (hFw4.trans hF5) (fun _ _ h => h)
      rw [hwb] at this
      exact this
  have hgn : g ≠ wb := by omega
  have hgn2 : g2 ≠ wb := by omega
  obtain ⟨cb, hcb'⟩ : ∃ cb, w4.heap.size = cb := ⟨_, rfl⟩
  have hcw : cb ≠ wb := by omega
  have hFw5 : Fr noB w w5 := hFw4.trans hF5
  rw [hwb]
  rw [hcb'] at H5
  clear hcb hW1 hW2 hW3 hW4 hr3 hr3' hr4 hwb hs1 hs2 hs3 hs4
  go_wp2_with fail
  try rw [hw5]
  try rw [hcb']
  clear hcb' hw5
  go_loopg [14] D.length (fun gh kv wr => ∃ k : Nat, k ≤ D.length ∧ gh = D.length - k ∧ kv = .int .i64 (k : Int) ∧ WrIs wr wb (bitsN 3 3 ++ fixBits (D.take k)) ∧ RowN wr g 3 .i64 fixLit ∧ RowN wr g2 92 .u32 (codesN fixLit) ∧ wr.heap[cb]? = some (.cells #[.slice (some ⟨g, 0, none⟩) 288 288, .slice (some ⟨g2, 0, none⟩) 288 288] 76 (0, 0)) ∧ BsLow wb wr (.slice ao D.length cap) D ∧ Fr noB w wr)
  case atStart => exact ⟨0, by omega, rfl, rfl, H5.out.1, H5.out.2.1, H5.out.2.2.1, H5.out.2.2.2.1, H5.out.2.2.2.2, hFw5⟩
  case round =>
    obtain ⟨k, hk, rfl, rfl, hW, r1, r2, hcb, hB, hF⟩ := hrel
    have hbl := HBl.out k
    have c0 := cellOf (o := 0) hcb rfl
    have c1 := cellOf (o := 1) hcb rfl
    by_cases hlt : k < D.length
    · have hB' := hB
      obtain ⟨⟨ao', cap', e, _, _, _, h3⟩, _⟩ := hB'
      simp at e
      obtain ⟨rfl, rfl⟩ := e
      rcases h3 with h3 | ⟨b, off, rfl, hb, hc⟩
      · rw [h3] at hlt; simp at hlt
      have hcell := hc k hlt
      have hx := HD.out _ (List.getElem_mem hlt)
      have HSn : Hid (fixBits (D.take (k + 1)) = fixBits (D.take k) ++ fixB D[k]) := fixBits_snoc D k hlt
      generalize D[k] = x at *
      have HP := codePut_fix wb g g2 x (bitsN 3 3 ++ fixBits (D.take k)) wr hW r1 r2 hgn hgn2 (by omega) (by simp; omega)
      have hk0 : (0 : Int) ≤ (k : Int) := by omega
      have hk1 : (k : Int) < (D.length : Int) := by omega
      have HB : Hid (BsLow wb wr (.slice (some ⟨b, off, none⟩) D.length cap) D) := hB
      clear hc
      go_wp2_with fail
      refine HP.mono ?_
      rintro e w6 ⟨rfl, hW6, hF6⟩
      have HW6 : Hid (WrIs w6 wb (bitsN 3 3 ++ fixBits (D.take (k + 1)))) := by
        show WrIs w6 wb (bitsN 3 3 ++ fixBits (D.take (k + 1)))
        rw [HSn.out, ← List.append_assoc]
        exact hW6
      have hcb6 := hF6.obj hcb (fun e => code_ne hcb hcw e)
      have h1' := r1.wr (by decide) hgn hF6
      have h2' := r2.wr (by decide) hgn2 hF6
      have hF7 : Fr noB w w6 := hF.then hF6 (fun j hj => Or.inr (by have := HWB.out; rcases hj with e | ⟨e, _⟩ <;> omega))
      have HB6 : Hid (BsLow wb w6 (.slice (some ⟨b, off, none⟩) D.length cap) D) := HB.out.wr hF6
      clear hW6 HP hB
      go_wp2_with fail
      go_roundg (D.length - (k + 1))
      case measure => omega
      case rel => exact ⟨k + 1, by omega, rfl, by go_num, HW6.out, h1', h2', hcb6, HB6.out, hF7⟩
    · obtain rfl : k = D.length := by omega
      have HP := codePut_fix wb g g2 256 (bitsN 3 3 ++ fixBits (D.take D.length)) wr hW r1 r2 hgn hgn2 (by decide) (by simp; rw [List.take_length] at hbl; omega)
      have HAll : Hid (bitsN 3 3 ++ fixBits (D.take D.length) ++ bitsN (revN (codeN fixLit 256) (fixL 256)) (fixL 256) = fixAll D) := by
        have e : bitsN (revN (codeN fixLit 256) (fixL 256)) (fixL 256) = bitsN 0 7 := end_fix
        show _ = fixAll D
        rw [e, List.take_length]
        rfl
      have hi1 : ¬ (D.length : Int) < (D.length : Int) := by omega
      go_wp2_with fail
      refine HP.mono ?_
      rintro e w6 ⟨rfl, hW6, hF6⟩
      rw [HAll.out] at hW6
      have hF7 : Fr noB w w6 := hF.then hF6 (fun j hj => Or.inr (by have := HWB.out; rcases hj with e | ⟨e, _⟩ <;> omega))
      have hal : (fixAll D).length ≤ 1125899906842000 := by
        have := HBl.out D.length
        rw [List.take_length] at this
        simp [fixAll]
        omega
      have HO := wout_any wb (fixAll D) w6 hW6 hal
      obtain ⟨PB, hPB⟩ : ∃ PB, packB (fixAll D) = PB := ⟨_, rfl⟩
      have HPB : Hid (packB (fixAll D) = PB) := hPB
      rw [hPB] at HO
      clear HP hB hPB
      go_wp2_with fail
      refine HO.mono ?_
      rintro e w7 ⟨u, rfl, hown, hF8⟩
      obtain ⟨so, sc, rfl, -⟩ := own_slice hown
      have HO7 : Hid (w7.ownsRow w6.heap.size 5 1 (.slice so PB.length sc) PB.length (byteVals PB)) := hown
      clear hown HO
      go_wp2_with fail
      go_ret
      refine ⟨_, rfl, ?_, hF7.trans hF8⟩
      rw [HPB.out]
      obtain ⟨o1, o2⟩ := HO7.out
      refine ⟨o1, ?_⟩
      rcases o2 with o2 | ⟨g', cap', cur', k1, k2, k3, k4⟩
      · exact Or.inl o2
      · exact Or.inr ⟨g', cap', cur', k1, by have := hF7.size; have := HWB.out; omega, k3, k4⟩

end Go.Proofs.YthgnhcdodfildaaDoor
