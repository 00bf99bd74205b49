/- A repetition of what was said. -/
import Derived.Test.YthgnhcdodfildaaDoorInf8
import Derived.Deep.LoopGhost
import Derived.Shelf.Spec.SlicesInsert
namespace Go.Proofs.YthgnhcdodfildaaDoor
open Go.RowKit Go.Shelf

/-- What was said, and n bytes more, each the one d before it. -/
def repN (sd : List Nat) (d n : Nat) : List Nat := sd ++ (List.range n).map fun j => sd.getD (sd.length - d + j % d) 0
@[simp] theorem repN_length (sd : List Nat) (d n : Nat) : (repN sd d n).length = sd.length + n := by simp [repN]
theorem repN_zero (sd : List Nat) (d : Nat) : repN sd d 0 = sd := by simp [repN]
theorem repN_at (sd : List Nat) (d n t : Nat) (hd : d ≤ sd.length) (ht : t < d + n) : (repN sd d n)[sd.length - d + t]? = some (sd.getD (sd.length - d + t % d) 0) := by
  unfold repN
  rcases Nat.lt_or_ge t d with h | h
  · rw [List.getElem?_append_left (by omega), Nat.mod_eq_of_lt h, List.getD_eq_getElem?_getD, List.getElem?_eq_getElem (by omega)]
    rfl
  · rw [List.getElem?_append_right (by omega), show sd.length - d + t - sd.length = t - d by omega, List.getElem?_map, List.getElem?_range (by omega), Option.map_some, Nat.mod_eq_sub_mod h]
theorem repN_more (sd : List Nat) (d a m : Nat) (hd : d ≤ sd.length) (ha : a % d = 0) (hm : m ≤ d + a) : repN sd d (a + m) = repN sd d a ++ ((repN sd d a).drop (sd.length - d)).take m := by
  apply List.ext_getElem?
  intro i
  rcases Nat.lt_or_ge i (sd.length + a) with hi | hi
  · rw [List.getElem?_append_left (by simpa using hi)]
    unfold repN
    rcases Nat.lt_or_ge i sd.length with h | h
    · rw [List.getElem?_append_left h, List.getElem?_append_left h]
    · rw [List.getElem?_append_right h, List.getElem?_append_right h, List.getElem?_map, List.getElem?_map, List.getElem?_range (by omega), List.getElem?_range (by omega)]
  · rw [List.getElem?_append_right (by simpa using hi), repN_length]
    rcases Nat.lt_or_ge (i - (sd.length + a)) m with h | h
    · rw [List.getElem?_take_of_lt h, List.getElem?_drop, repN_at sd d a _ hd (by omega)]
      have e := repN_at sd d (a + m) (d + a + (i - (sd.length + a))) hd (by omega)
      rw [show sd.length - d + (d + a + (i - (sd.length + a))) = i by omega] at e
      rw [e]
      have e2 : (d + a + (i - (sd.length + a))) % d = (i - (sd.length + a)) % d := by
        rw [Nat.add_assoc, Nat.add_mod_left, Nat.add_mod, ha, Nat.zero_add, Nat.mod_mod]
      rw [e2]
    · rw [List.getElem?_eq_none (by simp; omega), List.getElem?_eq_none (by simp; omega)]

set_option maxRecDepth 100000 in
set_option maxHeartbeats 3200000 in
theorem repeat_any (fb rb g p n d : Nat) (B sd : List Nat) (most : Int) (sv : Value) (lt ds : Option Addr) (w : World) (h : InfIs w fb rb g B p most sv sd lt ds) (h0 : 0 < d) (hd : d ≤ sd.length) (hn : n ≤ 65536) (hsd : sd.length ≤ 35184372088832) :
    Calls Tryd.prog 94 #[.pointer (some ⟨fb, 0, none⟩), .int .i64 (n : Int), .int .i64 (d : Int)] w fun e w' => e = .returned (.tuple #[]) ∧ ∃ sv', InfIs w' fb rb g B p most sv' (repN sd d n) lt ds ∧ Fr (iS w fb rb) w w' := by
  obtain ⟨gs, cap, cur, hsv, hgs, hrow, hqc, hcm, hcs, hct⟩ := own_row h.own (by omega)
  subst hsv
  obtain ⟨q, hq⟩ : ∃ q, sd.length = q := ⟨_, rfl⟩
  have HQ : Hid (sd.length = q) := hq
  rw [hq] at hqc hct hd hsd h
  have HG := grow_own gs q n cap cur w hrow hqc hcs hcm (by omega)
  obtain ⟨E, hE⟩ : ∃ E, E = q + n := ⟨_, rfl⟩
  obtain ⟨f, hf⟩ : ∃ f, f = q - d := ⟨_, rfl⟩
  have hEI : (q : Int) + (n : Int) = (E : Int) := by omega
  have hfI : (q : Int) - (d : Int) = (f : Int) := by omega
  have HE : Hid (E = q + n ∧ f = q - d) := ⟨hE, hf⟩
  have hEb : E ≤ 70368744177664 := by omega
  have hfb' : f ≤ 35184372088832 := by omega
  have c2 := cellOf (o := 2) h.at_ rfl
  have HI : Hid (InfIs w fb rb g B p most (.slice (some ⟨gs, 0, none⟩) q cap) sd lt ds) := h
  have HCT : Hid (cur.toList.take q = byteVals sd) := hct
  have HRW : Hid (w.heap[gs]? = some (.cells cur 5 (0, 0))) := hrow
  have hfb : fb < w.heap.size := lt_of_block h.at_
  clear h hq hct hrow hE hf
  go_enter Tryd.func94, Tryd.ntmps94
  go_wp2_with fail
  refine HG.mono ?_
  rintro e w1 ⟨g', cap', rfl, hg', cur', hrow', hcs', hcm', hfit', htk', hF1⟩
  have hg1 : fb + 1 ≤ g' := by rcases hg' with e | e <;> omega
  have hEc : E ≤ cap' := by have := HE.out; omega
  have hEc' : (E : Int) ≤ (cap' : Int) := by omega
  have hI1 : InfIs w1 fb rb g B p most (.slice (some ⟨gs, 0, none⟩) q cap) sd lt ds := HI.out.keep hF1 id id id (fun _ _ _ _ h => h)
  have c1 := cellOf (o := 2) hI1.at_ rfl
  have f1 := freeOf (o := 2) hI1.at_
  have HI1 : Hid (InfIs w1 fb rb g B p most (.slice (some ⟨gs, 0, none⟩) q cap) sd lt ds) := hI1
  have hat3 : (w1.setCell ⟨fb, 2, none⟩ (.slice (some ⟨g', 0, none⟩) E cap')).heap[fb]? = some (.cells #[.pointer (some ⟨rb, 0, none⟩), .int .i64 most, .slice (some ⟨g', 0, none⟩) E cap', .pointer lt, .pointer ds] 50 (0, 0)) := setOf 2 _ hI1.at_
  have hrow3 : (w1.setCell ⟨fb, 2, none⟩ (.slice (some ⟨g', 0, none⟩) E cap')).heap[g']? = some (.cells cur' 5 (0, 0)) := (Below.heap_setCell _ _ _ _ (by show g' ≠ fb; omega)).trans hrow'
  have hF1' : Fr (oneB fb) w w1 := hF1.weak
  have hF3 : Fr (oneB fb) w (w1.setCell ⟨fb, 2, none⟩ (.slice (some ⟨g', 0, none⟩) E cap')) := hF1'.setCell _ (Or.inl (show oneB fb fb from rfl)) _
  have H3 : Hid (Fr (oneB fb) w (w1.setCell ⟨fb, 2, none⟩ (.slice (some ⟨g', 0, none⟩) E cap'))) := hF3
  obtain ⟨w3, hw3⟩ : ∃ w3, w3 = w1.setCell ⟨fb, 2, none⟩ (.slice (some ⟨g', 0, none⟩) E cap') := ⟨_, rfl⟩
  have HA3 : Hid (w3.heap[fb]? = some (.cells #[.pointer (some ⟨rb, 0, none⟩), .int .i64 most, .slice (some ⟨g', 0, none⟩) E cap', .pointer lt, .pointer ds] 50 (0, 0))) := by rw [hw3]; exact hat3
  have HR3 : Hid (w3.heap[g']? = some (.cells cur' 5 (0, 0))) := by rw [hw3]; exact hrow3
  have HTK : Hid (cur'.toList.take q = byteVals sd) := htk'.trans HCT.out
  have HCC : Hid (cur'.size = cap' ∧ cap' ≤ maxLen) := ⟨hcs', hcm'⟩
  have hcm2 : cap' ≤ 9223372036854775807 := by unfold maxLen at hcm'; omega
  rw [← hw3] at hat3 hrow3 hF3 H3
  have HW3 : Hid _ := hw3
  clear HG hI1 hat3 hrow3 hF3 hrow' htk' hcs' hcm'
  go_wp2_with fail
  rw [← HW3.out]
  clear HW3 hw3 c1 f1 HI1 c2
  go_loopg [6] n (fun gh av wr => ∃ a t : Nat, gh = n - a ∧ a ≤ n ∧ t = q + a ∧ av = .int .i64 (t : Int) ∧ Hid (a % d = 0 ∨ a = n) ∧ Hid (Fr (oneB g') w3 wr) ∧ ∃ cu : Array Value, Hid (wr.heap[g']? = some (.cells cu 5 (0, 0))) ∧ Hid (cu.size = cap') ∧ Hid (cu.toList.take t = byteVals (repN sd d a)))
  case atStart => exact ⟨0, q, by omega, by omega, rfl, rfl, Or.inl (Nat.zero_mod d), Fr.refl _ _, cur', HR3.out, HCC.out.1, by rw [repN_zero]; exact HTK.out⟩
  case round =>
    obtain ⟨a, t, rfl, han, ht, rfl, HM, HF, cu, HR, HS, HT⟩ := hrel
    have hA := HF.out.obj HA3.out (fun e => by have e' : fb = g' := e; omega)
    have c2 := cellOf (o := 2) hA rfl
    obtain ⟨hE, hf⟩ := HE.out
    by_cases hlt : a < n
    · have i1 : (t : Int) < (E : Int) := by omega
      obtain ⟨m, hm⟩ : ∃ m, m = min (d + a) (n - a) := ⟨_, rfl⟩
      obtain ⟨cs, hcs⟩ : ∃ cs, cs = (cu.toList.drop f).take m := ⟨_, rfl⟩
      have hcl : cs.length = m := by
        have := HS.out
        rw [hcs, List.length_take, List.length_drop, Array.length_toList]
        omega
      have hcb : cs = byteVals (((repN sd d a).drop f).take m) := by
        have e := congrArg (fun l => (l.drop f).take m) HT.out
        simp only [List.drop_take, List.take_take] at e
        rw [Nat.min_eq_left (by omega)] at e
        rw [hcs, e]
        simp [byteVals, List.map_drop, List.map_take]
      have hrun : ∀ ty o1 o2 dl dc sl sc, o1 = t → o2 = f → dl = n - a → sl = d + a → (Builtin.copy_ #[22, 22] ty #[.slice (some ⟨g', o1, none⟩) dl dc, .slice (some ⟨g', o2, none⟩) sl sc]).run Tryd.prog wr.drew = .ok (goInt cs.length) (wr.drew.setRow g' (cu.toList.take t ++ cs ++ cu.toList.drop (t + cs.length)).toArray) := by
        rintro ty o1 o2 dl dc sl sc rfl rfl rfl rfl
        refine run_copy_row Tryd.prog wr.drew 22 22 ty 5 g' _ (n - a) dc ⟨g', _, none⟩ (d + a) sc cu 5 cs Tryd.underlying22 Tryd.size5 HR.out (by rw [hcl, hm]) (fun j v hj => ?_) (by have := HS.out; omega) (by rw [hcb]; exact byteVals_one _)
        rw [add_none]
        refine cellOf (w := wr.drew) HR.out ?_
        have hj' : j < m := by
          rcases Nat.lt_or_ge j m with h' | h'
          · exact h'
          · rw [List.getElem?_eq_none (by omega)] at hj; cases hj
        rw [hcs, List.getElem?_take_of_lt hj', List.getElem?_drop] at hj
        simpa using hj
      have c2' : wr.drew.cell? ⟨fb, 2, none⟩ = some (.slice (some ⟨g', 0, none⟩) E cap') := c2
      rw [hcl] at hrun
      obtain ⟨X, hX⟩ : ∃ X : Array Value, X = (cu.toList.take t ++ cs ++ cu.toList.drop (t + m)).toArray := ⟨_, rfl⟩
      rw [← hX] at hrun
      have HM2 : Hid ((a + m) % d = 0 ∨ a + m = n) := by
        rcases HM.out with e | e
        · rcases Nat.lt_or_ge (n - a) (d + a) with h' | h'
          · exact Or.inr (by omega)
          · left
            have : a + m = d + (a + a) := by omega
            rw [this, Nat.add_mod_left, Nat.add_mod, e]
            simp
        · omega
      have HR2 : Hid ((wr.drew.setRow g' X).heap[g']? = some (.cells X 5 (0, 0))) := setRow_heap _ _ _ _ _ _ HR.out
      have HF2 : Hid (Fr (oneB g') w3 (wr.drew.setRow g' X)) := HF.out.drew.setRow g' (Or.inl (show oneB g' g' from rfl)) X
      have HS2 : Hid (X.size = cap') := by
        have := HS.out
        show X.size = cap'
        rw [hX]
        simp
        omega
      have HT2 : Hid (X.toList.take (t + m) = byteVals (repN sd d (a + m))) := by
        show X.toList.take (t + m) = byteVals (repN sd d (a + m))
        have hsz := HS.out
        have ha0 : a % d = 0 := by rcases HM.out with e | e <;> omega
        have hlq := HQ.out
        rw [hX, List.take_append_of_le_length (by simp; omega), List.take_of_length_le (by simp; omega), HT.out, hcb, repN_more sd d a m (by omega) ha0 (by omega), hlq, ← hf]
        simp [byteVals]
      generalize wr.drew.setRow g' X = W at *
      have j1 : ¬ cap' = t := by omega
      have j2 : ¬ cap' = f := by omega
      have j3 : f ≤ t := by omega
      have j4 : t ≤ E := by omega
      have j5 : t ≤ cap' := by omega
      have j6 : (f : Int) ≤ (t : Int) := by omega
      have j7 : (t : Int) ≤ (cap' : Int) := by omega
      have j8 : (t : Int) ≤ (E : Int) := by omega
      have k1 : E - t = n - a := by omega
      have k3 : m ≤ 65536 := by omega
      have HWr : Hid (IntKind.i64.wrap ((t : Int) + (m : Int)) = ((t + m : Nat) : Int)) := by
        show IntKind.i64.wrap ((t : Int) + (m : Int)) = ((t + m : Nat) : Int)
        rw [IntKind.wrap_i64]
        omega
      have k2 : t - f = d + a := by omega
      have HCB : Hid (cs = byteVals (((repN sd d a).drop f).take m)) := hcb
      have HCL : Hid (cs.length = m) := hcl
      have HMm : Hid (t = q + a ∧ m = min (d + a) (n - a) ∧ a < n) := ⟨ht, hm, hlt⟩
      clear hcb hcl hcs hE hf ht hm
      go_wp2_with fail
      go_region_law (refine step_copy_runI rfl _ _ _ _ rfl _ _ rfl rfl (hrun _ _ _ _ _ _ _ (by omega) (by omega) (by omega) (by omega)) ?_)
      all_goals
        go_wp2_with fail
        go_roundg (n - (a + m))
        case measure => have := HMm.out; omega
        case rel => exact ⟨a + m, t + m, rfl, by have := HMm.out; omega, by have := HMm.out; omega, by first | rw [HWr.out] | go_num, HM2.out, HF2.out, X, HR2.out, HS2.out, HT2.out⟩
    · have i1 : ¬ (t : Int) < (E : Int) := by omega
      obtain rfl : a = n := by omega
      have HT2 : Hid (t = E) := by show t = E; omega
      clear hE hf ht
      go_wp2_with fail
      go_end0
      have hI := HI.out
      have hlq := HQ.out
      have hte := HT2.out
      have hF : Fr (iS w fb rb) w w3 := H3.out.mono fun k _ hk => Or.inr (Or.inl hk)
      refine ⟨rfl, ⟨_, ⟨hA, ⟨?_, Or.inr ⟨g', cap', cu, by rw [repN_length, hlq, ← (HE.out).1], hg1, HR.out, ?_, HCC.out.2, ?_, ?_⟩⟩, ?_, ?_, hI.rlt, hI.glt, hI.ne⟩⟩, ?_⟩
      · simp
      · rw [repN_length, hlq, ← (HE.out).1]; exact hEc
      · rw [Nat.mul_one]; exact HS.out
      · rw [repN_length, hlq, ← (HE.out).1, Nat.mul_one, ← hte]; exact HT.out
      · exact HF.out.obj (H3.out.obj hI.rd (fun e => by have e' : rb = fb := e; have := hI.rlt; omega)) (fun e => by have e' : rb = g' := e; have := hI.rlt; omega)
      · exact HF.out.obj (H3.out.obj hI.row (fun e => by have e' : g = fb := e; have := hI.glt; omega)) (fun e => by have e' : g = g' := e; have := hI.glt; omega)
      · refine hF.then HF.out (fun k hk => ?_)
        have e' : k = g' := hk
        rcases hg' with e | e
        · left
          rw [e', e]
          exact Or.inr (Or.inr ⟨hgs, cur, (0, 0), HRW.out⟩)
        · right
          omega
#print axioms repeat_any
end Go.Proofs.YthgnhcdodfildaaDoor
/- A match. -/
namespace Go.Proofs.YthgnhcdodfildaaDoor
open Go.RowKit

/-- A match behind its symbol s, as the inflater reads it: the error, the place behind, what was said. -/
def matA (M B : List Nat) (p : Nat) (sd : List Nat) (most : Int) (s : Nat) : Nat × Nat × List Nat :=
  if 285 < s then (31, p, sd)
  else if (bitA B p (lenB (s - 257))).2.1 ≠ 0 then ((bitA B p (lenB (s - 257))).2.1, p, sd)
  else if (symA M B (bitA B p (lenB (s - 257))).2.2).2.1 ≠ 0 then ((symA M B (bitA B p (lenB (s - 257))).2.2).2.1, p, sd)
  else if 29 < (symA M B (bitA B p (lenB (s - 257))).2.2).1 then (31, p, sd)
  else if (bitA B (symA M B (bitA B p (lenB (s - 257))).2.2).2.2 (disB (symA M B (bitA B p (lenB (s - 257))).2.2).1)).2.1 ≠ 0 then ((bitA B (symA M B (bitA B p (lenB (s - 257))).2.2).2.2 (disB (symA M B (bitA B p (lenB (s - 257))).2.2).1)).2.1, p, sd)
  else if sd.length < disF (symA M B (bitA B p (lenB (s - 257))).2.2).1 + (bitA B (symA M B (bitA B p (lenB (s - 257))).2.2).2.2 (disB (symA M B (bitA B p (lenB (s - 257))).2.2).1)).1 then (32, p, sd)
  else if most - (sd.length : Int) < ((lenF (s - 257) + (bitA B p (lenB (s - 257))).1 : Nat) : Int) then (3, p, sd)
  else (0, (bitA B (symA M B (bitA B p (lenB (s - 257))).2.2).2.2 (disB (symA M B (bitA B p (lenB (s - 257))).2.2).1)).2.2, repN sd (disF (symA M B (bitA B p (lenB (s - 257))).2.2).1 + (bitA B (symA M B (bitA B p (lenB (s - 257))).2.2).2.2 (disB (symA M B (bitA B p (lenB (s - 257))).2.2).1)).1) (lenF (s - 257) + (bitA B p (lenB (s - 257))).1))

theorem lenB_le (k : Nat) (hk : k ≤ 28) : lenB k ≤ 5 ∧ lenF k ≤ 258 := by
  have : ∀ k, k ≤ 28 → lenB k ≤ 5 ∧ lenF k ≤ 258 := by decide
  exact this k hk
theorem bitA_err (B : List Nat) (p n : Nat) : (bitA B p n).2.1 = 0 ∨ (bitA B p n).2.1 = 33 := by unfold bitA; split <;> simp
theorem symA_err (M B : List Nat) (p : Nat) : (symA M B p).2.1 = 0 ∨ (symA M B p).2.1 = 31 ∨ (symA M B p).2.1 = 33 := by
  unfold symA
  split
  · simp
  · split
    · simp
    · split <;> simp
theorem symA_le (M B : List Nat) (p : Nat) (h : (symA M B p).2.1 = 0) : (symA M B p).2.2 ≤ 8 * B.length := by
  unfold symA at *
  split at h
  · simp at h
  · split at h
    · rename_i h1 h2
      rw [if_neg h1, if_pos h2]
      exact (rdT_ok M B p 16 0 h2).2
    · split at h <;> simp at h

set_option maxRecDepth 100000 in
set_option maxHeartbeats 3200000 in
theorem match_any (fb rb g p s db sb : Nat) (M B sd : List Nat) (most : Int) (sv : Value) (lt ds : Option Addr) (w : World) (h : InfIs w fb rb g B p most sv sd lt ds) (hd : DecIs w db sb M) (h1 : db ≠ rb) (h2 : sb ≠ rb) (hM : Code M) (hB : ∀ x ∈ B, x < 256) (hp : p ≤ 8 * B.length) (hl : B.length ≤ 140737488355328) (hs : 257 ≤ s) (hs2 : s ≤ 65536) (hm : 0 ≤ most) (hm2 : most ≤ 9223372036854775807) (hsd : sd.length ≤ 35184372088832) :
    Calls Tryd.prog 78 #[.pointer (some ⟨fb, 0, none⟩), .int .i64 (s : Int), .pointer (some ⟨db, 0, none⟩)] w fun e w' => e = .returned (.int .i64 (((matA M B p sd most s).1 : Nat) : Int)) ∧ ((matA M B p sd most s).1 ≠ 0 → Fr (oneB rb) w w') ∧ ((matA M B p sd most s).1 = 0 → ∃ sv', InfIs w' fb rb g B (matA M B p sd most s).2.1 most sv' (matA M B p sd most s).2.2 lt ds) ∧ Fr (iS w fb rb) w w' := by
  by_cases hbig : 285 < s
  · have e : matA M B p sd most s = (31, p, sd) := by unfold matA; rw [if_pos hbig]
    rw [e]
    have i1 : (285 : Int) < (s : Int) := by omega
    clear h hd e
    go_enter Tryd.func78, Tryd.ntmps78
    go_wp2_with fail
    go_ret
    exact ⟨rfl, fun _ => Fr.refl _ _, by simp, Fr.refl _ _⟩
  · obtain ⟨k, hk⟩ : ∃ k, k = s - 257 := ⟨_, rfl⟩
    have hk28 : k ≤ 28 := by omega
    have hlf := lenF_le k hk28
    have hlb : lenB k ≤ 5 ∧ lenF k ≤ 258 := lenB_le k hk28
    obtain ⟨b1, hb1⟩ : ∃ b1, b1 = bitA B p (lenB k) := ⟨_, rfl⟩
    have hE1 := bitA_err B p (lenB k)
    have hP1 := bitA_le B p (lenB k) hp
    have hX1 := bitA_lt B p (lenB k)
    rw [← hb1] at hE1 hP1 hX1
    obtain ⟨x1, e1, p1⟩ := b1
    have HN1 := fun w' (hF : Fr noB w w') => number_any fb rb g p (lenB k) (lenF k) B sd most sv lt ds w' (h.keep hF id id id (fun _ _ _ _ h => h)) hB hp hl (by omega) (by omega)
    rw [← hb1] at HN1
    have hkI : (s : Int) - 257 = (k : Int) := by omega
    have i1 : ¬ (285 : Int) < (s : Int) := by omega
    have hlen : lenF k + x1 ≤ 258 := by
      have : x1 < 2 ^ lenB k := hX1
      omega
    have HK : Hid (k = s - 257) := hk
    have HB1 : Hid ((x1, e1, p1) = bitA B p (lenB k)) := hb1
    have HD : Hid (DecIs w db sb M) := hd
    have HH2 : Hid _ := HN1
    have HP1 : Hid (p1 ≤ 8 * B.length) := hP1
    have HHB : Hid (∀ x ∈ B, x < 256) := hB
    clear HN1 hk hb1 h hd hX1 hP1 hlf hB
    go_enter Tryd.func78, Tryd.ntmps78
    go_wp2_with fail
    refine (lengthSpan_any k w hk28).mono ?_
    rintro e w1 ⟨rfl, hF1⟩
    go_wp2_with fail
    refine (HH2.out _ hF1).mono ?_
    rintro e w2 ⟨rfl, hI2, hF2⟩
    have HI2 : Hid (InfIs w2 fb rb g B p1 most sv sd lt ds) := hI2
    have HF2 : Hid (Fr (oneB rb) w w2) := hF1.weak.trans hF2
    clear HH2 hI2 hF2 hF1
    rcases hE1 with hE1 | hE1
    case inr =>
      have hE1' : e1 = 33 := hE1
      subst hE1'
      have em : matA M B p sd most s = (33, p, sd) := by
        unfold matA
        rw [if_neg hbig, ← HK.out, ← HB1.out, if_pos (by simp)]
      have EM : Hid _ := em
      clear em
      go_wp2_with fail
      go_ret
      rw [EM.out]
      exact ⟨rfl, fun _ => HF2.out, by simp, HF2.out.toI⟩
    have hE1' : e1 = 0 := hE1
    subst hE1'
    rw [if_pos rfl]
    obtain ⟨L, hL⟩ : ∃ L, L = lenF k + x1 := ⟨_, rfl⟩
    rw [← hL] at hlen ⊢
    have HL : Hid (L = lenF k + x1) := hL
    clear hL
    obtain ⟨b2, hb2⟩ : ∃ b2, b2 = symA M B p1 := ⟨_, rfl⟩
    have hE2 := symA_err M B p1
    have hP2 := symA_le M B p1
    have HS := symbol_any fb rb g p1 db sb M B sd most sv lt ds w2 HI2.out (HD.out.keep HF2.out (fun e => h1 e) (fun e => h2 e)) h1 h2 hM HHB.out HP1.out hl
    rw [← hb2] at hE2 hP2 HS
    obtain ⟨x2, e2, p2⟩ := b2
    have HB2 : Hid ((x2, e2, p2) = symA M B p1) := hb2
    have HP2 : Hid (e2 = 0 → p2 ≤ 8 * B.length) := hP2
    clear hb2 hP2
    go_wp2_with fail
    refine HS.mono ?_
    rintro e w3 ⟨rfl, hI3, hF3⟩
    have HI3 : Hid (e2 = 0 → InfIs w3 fb rb g B p2 most sv sd lt ds) := hI3
    have HF3 : Hid (Fr (oneB rb) w w3) := HF2.out.trans hF3
    clear HS hI3 hF3
    by_cases hz2 : e2 = 0
    case neg =>
      have em : matA M B p sd most s = (e2, p, sd) := by
        unfold matA
        rw [if_neg hbig, ← HK.out, ← HB1.out, if_neg (by simp), ← HB2.out, if_pos (by simpa using hz2)]
      have EM : Hid _ := em
      have HZ : Hid (e2 ≠ 0) := hz2
      have hz2' : ¬ (e2 : Int) = 0 := by omega
      clear em
      go_wp2_with fail
      go_ret
      rw [EM.out]
      exact ⟨rfl, fun _ => HF3.out, fun e => absurd e HZ.out, HF3.out.toI⟩
    subst hz2
    have hp2 := HP2.out rfl
    by_cases hfar : 29 < x2
    · have em : matA M B p sd most s = (31, p, sd) := by
        unfold matA
        rw [if_neg hbig, ← HK.out, ← HB1.out, if_neg (by simp), ← HB2.out, if_neg (by simp), if_pos hfar]
      have EM : Hid _ := em
      have i2 : (29 : Int) < (x2 : Int) := by omega
      clear em
      go_wp2_with fail
      go_ret
      rw [EM.out]
      exact ⟨rfl, fun _ => HF3.out, by simp, HF3.out.toI⟩
    have i2 : ¬ (29 : Int) < (x2 : Int) := by omega
    have hx29 : x2 ≤ 29 := by omega
    have hdf := disF_le x2 hx29
    obtain ⟨b3, hb3⟩ : ∃ b3, b3 = bitA B p2 (disB x2) := ⟨_, rfl⟩
    have hE3 := bitA_err B p2 (disB x2)
    have hX3 := bitA_lt B p2 (disB x2)
    have HI3' : Hid (InfIs w3 fb rb g B p2 most sv sd lt ds) := HI3.out rfl
    have HN3 := fun w' (hF : Fr noB w3 w') => number_any fb rb g p2 (disB x2) (disF x2) B sd most sv lt ds w' (HI3'.out.keep hF id id id (fun _ _ _ _ h => h)) HHB.out hp2 hl (by omega) (by omega)
    rw [← hb3] at hE3 hX3 HN3
    obtain ⟨x3, e3, p3⟩ := b3
    have hdis : disF x2 + x3 ≤ 32768 ∧ 1 ≤ disF x2 + x3 := by
      have : x3 < 2 ^ disB x2 := hX3
      omega
    have HB3 : Hid ((x3, e3, p3) = bitA B p2 (disB x2)) := hb3
    have HH3 : Hid _ := HN3
    clear hb3 HN3 hX3 hdf HI3
    go_wp2_with fail
    refine (distanceSpan_any x2 w3 hx29).mono ?_
    rintro e w4 ⟨rfl, hF4⟩
    go_wp2_with fail
    refine (HH3.out _ hF4).mono ?_
    rintro e w5 ⟨rfl, hI5, hF5⟩
    have HI5 : Hid (InfIs w5 fb rb g B p3 most sv sd lt ds) := hI5
    have HF5 : Hid (Fr (oneB rb) w w5) := (HF3.out.trans hF4.weak).trans hF5
    clear HH3 hI5 hF5 hF4
    rcases hE3 with hE3 | hE3
    case inr =>
      have hE3' : e3 = 33 := hE3
      subst hE3'
      have em : matA M B p sd most s = (33, p, sd) := by
        unfold matA
        rw [if_neg hbig, ← HK.out, ← HB1.out, if_neg (by simp), ← HB2.out, if_neg (by simp), if_neg hfar, ← HB3.out, if_pos (by simp)]
      have EM : Hid _ := em
      clear em
      go_wp2_with fail
      go_ret
      rw [EM.out]
      exact ⟨rfl, fun _ => HF5.out, by simp, HF5.out.toI⟩
    have hE3' : e3 = 0 := hE3
    subst hE3'
    rw [if_pos rfl]
    obtain ⟨D, hD⟩ : ∃ D, D = disF x2 + x3 := ⟨_, rfl⟩
    rw [← hD] at hdis ⊢
    have HDD : Hid (D = disF x2 + x3) := hD
    clear hD
    obtain ⟨q, hq⟩ : ∃ q, sd.length = q := ⟨_, rfl⟩
    have HQ : Hid (sd.length = q) := hq
    have hI5 := HI5.out
    obtain ⟨so, sc, hsv, -⟩ := own_slice hI5.own
    rw [hq] at hsv hsd
    have c2 := cellOf (o := 2) hI5.at_ rfl
    rw [hsv] at c2
    have HRm := room_any' fb rb g p3 B sd most sv lt ds w5 hI5 (by omega) hm hm2
    rw [hq] at HRm
    clear hq hsv hI5
    by_cases hfr : q < D
    · have em : matA M B p sd most s = (32, p, sd) := by
        unfold matA
        rw [if_neg hbig, ← HK.out, ← HB1.out, if_neg (by simp), ← HB2.out, if_neg (by simp), if_neg hfar, ← HB3.out, if_neg (by simp), if_pos (by rw [HQ.out]; exact HDD.out ▸ hfr)]
      have EM : Hid _ := em
      have i3 : (q : Int) < (D : Int) := by omega
      clear em HRm
      go_wp2_with fail
      go_ret
      rw [EM.out]
      exact ⟨rfl, fun _ => HF5.out, by simp, HF5.out.toI⟩
    have i3 : ¬ (q : Int) < (D : Int) := by omega
    go_wp2_with fail
    refine HRm.mono ?_
    rintro e w6 ⟨rfl, hI6, hF6⟩
    have HI6 : Hid (InfIs w6 fb rb g B p3 most sv sd lt ds) := hI6
    have HF6 : Hid (Fr (oneB rb) w w6) := HF5.out.trans hF6.weak
    clear HRm hI6 hF6 c2
    by_cases hlg : most - (q : Int) < (L : Int)
    · have em : matA M B p sd most s = (3, p, sd) := by
        unfold matA
        rw [if_neg hbig, ← HK.out, ← HB1.out, if_neg (by simp), ← HB2.out, if_neg (by simp), if_neg hfar, ← HB3.out, if_neg (by simp), if_neg (by rw [HQ.out]; exact HDD.out ▸ hfr), if_pos (by rw [HQ.out]; exact HL.out ▸ hlg)]
      have EM : Hid _ := em
      clear em
      go_wp2_with fail
      go_ret
      rw [EM.out]
      exact ⟨rfl, fun _ => HF6.out, by simp, HF6.out.toI⟩
    have em : matA M B p sd most s = (0, p3, repN sd D L) := by
      unfold matA
      rw [if_neg hbig, ← HK.out, ← HB1.out, if_neg (by simp), ← HB2.out, if_neg (by simp), if_neg hfar, ← HB3.out, if_neg (by simp), if_neg (by rw [HQ.out]; exact HDD.out ▸ hfr), if_neg (by rw [HQ.out]; exact HL.out ▸ hlg), HDD.out, HL.out]
    have EM : Hid _ := em
    have HRp := repeat_any fb rb g p3 L D B sd most sv lt ds w6 HI6.out (by omega) (by have := HQ.out; omega) (by omega) (by have := HQ.out; omega)
    have i4 : (L : Int) ≤ most - (q : Int) := by omega
    clear em
    go_wp2_with fail
    refine HRp.mono ?_
    rintro e w7 ⟨rfl, sv7, hI7, hF7⟩
    have HI7 : Hid (InfIs w7 fb rb g B p3 most sv7 (repN sd D L) lt ds) := hI7
    have HF7 : Hid (Fr (iS w fb rb) w w7) := itrans HF6.out.toI hF7
    clear hI7 hF7 HRp
    go_wp2_with fail
    go_ret
    rw [EM.out]
    exact ⟨rfl, by simp, fun _ => ⟨_, HI7.out⟩, HF7.out⟩
#print axioms match_any
end Go.Proofs.YthgnhcdodfildaaDoor
