/- Inflate of bytes that begin with a final stored block. -/
import Derived.Test.YtcefochgpijfbaaDoorInf3
import Derived.ControlIn
namespace Go.Proofs.YtcefochgpijfbaaDoor
open Go.RowKit Go.Shelf
attribute [local go_sem] Oper.semAt_some
attribute [local go_sem ↓] Go.wp_at_zero Go.wp_at_succ

/-- A function with a range over a function in it: its contract out of the plain walk of its body. -/
theorem calls_marks {P : Program} {f : FuncId} {fn : Func} {c : Code} {args : Array Value} {w : World} {R : Ending → World → Prop} (hf : P.funcs[f]? = some fn) (hb : fn.body = some c)
    (h : c.wp P (bodyPostM Fence.wide 0 P fn R) { tmps := args ++ Array.replicate (fn.ntmps - args.size) undef, defers := [] } w) : Calls P f args w R :=
  (callsIn_wide (n := 0)).1 (callsIn_of_wp_marks hf hb trivial (wpIn_wide.2 h) rfl)

set_option maxHeartbeats 400000 in
theorem newInf_any (v : Value) (B : List Nat) (most : Int) (w : World) (hv : Bs w v B) (hl : B.length ≤ 140737488355328) :
    Calls Tryd.prog 18 #[v, .int .i64 most] w fun e w' => ∃ fb rb g, e = .returned (.pointer (some ⟨fb, 0, none⟩)) ∧ w.heap.size ≤ rb ∧ w.heap.size ≤ g ∧ InfIs w' fb rb g B 0 most (.slice none 0 0) [] none none ∧ Fr noB w w' := by
  have HN := newReader_any v B w hv hl
  obtain ⟨ao, cap, rfl, h1, h2, h4, h3⟩ := hv
  clear h3
  go_enter Tryd.func18, Tryd.ntmps18
  go_wp2_with fail
  refine HN.mono ?_
  rintro e w1 ⟨rb, g, rfl, hrb, hg, hne, hr, hrow, hF⟩
  have hrl := lt_of_block hr
  have hgl := lt_of_block hrow
  go_wp2_with fail
  go_ret
  refine ⟨w1.heap.size, rb, g, rfl, hrb, hg, ⟨heap_alloc_new _ _, World.ownsRow_nil _ _ _ _, ((Fr.refl noB w1).alloc _).obj hr id, ((Fr.refl noB w1).alloc _).obj hrow id, hrl, hgl, hne⟩, hF.alloc _⟩

set_option maxHeartbeats 400000 in
theorem blocks_make (fb : Nat) (w : World) :
    Calls Tryd.prog 19 #[.pointer (some ⟨fb, 0, none⟩)] w fun e w' => e = .returned (.func (.func 37) #[] #[.pointer (some ⟨w.heap.size, 0, none⟩)]) ∧ w' = w.alloc (.cells #[.pointer (some ⟨fb, 0, none⟩)] 42 (0, 0)) := by
  go_enter Tryd.func19, Tryd.ntmps19
  go_wp2_with fail
  go_ret
  exact ⟨rfl, rfl⟩

set_option maxRecDepth 100000 in
set_option maxHeartbeats 3200000 in
theorem inflate_last (v : Value) (B T : List Nat) (f a b c d : Nat) (most : Int) (w : World) (hv : Bs w v B) (hL : Last B 0 f a b c d T) (hm : (T.length : Int) ≤ most) (hm2 : most ≤ 9223372036854775807) :
    Calls Tryd.prog 6 #[v, .int .i64 most] w fun e w' => ∃ u, e = .returned (.tuple #[u, .int .i64 ((f + 4 + (a + 256 * b) : Nat) : Int), .int .i64 0]) ∧ w'.ownsRow w.heap.size 5 1 u T.length (byteVals T) ∧ Fr noB w w' := by
  have HV : Hid (Bs w v B) := hv
  have HLL : Hid (Last B 0 f a b c d T) := hL
  obtain ⟨ao, cap, rfl, h1, h2, h4, h3⟩ := hv
  have hmI : ¬ most < 0 := by omega
  clear h3 hL
  refine calls_marks Tryd.func6 rfl ?_
  simp only [Tryd.ntmps6, List.size_toArray, List.length_cons, List.length_nil, Nat.reduceAdd, Nat.reduceSub, Array.replicate_succ, Array.replicate_zero, List.push_toArray, List.append_toArray, List.nil_append, List.cons_append]
  go_wp2_with fail
  have hF0 : Fr noB w (((w.alloc (.cells #[.slice none 0 0] 22 (0, 0))).alloc (.cells #[.int .i64 0] 3 (0, 0))).alloc (.cells #[.int .i64 0] 23 (0, 0))) := (((Fr.refl noB w).alloc _).alloc _).alloc _
  refine (newInf_any (.slice ao B.length cap) B most _ (HV.out.fr hF0 (fun _ _ _ _ _ _ _ h => h)) (by have := HLL.out.short; omega)).mono ?_
  rintro e w1 ⟨fb, rb, g, rfl, hrb, hg, hI, hF1⟩
  go_wp2_with fail
  refine (blocks_make fb w1).mono ?_
  rintro e w2 ⟨rfl, rfl⟩
  go_wp2_with fail
  obtain ⟨N, hN⟩ : ∃ N, w.heap.size = N := ⟨_, rfl⟩
  have hsz1 : N + 3 ≤ w1.heap.size := by have := hF1.size; simp at this; omega
  have hrb' : N + 3 ≤ rb := by simp at hrb; omega
  have hg' : N + 3 ≤ g := by simp at hg; omega
  have hrf := hI.rlt
  have hgf := hI.glt
  have hfl := lt_of_block hI.at_
  have HI : Hid (InfIs w1 fb rb g B 0 most (.slice none 0 0) [] none none) := hI
  have o0 : w1.heap[N]? = some (.cells #[.slice none 0 0] 22 (0, 0)) := by
    have := hF1.block w.heap.size (by simp; omega) id
    rw [← hN, this]
    exact (Below.heap_alloc _ _ _ (by simp; omega)).trans ((Below.heap_alloc _ _ _ (by simp)).trans (heap_alloc_new w _))
  have o1 : w1.heap[N + 1]? = some (.cells #[.int .i64 0] 3 (0, 0)) := by
    have := hF1.block (w.heap.size + 1) (by simp) id
    rw [← hN, this]
    have e := heap_alloc_new (w.alloc (.cells #[.slice none 0 0] 22 (0, 0))) (.cells #[.int .i64 0] 3 (0, 0))
    rw [World.size_alloc] at e
    exact (Below.heap_alloc _ _ _ (by simp)).trans e
  have o2 : w1.heap[N + 2]? = some (.cells #[.int .i64 0] 23 (0, 0)) := by
    have := hF1.block (w.heap.size + 2) (by simp) id
    rw [← hN, this]
    have e := heap_alloc_new ((w.alloc (.cells #[.slice none 0 0] 22 (0, 0))).alloc (.cells #[.int .i64 0] 3 (0, 0))) (.cells #[.int .i64 0] 23 (0, 0))
    rw [World.size_alloc, World.size_alloc] at e
    exact e
  have hFw1 : Fr noB w w1 := hF0.trans hF1
  rw [hN]
  obtain ⟨W2, hW2⟩ : ∃ W2, w1.alloc (.cells #[.pointer (some ⟨fb, 0, none⟩)] 42 (0, 0)) = W2 := ⟨_, rfl⟩
  have hs2 : W2.heap.size = w1.heap.size + 1 := by rw [← hW2]; simp
  have hF2 : Fr noB w1 W2 := by rw [← hW2]; exact (Fr.refl noB w1).alloc _
  have hcb : W2.heap[w1.heap.size]? = some (.cells #[.pointer (some ⟨fb, 0, none⟩)] 42 (0, 0)) := by rw [← hW2]; exact heap_alloc_new _ _
  rw [hW2]
  refine (wpIn_wide (n := 0)).1 (wp_range (α := Unit) (gf := 37) (lb := #[.pointer (some ⟨w1.heap.size, 0, none⟩)]) rfl (enters_of Tryd.func37 (by kernel_rfl) rfl)
    (C := fun k => N ≤ k ∧ k ≤ N + 2) (fun k hk => by omega) (encs := blkEnc T.length) (fun _ => rfl) (Y := fun _ _ _ => True) (fun _ _ _ _ _ _ _ => trivial)
    (R := fun xs W => xs = [()] ∧ (∃ sv', InfIs W fb rb g B (8 * (f + 4 + (a + 256 * b))) most sv' ([] ++ T) none none) ∧ Fr (fun k => fb ≤ k ∨ k = rb ∨ (N ≤ k ∧ k ≤ N + 2)) w1 W) (Rx := fun _ _ => True) ?hR (fun _ _ _ _ _ _ => trivial) ?hseq
    (fun _ W => W.heap[N]? = some (.cells #[.slice none 0 0] 22 (0, 0)) ∧ W.heap[N + 1]? = some (.cells #[.int .i64 0] 3 (0, 0)) ∧ W.heap[N + 2]? = some (.cells #[.int .i64 0] 23 (0, 0)))
    (fun _ _ _ => False) ?hI (fun _ _ _ _ h _ => h) ?h0
    (fun _ => { tmps := #[.slice ao B.length cap, .int .i64 most, undef, undef, .pointer (some ⟨N, 0, none⟩), .pointer (some ⟨N + 1, 0, none⟩), .pointer (some ⟨N + 1 + 1, 0, none⟩), .pointer (some ⟨fb, 0, none⟩), undef, .int .i64 0, .int .i64 most, .bool false, .slice ao B.length cap, .int .i64 most, .pointer (some ⟨fb, 0, none⟩), .pointer (some ⟨fb, 0, none⟩), .func (.func 37) #[] #[.pointer (some ⟨w1.heap.size, 0, none⟩)], .agg #[.int .i64 0, .bool true, .int .i64 (T.length : Int)], .int .i64 0, undef, undef, undef, undef, undef, undef, undef, undef, undef, undef, undef, undef], defers := [] })
    ?assign ?body ?done ?stop)
  case hI =>
    rintro p A A' ⟨q1, q2, q3⟩ hs
    exact ⟨(hs _ (by omega)).trans q1, (hs _ (by omega)).trans q2, (hs _ (by omega)).trans q3⟩
  case h0 => exact ⟨hF2.obj o0 id, hF2.obj o1 id, hF2.obj o2 id⟩
  case stop =>
    intro c pre W _ h _
    exact h.elim
  case assign =>
    intro l x W K hK
    dsimp only [blkEnc]
    gi_wp2
    exact hK
  case body =>
    rintro l pre x W ⟨q1, q2, q3⟩ _
    gi_wp2
    exact ⟨Fr.refl _ _, q1, q2, q3⟩
  case hR =>
    rintro p W r r' ⟨rfl, ⟨sv', hI'⟩, hFW⟩ hl
    have hlt := (Array.getElem?_eq_some_iff.1 hl).1
    refine ⟨rfl, ⟨sv', hI'.keep ((Fr.refl (oneB (W2.heap.size + 1)) W).putObj _ _ (Or.inl rfl)) (fun e => ?_) (fun e => ?_) (fun e => ?_) (fun k cur _ hk e => ?_)⟩, hFW.putObj _ _ (Or.inl (Or.inl (by omega)))⟩
    · have e' : fb = W2.heap.size + 1 := e; omega
    · have e' : rb = W2.heap.size + 1 := e; omega
    · have e' : g = W2.heap.size + 1 := e; omega
    · have e' : k = W2.heap.size + 1 := e
      rw [e', hl] at hk
      cases hk
  case hseq =>
    intro W1 hF3 hs3 hno
    have hI3 : InfIs W1 fb rb g B 0 most (.slice none 0 0) [] none none := HI.out.keep (hF2.trans hF3) id id id (fun _ _ _ _ h => h)
    have hT := blocks_last w1.heap.size fb rb g 0 f a b c d (W2.heap.size + 1) B [] T most (.slice none 0 0) none none (andTwo (fun k => N ≤ k ∧ k ≤ N + 2) W2.heap.size) W1 hI3 (hF3.obj hcb id) HLL.out (by simp; omega) hm2 (by simp) (fun k hk => by
      rcases hk with hk | hk | hk
      · refine ⟨by omega, fun e => ?_, by omega, by omega, by omega⟩
        rcases e with e | e | ⟨e, _⟩ <;> omega
      · refine ⟨by omega, fun e => ?_, by omega, by omega, by omega⟩
        rcases e with e | e | ⟨e, cs, fr, hh⟩
        · omega
        · omega
        · exact hno k (by omega) cs 5 fr hh
      · refine ⟨by omega, fun e => ?_, by omega, by omega, by omega⟩
        rcases e with e | e | ⟨e, cs, fr, hh⟩
        · omega
        · omega
        · exact hno k (by omega) cs 5 fr hh)
    intro J Jx hJ hJx hYd h0'
    refine (hT J Jx hJ hJx hYd h0').mono ?_
    rintro e W4 ⟨hv', (⟨xs, ⟨rfl, hE, hFr⟩, hj⟩ | hx)⟩
    · refine ⟨hv', Or.inl ⟨[()], ⟨rfl, hE, ?_⟩, hj⟩⟩
      have h5 : Fr (fun k => fb ≤ k ∨ k = rb ∨ (N ≤ k ∧ k ≤ N + 2)) w1 W1 := (hF2.trans hF3).weak
      refine h5.then hFr (fun k hk => ?_)
      rcases hk with (hk | hk | ⟨hk, _⟩) | hk | hk | hk
      · exact Or.inl (Or.inr (Or.inl hk))
      · exact Or.inl (Or.inl (by omega))
      · exact Or.inl (Or.inl (by omega))
      · exact Or.inl (Or.inr (Or.inr hk))
      · exact Or.inr (by omega)
      · exact Or.inr (by omega)
    · exact ⟨hv', Or.inr hx⟩
  case done =>
    rintro xs W ⟨rfl, ⟨sv', hI'⟩, hFW⟩ ⟨q1, q2, q3⟩ hK
    rw [List.nil_append] at hI'
    obtain ⟨so, sc, rfl, hle, hmx, hnl, hsrc, hob⟩ := own_slice hI'.own
    have hLT := HLL.out.len
    have c0 := cellOf (o := 0) hI'.at_ rfl
    have c2 := cellOf (o := 2) hI'.at_ rfl
    have lowS : Nat → Prop := fun k => N ≤ k ∧ k ≤ N + 2
    have HK : Hid (∀ (w' : World), Fr (fun k => N ≤ k ∧ k ≤ N + 2) W w' → w'.cell? ⟨fb, 0, none⟩ = some (.pointer (some ⟨rb, 0, none⟩)) ∧ w'.cell? ⟨fb, 2, none⟩ = some (.slice so T.length sc)) := fun w' hw =>
      ⟨cellOf (hw.obj hI'.at_ (by omega)) rfl, cellOf (hw.obj hI'.at_ (by omega)) rfl⟩
    have HU : Hid (∀ (w' : World), Fr (fun k => N ≤ k ∧ k ≤ N + 2) W w' → Calls Tryd.prog 20 #[.pointer (some ⟨rb, 0, none⟩)] w' fun e w'' => e = .returned (.int .i64 ((f + 4 + (a + 256 * b) : Nat) : Int)) ∧ w'' = w') := fun w' hw => by
      have h6 := HLL.out.there
      have h7 := HLL.out.short
      have h := used_any rb g B.length (8 * (f + 4 + (a + 256 * b))) w' (hw.obj hI'.rd (by omega)) (by omega) (by omega)
      rw [show (8 * (f + 4 + (a + 256 * b)) + 7) / 8 = f + 4 + (a + 256 * b) by omega] at h
      exact h
    have r1 := cellOf (o := 0) q1 rfl
    have r2 := cellOf (o := 0) q2 rfl
    have r3 := cellOf (o := 0) q3 rfl
    have s1 := freeOf (o := 0) q1
    have s2 := freeOf (o := 0) q2
    have s3 := freeOf (o := 0) q3
    have HW : Hid (InfIs W fb rb g B (8 * (f + 4 + (a + 256 * b))) most (.slice so T.length sc) T none none) := hI'
    have HFW : Hid _ := hFW
    clear hI' hLT lowS
    go_wp2_with fail
    go_region_held3 (fun w' => w'.cell? ⟨fb, 0, none⟩ = some (.pointer (some ⟨rb, 0, none⟩)) ∧ w'.cell? ⟨fb, 2, none⟩ = some (.slice so T.length sc))
      (first | (refine HK.out _ ?_; repeat (first | exact Fr.refl _ _ | refine Fr.drew ?_ | refine Fr.setCell ?_ _ (Or.inl (by constructor <;> simp <;> omega)) _)))
      (first | (go_at_call 20; refine (HU.out _ (by repeat (first | exact Fr.refl _ _ | refine Fr.drew ?_ | refine Fr.setCell ?_ _ (Or.inl (by constructor <;> simp <;> omega)) _))).mono ?_; rintro e w' ⟨rfl, rfl⟩))
    obtain ⟨W5, hW5⟩ : ∃ W5, (((W.setCell ⟨N, 0, none⟩ (.slice so T.length sc)).setCell ⟨N + 1, 0, none⟩ (.int .i64 ((f : Int) + 4 + ((a : Int) + 256 * (b : Int))))).setCell ⟨N + 1 + 1, 0, none⟩ (.int .i64 0)).drew = W5 := ⟨_, rfl⟩
    have hF5 : Fr (fun k => N ≤ k ∧ k ≤ N + 2) W W5 := by
      rw [← hW5]
      repeat (first | exact Fr.refl _ _ | refine Fr.drew ?_ | refine Fr.setCell ?_ _ (Or.inl (by constructor <;> simp <;> omega)) _)
    have hK5 : W5.heap[W2.heap.size]? = some (.deferred (some [])) := hF5.obj hK (by omega)
    obtain ⟨W6, hW6⟩ : ∃ W6, W5.putObj W2.heap.size (.deferred none) = W6 := ⟨_, rfl⟩
    have g0 : W5.heap[N]? = some (.cells #[.slice so T.length sc] 22 (0, 0)) := by
      rw [← hW5]
      show (((W.setCell ⟨N, 0, none⟩ (.slice so T.length sc)).setCell ⟨N + 1, 0, none⟩ _).setCell ⟨N + 1 + 1, 0, none⟩ _).heap[N]? = _
      rw [Below.heap_setCell _ _ _ _ (by show N ≠ N + 1 + 1; omega), Below.heap_setCell _ _ _ _ (by show N ≠ N + 1; omega)]
      exact setOf 0 _ q1
    have g1 : W5.heap[N + 1]? = some (.cells #[.int .i64 ((f : Int) + 4 + ((a : Int) + 256 * (b : Int)))] 3 (0, 0)) := by
      rw [← hW5]
      show (((W.setCell ⟨N, 0, none⟩ (.slice so T.length sc)).setCell ⟨N + 1, 0, none⟩ _).setCell ⟨N + 1 + 1, 0, none⟩ _).heap[N + 1]? = _
      rw [Below.heap_setCell _ _ _ _ (by show N + 1 ≠ N + 1 + 1; omega)]
      exact setOf 0 _ ((Below.heap_setCell _ _ _ _ (by show N + 1 ≠ N; omega)).trans q2)
    have g2 : W5.heap[N + 1 + 1]? = some (.cells #[.int .i64 0] 23 (0, 0)) := by
      rw [← hW5]
      show (((W.setCell ⟨N, 0, none⟩ (.slice so T.length sc)).setCell ⟨N + 1, 0, none⟩ _).setCell ⟨N + 1 + 1, 0, none⟩ _).heap[N + 1 + 1]? = _
      exact setOf 0 _ ((Below.heap_setCell _ _ _ _ (by show N + 1 + 1 ≠ N + 1; omega)).trans ((Below.heap_setCell _ _ _ _ (by show N + 1 + 1 ≠ N; omega)).trans q3))
    have hF6 : Fr (fun k => fb ≤ k ∨ k = rb ∨ (N ≤ k ∧ k ≤ N + 2)) W5 W6 := by
      rw [← hW6]
      exact (Fr.refl _ W5).putObj _ _ (Or.inl (Or.inl (by omega)))
    have p0 : W6.cell? ⟨N, 0, none⟩ = some (.slice so T.length sc) := by rw [← hW6]; exact cellOf ((World.putObj_heap_other (by omega)).trans g0) rfl
    have p1 : W6.cell? ⟨N + 1, 0, none⟩ = some (.int .i64 ((f : Int) + 4 + ((a : Int) + 256 * (b : Int)))) := by rw [← hW6]; exact cellOf ((World.putObj_heap_other (by omega)).trans g1) rfl
    have p2 : W6.cell? ⟨N + 1 + 1, 0, none⟩ = some (.int .i64 0) := by rw [← hW6]; exact cellOf ((World.putObj_heap_other (by omega)).trans g2) rfl
    have hfin : W6.ownsRow w.heap.size 5 1 (.slice so T.length sc) T.length (byteVals T) ∧ Fr noB w W6 := by
      have hFa : Fr (fun k => fb ≤ k ∨ k = rb ∨ (N ≤ k ∧ k ≤ N + 2)) w1 W6 := (HFW.out.then hF5 (fun k hk => Or.inl (Or.inr (Or.inr hk)))).trans hF6
      refine ⟨?_, hFw1.then hFa (fun k hk => Or.inr (by omega))⟩
      obtain ⟨y1, y2⟩ := HW.out.own
      refine ⟨y1, ?_⟩
      rcases y2 with y2 | ⟨g', cap', cur', k1, k2, k3, k4⟩
      · exact Or.inl y2
      · refine Or.inr ⟨g', cap', cur', k1, by omega, ?_, k4⟩
        have hne : g' ≠ W2.heap.size := by
          intro e
          rw [e, hK] at k3
          cases k3
        rw [← hW6]
        exact (World.putObj_heap_other hne).trans (hF5.obj k3 (by omega))
    rw [hs2] at hK5 hW6
    rw [hW5]
    clear hF5 hF6 g0 g1 g2 q1 q2 q3 r1 r2 r3 s1 s2 s3 c0 c2 hW5
    go_wp2_with fail
    refine ⟨by simp, .inl ⟨_, _, rfl, run_takeDeferred hK5, ?_⟩⟩
    rw [hW6]
    refine ⟨.tuple #[.slice so T.length sc, .int .i64 ((f : Int) + 4 + ((a : Int) + 256 * (b : Int))), .int .i64 0], by simp [results, Tryd.results6, go_sem, p0, p1, p2], _, ?_, hfin.1, hfin.2⟩
    simp
#print axioms inflate_last
end Go.Proofs.YtcefochgpijfbaaDoor
