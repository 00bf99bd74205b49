/- Inflate, right or wrong. -/
import Derived.Test.YthgnhcdodfildaaDoorK29
import Derived.ControlIn
namespace Go.Proofs.YthgnhcdodfildaaDoor
open Go.RowKit Go.Shelf
attribute [local go_sem] Oper.semAt_some
attribute [local go_sem ↓] Go.wp_at_zero Go.wp_at_succ

/-- A function with a range over a function in it: its contract out of the plain walk of its body. -/
theorem calls_marks {P : Program} {f : FuncId} {fn : Func} {c : Go.Code} {args : Array Value} {w : World} {R : Ending → World → Prop} (hf : P.funcs[f]? = some fn) (hb : fn.body = some c)
    (h : c.wp P (bodyPostM Fence.wide 0 P fn R) { tmps := args ++ Array.replicate (fn.ntmps - args.size) undef, defers := [] } w) : Calls P f args w R :=
  (callsIn_wide (n := 0)).1 (callsIn_of_wp_marks hf hb trivial (wpIn_wide.2 h) rfl)

set_option maxHeartbeats 400000 in
theorem newInf_any (v : Value) (B : List Nat) (most : Int) (w : World) (hv : Bs w v B) (hl : B.length ≤ 140737488355328) :
    Calls Tryd.prog 13 #[v, .int .i64 most] w fun e w' => ∃ fb rb g, e = .returned (.pointer (some ⟨fb, 0, none⟩)) ∧ w.heap.size ≤ rb ∧ w.heap.size ≤ g ∧ InfIs w' fb rb g B 0 most (.slice none 0 0) [] none none ∧ Fr noB w w' := by
  have HN := newReader_any v B w hv hl
  obtain ⟨ao, cap, rfl, h1, h2, h4, h3⟩ := hv
  clear h3
  go_enter Tryd.func13, Tryd.ntmps13
  go_wp2_with fail
  refine HN.mono ?_
  rintro e w1 ⟨rb, g, rfl, hrb, hg, hne, hr, hrow, hF⟩
  have hrl := lt_of_block hr
  have hgl := lt_of_block hrow
  go_wp2_with fail
  go_ret
  refine ⟨w1.heap.size, rb, g, rfl, hrb, hg, ⟨heap_alloc_new _ _, World.ownsRow_nil _ _ _ _, ((Fr.refl noB w1).alloc _).obj hr id, ((Fr.refl noB w1).alloc _).obj hrow id, hrl, hgl, hne⟩, hF.alloc _⟩

set_option maxHeartbeats 400000 in
theorem blocks_make (fb : Nat) (w : World) :
    Calls Tryd.prog 14 #[.pointer (some ⟨fb, 0, none⟩)] w fun e w' => e = .returned (.func (.func 23) #[] #[.pointer (some ⟨w.heap.size, 0, none⟩)]) ∧ w' = w.alloc (.cells #[.pointer (some ⟨fb, 0, none⟩)] 40 (0, 0)) := by
  go_enter Tryd.func14, Tryd.ntmps14
  go_wp2_with fail
  go_ret
  exact ⟨rfl, rfl⟩

theorem three_set {W : World} {N : Nat} {a b c a0 b0 c0 : Value} {t1 t2 t3 : TypeId} (q1 : W.heap[N]? = some (.cells #[a0] t1 (0, 0))) (q2 : W.heap[N + 1]? = some (.cells #[b0] t2 (0, 0))) (q3 : W.heap[N + 2]? = some (.cells #[c0] t3 (0, 0))) :
    (((W.setCell ⟨N, 0, none⟩ a).setCell ⟨N + 1, 0, none⟩ b).setCell ⟨N + 1 + 1, 0, none⟩ c).heap[N]? = some (.cells #[a] t1 (0, 0)) ∧ (((W.setCell ⟨N, 0, none⟩ a).setCell ⟨N + 1, 0, none⟩ b).setCell ⟨N + 1 + 1, 0, none⟩ c).heap[N + 1]? = some (.cells #[b] t2 (0, 0)) ∧ (((W.setCell ⟨N, 0, none⟩ a).setCell ⟨N + 1, 0, none⟩ b).setCell ⟨N + 1 + 1, 0, none⟩ c).heap[N + 1 + 1]? = some (.cells #[c] t3 (0, 0)) := by
  refine ⟨?_, ?_, ?_⟩
  · rw [Below.heap_setCell _ _ _ _ (by show N ≠ N + 1 + 1; omega), Below.heap_setCell _ _ _ _ (by show N ≠ N + 1; omega)]
    exact setOf 0 _ q1
  · rw [Below.heap_setCell _ _ _ _ (by show N + 1 ≠ N + 1 + 1; omega)]
    exact setOf 0 _ ((Below.heap_setCell _ _ _ _ (by show N + 1 ≠ N; omega)).trans q2)
  · exact setOf 0 _ ((Below.heap_setCell _ _ _ _ (by show N + 1 + 1 ≠ N + 1; omega)).trans ((Below.heap_setCell _ _ _ _ (by show N + 1 + 1 ≠ N; omega)).trans q3))
theorem three_fr {S : Nat → Prop} {w W : World} {N : Nat} (h : Fr S w W) (hS : ∀ k, N ≤ k → k ≤ N + 2 → S k) (a b c : Value) : Fr S w (((W.setCell ⟨N, 0, none⟩ a).setCell ⟨N + 1, 0, none⟩ b).setCell ⟨N + 1 + 1, 0, none⟩ c) :=
  ((h.setCell _ (Or.inl (hS N (by omega) (by omega))) _).setCell _ (Or.inl (hS (N + 1) (by omega) (by omega))) _).setCell _ (Or.inl (hS (N + 1 + 1) (by omega) (by omega))) _
/-- What Inflate answers. -/
def infP (w : World) (E : Nat × Nat × List Nat) (e : Ending) (w' : World) : Prop :=
  ((E.1 = 0 ∧ ∃ u, e = .returned (.tuple #[u, .int .i64 (((E.2.1 + 7) / 8 : Nat) : Int), .int .i64 0]) ∧ w'.ownsRow w.heap.size 5 1 u E.2.2.length (byteVals E.2.2)) ∨
   (E.1 ≠ 0 ∧ e = .returned (.tuple #[.slice none 0 0, .int .i64 0, .int .i64 ((E.1 : Nat) : Int)]))) ∧ Fr noB w w'
set_option maxRecDepth 100000 in
set_option maxHeartbeats 6400000 in
theorem inflate_any (v : Value) (B : List Nat) (most : Int) (w : World) (hv : Bs w v B) (hTo : Told w) (hB : ∀ x ∈ B, x < 256) (hl : B.length ≤ 1073741824) (hm : 0 ≤ most) (hm2 : most ≤ 9223372036854775807) :
    Calls Tryd.prog 5 #[v, .int .i64 most] w (infP w (endA B most (8 * B.length + 1) 0 [])) := by
  have HV : Hid (Bs w v B) := hv
  have HTo : Hid (Told w) := hTo
  obtain ⟨ao, cap, rfl, h1, h2, h4, h3⟩ := hv
  have hmI : ¬ most < 0 := by omega
  have HOK : Hid ((∀ x ∈ tellA B most (8 * B.length + 1) 0 [], x.1.1.1 = 0) → (endA B most (8 * B.length + 1) 0 []).1 = 0 ∧ 0 < (endA B most (8 * B.length + 1) 0 []).2.1 ∧ (endA B most (8 * B.length + 1) 0 []).2.1 ≤ 8 * B.length ∧ (endA B most (8 * B.length + 1) 0 []).2.2.length ≤ 258 * (endA B most (8 * B.length + 1) 0 []).2.1 ∧ ((endA B most (8 * B.length + 1) 0 []).2.2.length : Int) ≤ most) := fun h => endA_err B most (8 * B.length + 1) 0 [] (by omega) (by simp) (by simpa using hm) h (by omega)
  have HBAD : Hid (∀ pre x rest, tellA B most (8 * B.length + 1) 0 [] = pre ++ x :: rest → x.1.1.1 ≠ 0 → x.1.1.1 = (endA B most (8 * B.length + 1) 0 []).1) := fun pre x rest => tellA_err B most (8 * B.length + 1) 0 [] pre x rest
  have HTells : Hid _ := fun cb fb rb g l sv0 w h hTo hrT hfT hcb hfc => blocks_tells cb fb rb g l (8 * B.length + 1) B most sv0 w h hTo hrT hfT hcb hfc hB hl hm hm2 (by omega)
  have hTpos : toldB < w.heap.size := hTo.1
  clear h3 hTo
  generalize endA B most (8 * B.length + 1) 0 [] = E at *
  generalize tellA B most (8 * B.length + 1) 0 [] = TA at *
  refine calls_marks Tryd.func5 rfl ?_
  simp only [Tryd.ntmps5, List.size_toArray, List.length_cons, List.length_nil, Nat.reduceAdd, Nat.reduceSub, Array.replicate_succ, Array.replicate_zero, List.push_toArray, List.append_toArray, List.nil_append, List.cons_append]
  go_wp2_with fail
  have hF0 : Fr noB w (((w.alloc (.cells #[.slice none 0 0] 22 (0, 0))).alloc (.cells #[.int .i64 0] 3 (0, 0))).alloc (.cells #[.int .i64 0] 23 (0, 0))) := (((Fr.refl noB w).alloc _).alloc _).alloc _
  refine (newInf_any (.slice ao B.length cap) B most _ (HV.out.fr hF0 (fun _ _ _ _ _ _ _ h => h)) (by omega)).mono ?_
  rintro e w1 ⟨fb, rb, g, rfl, hrb, hg, hI, hF1⟩
  go_wp2_with fail
  refine (blocks_make fb w1).mono ?_
  rintro e w2 ⟨rfl, rfl⟩
  go_wp2_with fail
  obtain ⟨N, hN⟩ : ∃ N, w.heap.size = N := ⟨_, rfl⟩
  have hsz1 : N + 3 ≤ w1.heap.size := by have := hF1.size; simp at this; omega
  have hrb' : N + 3 ≤ rb := by simp at hrb; omega
  have hg' : N + 3 ≤ g := by simp at hg; omega
  have hrf := hI.rlt
  have hgf := hI.glt
  have hfl := lt_of_block hI.at_
  have HI : Hid (InfIs w1 fb rb g B 0 most (.slice none 0 0) [] none none) := hI
  have o0 : w1.heap[N]? = some (.cells #[.slice none 0 0] 22 (0, 0)) := by
    have := hF1.block w.heap.size (by simp; omega) id
    rw [← hN, this]
    exact (Below.heap_alloc _ _ _ (by simp; omega)).trans ((Below.heap_alloc _ _ _ (by simp)).trans (heap_alloc_new w _))
  have o1 : w1.heap[N + 1]? = some (.cells #[.int .i64 0] 3 (0, 0)) := by
    have := hF1.block (w.heap.size + 1) (by simp) id
    rw [← hN, this]
    have e := heap_alloc_new (w.alloc (.cells #[.slice none 0 0] 22 (0, 0))) (.cells #[.int .i64 0] 3 (0, 0))
    rw [World.size_alloc] at e
    exact (Below.heap_alloc _ _ _ (by simp)).trans e
  have o2 : w1.heap[N + 2]? = some (.cells #[.int .i64 0] 23 (0, 0)) := by
    have := hF1.block (w.heap.size + 2) (by simp) id
    rw [← hN, this]
    have e := heap_alloc_new ((w.alloc (.cells #[.slice none 0 0] 22 (0, 0))).alloc (.cells #[.int .i64 0] 3 (0, 0))) (.cells #[.int .i64 0] 23 (0, 0))
    rw [World.size_alloc, World.size_alloc] at e
    exact e
  have hFw1 : Fr noB w w1 := hF0.trans hF1
  rw [hN]
  obtain ⟨W2, hW2⟩ : ∃ W2, w1.alloc (.cells #[.pointer (some ⟨fb, 0, none⟩)] 40 (0, 0)) = W2 := ⟨_, rfl⟩
  have hs2 : W2.heap.size = w1.heap.size + 1 := by rw [← hW2]; simp
  have hF2 : Fr noB w1 W2 := by rw [← hW2]; exact (Fr.refl noB w1).alloc _
  have hcb : W2.heap[w1.heap.size]? = some (.cells #[.pointer (some ⟨fb, 0, none⟩)] 40 (0, 0)) := by rw [← hW2]; exact heap_alloc_new _ _
  have hTo2 : Told W2 := HTo.out.keep (hFw1.trans hF2) id
  rw [hW2]
  have tlo : ∀ W k, k ≤ N + 2 → ¬ tS fb rb W k := fun W k hk h => by
    rcases h.1 with e | e | ⟨e, _⟩ <;> omega
  have tfr : ∀ (W W' : World), Fr (fun k => N ≤ k) w W → Fr (tS fb rb W) W W' → Fr (fun k => N ≤ k) w W' := fun W W' h h' => h.then h' (fun k hk => Or.inl (by
    rcases hk.1 with e | e | ⟨e, _⟩ <;> (show N ≤ k; omega)))
  refine (wpIn_wide (n := 0)).1 (wp_rangeS (α := Blk) (gf := 23) (lb := #[.pointer (some ⟨w1.heap.size, 0, none⟩)]) rfl (enters_of Tryd.func23 (by kernel_rfl) rfl)
    (encs := encB) (fun _ => rfl) (T := fun W W' => Fr (tS fb rb W) W W') (D := fun W W' => Fr (rS fb rb g W) W W') ?hT ?hD1 ?hD2
    (Y := fun pre x _ => ∃ rest, TA = pre ++ x :: rest) (fun _ _ _ _ _ h _ => h)
    (R := fun xs W => xs = TA ∧ ∃ sv lt ds, (E.1 = 0 → InfIs W fb rb g B E.2.1 most sv E.2.2 lt ds)) (Rx := fun pre _ => ∃ rest, TA = pre ++ rest) ?hR (fun _ _ _ _ h _ => h) ?hseq
    (fun pre W => (∀ x ∈ pre, x.1.1.1 = 0) ∧ W.heap[N]? = some (.cells #[.slice none 0 0] 22 (0, 0)) ∧ W.heap[N + 1]? = some (.cells #[.int .i64 0] 3 (0, 0)) ∧ W.heap[N + 2]? = some (.cells #[.int .i64 0] 23 (0, 0)) ∧ Fr (fun k => N ≤ k) w W)
    (fun c pre W => c = .ret ∧ ∃ pre' x, pre = pre' ++ [x] ∧ x.1.1.1 ≠ 0 ∧ W.heap[N]? = some (.cells #[.slice none 0 0] 22 (0, 0)) ∧ W.heap[N + 1]? = some (.cells #[.int .i64 0] 3 (0, 0)) ∧ W.heap[N + 2]? = some (.cells #[.int .i64 ((x.1.1.1 : Nat) : Int)] 23 (0, 0)) ∧ Fr (fun k => N ≤ k) w W) ?hI ?hIx ?hIp ?hIxp ?h0
    (fun x => { tmps := #[.slice ao B.length cap, .int .i64 most, undef, undef, .pointer (some ⟨N, 0, none⟩), .pointer (some ⟨N + 1, 0, none⟩), .pointer (some ⟨N + 1 + 1, 0, none⟩), .pointer (some ⟨fb, 0, none⟩), undef, .int .i64 ((x.1.1.1 : Nat) : Int), .int .i64 most, .bool false, .slice ao B.length cap, .int .i64 most, .pointer (some ⟨fb, 0, none⟩), .pointer (some ⟨fb, 0, none⟩), .func (.func 23) #[] #[.pointer (some ⟨w1.heap.size, 0, none⟩)], blkV x.1 x.2, .int .i64 ((x.1.1.1 : Nat) : Int), undef, undef, undef, undef, undef, undef, undef, undef, undef, undef, undef, undef], defers := [] })
    ?assign ?body ?done ?stop)
  case hT =>
    intro W W' k o h ho hn
    exact h.obj ho (fun hk => by obtain ⟨_, cs, t, fr, e⟩ := hk; rw [ho] at e; cases e; exact hn _ _ _ rfl)
  case hD1 =>
    intro W W' r r' hr h
    have hlt := lt_of_block hr
    have hsz : (W.putObj (W2.heap.size + 1) (.loop r')).heap.size = W.heap.size := by simp [World.putObj]
    refine ⟨h.os, h.tape, h.output, by have := h.size; omega, fun k hk hn => ?_⟩
    by_cases e : k = W2.heap.size + 1
    · exact absurd ⟨Or.inr ⟨by omega, fun cs t fr h' => by rw [e, hr] at h'; cases h'⟩, fun h' => by obtain ⟨_, cs, t, fr, h'⟩ := h'; rw [e, hr] at h'; cases h'⟩ hn
    · have e1 : (W.putObj (W2.heap.size + 1) (.loop r')).heap[k]? = W.heap[k]? := World.putObj_heap_other e
      refine (h.block k (by omega) (fun hs => hn ?_)).trans e1
      unfold rS at hs ⊢
      rw [e1, hsz] at hs
      exact hs
  case hD2 =>
    intro W W' r r' hr h
    exact h.putObj _ _ (Or.inl ⟨Or.inr ⟨by omega, fun cs t fr h' => by rw [hr] at h'; cases h'⟩, fun h' => by obtain ⟨_, cs, t, fr, h'⟩ := h'; rw [hr] at h'; cases h'⟩)
  case hI =>
    rintro p A A' ⟨q0, q1, q2, q3, q4⟩ hs
    exact ⟨q0, hs.obj q1 (tlo A N (by omega)), hs.obj q2 (tlo A (N + 1) (by omega)), hs.obj q3 (tlo A (N + 2) (by omega)), tfr A A' q4 hs⟩
  case hIx =>
    rintro c p A A' ⟨q0, pre', x, p1, p2, q1, q2, q3, q4⟩ hs
    exact ⟨q0, pre', x, p1, p2, hs.obj q1 (tlo A N (by omega)), hs.obj q2 (tlo A (N + 1) (by omega)), hs.obj q3 (tlo A (N + 2) (by omega)), tfr A A' q4 hs⟩
  case hIp =>
    rintro p A r r' ⟨q0, q1, q2, q3, q4⟩ hr
    exact ⟨q0, (World.putObj_heap_other (by omega)).trans q1, (World.putObj_heap_other (by omega)).trans q2, (World.putObj_heap_other (by omega)).trans q3, q4.putObj _ _ (Or.inl (show N ≤ W2.heap.size + 1 by omega))⟩
  case hIxp =>
    rintro c p A r r' ⟨q0, pre', x, p1, p2, q1, q2, q3, q4⟩ hr
    exact ⟨q0, pre', x, p1, p2, (World.putObj_heap_other (by omega)).trans q1, (World.putObj_heap_other (by omega)).trans q2, (World.putObj_heap_other (by omega)).trans q3, q4.putObj _ _ (Or.inl (show N ≤ W2.heap.size + 1 by omega))⟩
  case h0 =>
    intro W1 hf
    have hf2 := hF2.trans hf
    exact ⟨by simp, hf2.obj o0 id, hf2.obj o1 id, hf2.obj o2 id, (hFw1.trans hf2).weak⟩
  case assign =>
    intro l x W K hK
    dsimp only [encB]
    gi_wp2
    exact hK
  case hR =>
    rintro p W r r' ⟨rfl, sv, lt, ds, hI'⟩ hl
    refine ⟨rfl, sv, lt, ds, fun e => ?_⟩
    have h' := hI' e
    refine h'.keep ((Fr.refl (oneB (W2.heap.size + 1)) W).putObj _ _ (Or.inl rfl)) (fun e => ?_) (fun e => ?_) (fun e => ?_) (fun k cur _ hk e => ?_)
    · have e' : fb = W2.heap.size + 1 := e; omega
    · have e' : rb = W2.heap.size + 1 := e; omega
    · have e' : g = W2.heap.size + 1 := e; omega
    · have e' : k = W2.heap.size + 1 := e
      rw [e', hl] at hk
      cases hk
  case hseq =>
    intro W1 hF3 hs3 hno
    have hI3 : InfIs W1 fb rb g B 0 most (.slice none 0 0) [] none none := HI.out.keep (hF2.trans hF3) id id id (fun _ _ _ _ h => h)
    have hT := HTells.out w1.heap.size fb rb g (W2.heap.size + 1) (.slice none 0 0) W1 hI3 (hTo2.keep hF3 id) (show rb ≠ 0 by omega) (show fb ≠ 0 by omega) (hF3.obj hcb id) hfl
    intro J Jx hJ hJx hYd h0'
    refine (hT J Jx hJ hJx (fun pre x W hy => hYd pre x W hy.1) h0').mono ?_
    rintro e W4 ⟨hv', (⟨xs, ⟨rfl, sv, lt, ds, _, hE⟩, hj⟩ | ⟨pre, ⟨_, hr⟩, hx⟩)⟩
    · exact ⟨hv', Or.inl ⟨_, ⟨rfl, sv, lt, ds, hE⟩, hj⟩⟩
    · exact ⟨hv', Or.inr ⟨pre, hr, hx⟩⟩
  case body =>
    rintro l pre x W ⟨q0, q1, q2, q3, q4⟩ hy _ ⟨r, hr⟩ hk
    have hlt := lt_of_block hr
    have r1 := cellOf (o := 0) q1 rfl
    have r2 := cellOf (o := 0) q2 rfl
    have r3 := cellOf (o := 0) q3 rfl
    have s1 := freeOf (o := 0) q1
    have s2 := freeOf (o := 0) q2
    have s3 := freeOf (o := 0) q3
    by_cases hx : x.1.1.1 = 0
    · have HX : Hid (x.1.1.1 = 0) := hx
      rw [hx]
      clear hx
      gi_wp2
      refine ⟨⟨Fr.refl _ _, rfl, rfl⟩, fun y hy => ?_, q1, q2, q3, q4⟩
      rcases List.mem_append.1 hy with h | h
      · exact q0 y h
      · rw [List.mem_singleton.1 h]; exact HX.out
    · have HX : Hid (x.1.1.1 ≠ 0) := hx
      have e1 : (((x.1.1.1 : Nat) : Int) == 0) = false := by simp; omega
      have e2 : (((x.1.1.1 : Nat) : Int) != 0) = true := by simp; omega
      generalize hxe : x.1.1.1 = e0 at *
      clear hx
      clear r1 r2 r3
      have r1 := cellOf (o := 0) q1 rfl
      have r2 := cellOf (o := 0) q2 rfl
      have r3 := cellOf (o := 0) q3 rfl
      gi_wp2
      obtain ⟨g0, g1, g2⟩ := three_set (a := .slice none 0 0) (b := .int .i64 0) (c := .int .i64 (e0 : Int)) q1 q2 q3
      have hlo := three_fr (S := fun k => N ≤ k ∧ k ≤ N + 2) (N := N) (Fr.refl _ W) (fun k a b => ⟨a, b⟩) (.slice none 0 0) (.int .i64 0) (.int .i64 (e0 : Int))
      refine ⟨⟨three_fr (Fr.refl _ W) (fun k a b => ⟨Or.inl ⟨by omega, by omega, by omega, show k ≠ 0 by have : 0 < w.heap.size := hTpos; omega⟩, fun h => by omega⟩) _ _ _, hlo.block _ (by omega) (fun h => by omega), hlo.block _ (by omega) (fun h => by omega)⟩, rfl, pre, x, rfl, by rw [hxe]; exact HX.out, g0, g1, by rw [hxe]; exact g2, three_fr q4 (fun k a _ => a) _ _ _⟩
  case stop =>
    rintro c pre W ⟨rest, hrest⟩ ⟨rfl, pre', x, rfl, hx, q1, q2, q3, q4⟩ hK
    have hbad := HBAD.out pre' x rest (by rw [hrest]; simp) hx
    obtain ⟨W6, hW6⟩ : ∃ W6, W.putObj W2.heap.size (.deferred none) = W6 := ⟨_, rfl⟩
    have p0 : W6.cell? ⟨N, 0, none⟩ = some (.slice none 0 0) := by rw [← hW6]; exact cellOf ((World.putObj_heap_other (by omega)).trans q1) rfl
    have p1 : W6.cell? ⟨N + 1, 0, none⟩ = some (.int .i64 0) := by rw [← hW6]; exact cellOf ((World.putObj_heap_other (by omega)).trans q2) rfl
    have p2 : W6.cell? ⟨N + 1 + 1, 0, none⟩ = some (.int .i64 ((x.1.1.1 : Nat) : Int)) := by rw [← hW6]; exact cellOf ((World.putObj_heap_other (by omega)).trans q3) rfl
    have hF6 : Fr noB w W6 := by
      rw [← hW6]
      have h6 : Fr (fun k => N ≤ k) w (W.putObj W2.heap.size (.deferred none)) := q4.putObj _ _ (Or.inl (show N ≤ W2.heap.size by omega))
      exact h6.mono fun k hk h => by have h' : N ≤ k := h; omega
    gi_wp2
    refine ⟨by simp, .inl ⟨_, _, rfl, run_takeDeferred hK, ?_⟩⟩
    rw [hW6]
    refine ⟨.tuple #[.slice none 0 0, .int .i64 0, .int .i64 ((x.1.1.1 : Nat) : Int)], by simp [results, Tryd.results5, go_sem, p0, p1, p2], ?_⟩
    exact ⟨Or.inr ⟨by rw [← hbad]; exact hx, by rw [← hbad]⟩, hF6⟩
  case done =>
    rintro xs W ⟨rfl, sv', lt', ds', hI'⟩ ⟨q0, q1, q2, q3, q4⟩ hK
    obtain ⟨hE0, hEp, hEq, hEs, hEm⟩ := HOK.out q0
    have hI' := hI' hE0
    obtain ⟨u, hu⟩ : ∃ u, (E.2.1 + 7) / 8 = u := ⟨_, rfl⟩
    obtain ⟨n, hn⟩ : ∃ n, E.2.2.length = n := ⟨_, rfl⟩
    have HUN : Hid ((E.2.1 + 7) / 8 = u ∧ E.2.2.length = n ∧ E.1 = 0) := ⟨hu, hn, hE0⟩
    obtain ⟨so, sc, hsv, hle, hmx, hnl, hsrc, hob⟩ := own_slice hI'.own
    rw [hn] at hsv
    subst hsv
    have c0 := cellOf (o := 0) hI'.at_ rfl
    have c2 := cellOf (o := 2) hI'.at_ rfl
    have HK : Hid (∀ (w' : World), Fr (fun k => N ≤ k ∧ k ≤ N + 2) W w' → w'.cell? ⟨fb, 0, none⟩ = some (.pointer (some ⟨rb, 0, none⟩)) ∧ w'.cell? ⟨fb, 2, none⟩ = some (.slice so n sc)) := fun w' hw =>
      ⟨cellOf (hw.obj hI'.at_ (by omega)) rfl, cellOf (hw.obj hI'.at_ (by omega)) rfl⟩
    have HU : Hid (∀ (w' : World), Fr (fun k => N ≤ k ∧ k ≤ N + 2) W w' → Calls Tryd.prog 15 #[.pointer (some ⟨rb, 0, none⟩)] w' fun e w'' => e = .returned (.int .i64 (u : Int)) ∧ w'' = w') := fun w' hw => by
      have h := used_any rb g B.length E.2.1 w' (hw.obj hI'.rd (by omega)) (by omega) (by omega)
      rw [hu] at h
      exact h
    have r1 := cellOf (o := 0) q1 rfl
    have r2 := cellOf (o := 0) q2 rfl
    have r3 := cellOf (o := 0) q3 rfl
    have s1 := freeOf (o := 0) q1
    have s2 := freeOf (o := 0) q2
    have s3 := freeOf (o := 0) q3
    have HW : Hid (InfIs W fb rb g B E.2.1 most (.slice so n sc) E.2.2 lt' ds') := hI'
    have HQ : Hid _ := And.intro q1 (And.intro q2 q3)
    have HQ4 : Hid (Fr (fun k => N ≤ k) w W) := q4
    clear hI' hu hn hE0 hEp hEq hEs hEm hle hmx hnl hsrc hob q0 q1 q2 q3 q4
    go_wp2_with fail
    go_region_held3 (fun w' => w'.cell? ⟨fb, 0, none⟩ = some (.pointer (some ⟨rb, 0, none⟩)) ∧ w'.cell? ⟨fb, 2, none⟩ = some (.slice so n sc))
      (first | (refine HK.out _ ?_; repeat (first | exact Fr.refl _ _ | refine Fr.drew ?_ | refine Fr.setCell ?_ _ (Or.inl (by constructor <;> simp <;> omega)) _)))
      (first | (go_at_call 15; refine (HU.out _ (by repeat (first | exact Fr.refl _ _ | refine Fr.drew ?_ | refine Fr.setCell ?_ _ (Or.inl (by constructor <;> simp <;> omega)) _))).mono ?_; rintro e w' ⟨rfl, rfl⟩))
    obtain ⟨W5, hW5⟩ : ∃ W5, (((W.setCell ⟨N, 0, none⟩ (.slice so n sc)).setCell ⟨N + 1, 0, none⟩ (.int .i64 (u : Int))).setCell ⟨N + 1 + 1, 0, none⟩ (.int .i64 0)).drew = W5 := ⟨_, rfl⟩
    have hF5 : Fr (fun k => N ≤ k ∧ k ≤ N + 2) W W5 := by
      rw [← hW5]
      exact (three_fr (Fr.refl _ W) (fun k a b => ⟨a, b⟩) _ _ _).drew
    obtain ⟨g0, g1, g2⟩ := three_set (a := .slice so n sc) (b := .int .i64 (u : Int)) (c := .int .i64 0) HQ.out.1 HQ.out.2.1 HQ.out.2.2
    have hK5 : W5.heap[W2.heap.size]? = some (.deferred (some [])) := hF5.obj hK (by omega)
    obtain ⟨W6, hW6⟩ : ∃ W6, W5.putObj W2.heap.size (.deferred none) = W6 := ⟨_, rfl⟩
    have g0' : W5.heap[N]? = some (.cells #[.slice so n sc] 22 (0, 0)) := by rw [← hW5]; exact g0
    have g1' : W5.heap[N + 1]? = some (.cells #[.int .i64 (u : Int)] 3 (0, 0)) := by rw [← hW5]; exact g1
    have g2' : W5.heap[N + 1 + 1]? = some (.cells #[.int .i64 0] 23 (0, 0)) := by rw [← hW5]; exact g2
    have p0 : W6.cell? ⟨N, 0, none⟩ = some (.slice so n sc) := by rw [← hW6]; exact cellOf ((World.putObj_heap_other (by omega)).trans g0') rfl
    have p1 : W6.cell? ⟨N + 1, 0, none⟩ = some (.int .i64 (u : Int)) := by rw [← hW6]; exact cellOf ((World.putObj_heap_other (by omega)).trans g1') rfl
    have p2 : W6.cell? ⟨N + 1 + 1, 0, none⟩ = some (.int .i64 0) := by rw [← hW6]; exact cellOf ((World.putObj_heap_other (by omega)).trans g2') rfl
    have hfin : W6.ownsRow w.heap.size 5 1 (.slice so n sc) n (byteVals E.2.2) ∧ Fr noB w W6 := by
      have hFa : Fr (fun k => N ≤ k) w W6 := by
        rw [← hW6]
        exact (HQ4.out.then hF5 (fun k hk => Or.inl hk.1)).putObj _ _ (Or.inl (show N ≤ W2.heap.size by omega))
      refine ⟨?_, hFa.mono fun k hk h => by have h' : N ≤ k := h; omega⟩
      have hown := HW.out.own
      rw [HUN.out.2.1] at hown
      obtain ⟨y1, y2⟩ := hown
      refine ⟨y1, ?_⟩
      rcases y2 with y2 | ⟨g', cap', cur', k1, k2, k3, k4⟩
      · exact Or.inl y2
      · refine Or.inr ⟨g', cap', cur', k1, by omega, ?_, k4⟩
        have hne : g' ≠ W2.heap.size := by
          intro e
          rw [e, hK] at k3
          cases k3
        rw [← hW6]
        exact (World.putObj_heap_other hne).trans (hF5.obj k3 (by omega))
    rw [hs2] at hK5 hW6
    rw [hW5]
    clear hF5 g0 g1 g2 g0' g1' g2' r1 r2 r3 s1 s2 s3 c0 c2 hW5
    go_wp2_with fail
    refine ⟨by simp, .inl ⟨_, _, rfl, run_takeDeferred hK5, ?_⟩⟩
    rw [hW6]
    refine ⟨.tuple #[.slice so n sc, .int .i64 (u : Int), .int .i64 0], by simp [results, Tryd.results5, go_sem, p0, p1, p2], ?_⟩
    refine ⟨Or.inl ⟨HUN.out.2.2, .slice so n sc, ?_, ?_⟩, hfin.2⟩
    · rw [HUN.out.1]
    · rw [HUN.out.2.1]; exact hfin.1
#print axioms inflate_any
end Go.Proofs.YthgnhcdodfildaaDoor
/- Inflate where most is below nought. -/
namespace Go.Proofs.YthgnhcdodfildaaDoor
open Go.RowKit Go.Shelf
attribute [local go_sem ↓] Go.wp_at_zero Go.wp_at_succ
set_option maxRecDepth 100000 in
set_option maxHeartbeats 1600000 in
theorem inflate_neg (v : Value) (B : List Nat) (most : Int) (w : World) (hv : Bs w v B) (hm : most < 0) :
    Calls Tryd.prog 5 #[v, .int .i64 most] w (infP w (1, 0, [])) := by
  obtain ⟨ao, cap, rfl, -⟩ := hv
  refine calls_marks Tryd.func5 rfl ?_
  simp only [Tryd.ntmps5, List.size_toArray, List.length_cons, List.length_nil, Nat.reduceAdd, Nat.reduceSub, Array.replicate_succ, Array.replicate_zero, List.push_toArray, List.append_toArray, List.nil_append, List.cons_append]
  go_wp2_with fail
  obtain ⟨W, hW⟩ : ∃ W, ((w.alloc (.cells #[.slice none 0 0] 22 (0, 0))).alloc (.cells #[.int .i64 0] 3 (0, 0))).alloc (.cells #[.int .i64 1] 23 (0, 0)) = W := ⟨_, rfl⟩
  have hF : Fr noB w W := by rw [← hW]; exact (((Fr.refl noB w).alloc _).alloc _).alloc _
  have p0 : W.cell? ⟨w.heap.size, 0, none⟩ = some (.slice none 0 0) := by
    rw [← hW]
    exact cellOf ((((Fr.refl noB _).alloc _).alloc _).obj (heap_alloc_new w _) id) rfl
  have p1 : W.cell? ⟨w.heap.size + 1, 0, none⟩ = some (.int .i64 0) := by
    have h := heap_alloc_new (w.alloc (.cells #[.slice none 0 0] 22 (0, 0))) (.cells #[.int .i64 0] 3 (0, 0))
    rw [World.size_alloc] at h
    rw [← hW]
    exact cellOf (((Fr.refl noB _).alloc _).obj h id) rfl
  have p2 : W.cell? ⟨w.heap.size + 1 + 1, 0, none⟩ = some (.int .i64 1) := by
    have h := heap_alloc_new ((w.alloc (.cells #[.slice none 0 0] 22 (0, 0))).alloc (.cells #[.int .i64 0] 3 (0, 0))) (.cells #[.int .i64 1] 23 (0, 0))
    rw [World.size_alloc, World.size_alloc] at h
    rw [← hW]
    exact cellOf h rfl
  rw [hW]
  refine ⟨.tuple #[.slice none 0 0, .int .i64 0, .int .i64 1], by simp [results, Tryd.results5, go_sem, p0, p1, p2], ?_⟩
  exact ⟨Or.inr ⟨by decide, rfl⟩, hF⟩
#print axioms inflate_neg
end Go.Proofs.YthgnhcdodfildaaDoor
