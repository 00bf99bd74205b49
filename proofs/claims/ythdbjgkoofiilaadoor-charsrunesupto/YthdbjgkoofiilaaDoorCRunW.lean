/- CharsRunes: the law's walk. -/
import Derived.Test.YthdbjgkoofiilaaDoorCRunS
import Derived.Test.YthdbjgkoofiilaaDoorCPlS
import Derived.Test.YthdbjgkoofiilaaDoorCLiv
import Derived.ControlIn
import Derived.LoopN
import Derived.Deep.RegionHeld3
namespace Go.Proofs.YthdbjgkoofiilaaDoor
open Go.RowKit Go.Shelf
attribute [local go_sem] Oper.semAt_some

/-- A function with a range over a function in it: its contract out of the plain walk of its body. -/
theorem calls_marks {P : Program} {f : FuncId} {fn : Func} {c : Code} {args : Array Value} {w : World} {R : Ending → World → Prop} (hf : P.funcs[f]? = some fn) (hb : fn.body = some c)
    (h : c.wp P (bodyPostM Fence.wide 0 P fn R) { tmps := args ++ Array.replicate (fn.ntmps - args.size) undef, defers := [] } w) : Calls P f args w R :=
  (callsIn_wide (n := 0)).1 (callsIn_of_wp_marks hf hb trivial (wpIn_wide.2 h) rfl)

/-- What the rounds read: the boxes of stop, of the result, of want, of at, of the text; the rows of want and at. All lie below M. -/
structure RSet (M N b5 cb : Nat) (so1 so2 : Option Addr) (sc1 sc2 : Nat) (stop : Int) (s : ByteArray) (c : Nat) (W : World) : Prop where
  hc : (runs s 0).length = c
  ms : M ≤ W.heap.size
  nM : N + 1 < M
  m5 : b5 + 1 < M
  mc : cb < M
  cN : W.heap[N]? = some (.cells #[.int .i64 stop] 3 (0, 0))
  cR : W.heap[N + 1]? = some (.cells #[.bool false] 4 (0, 0))
  c5 : W.heap[b5]? = some (.cells #[.slice so1 c sc1] 23 (0, 0))
  c6 : W.heap[b5 + 1]? = some (.cells #[.slice so2 (c + 1) sc2] 25 (0, 0))
  cc : W.heap[cb]? = some (.cells #[.string s] 9 (0, 0))
  r1 : ∀ i x, (runs s 0)[i]? = some x → ∃ g, so1 = some ⟨g, 0, none⟩ ∧ g < M ∧ W.cell? ⟨g, i, none⟩ = some (.int .i32 ((x.2.1 : Nat) : Int))
  r2 : ∀ i x, (runs s 0)[i]? = some x → ∃ g, so2 = some ⟨g, 0, none⟩ ∧ g < M ∧ W.cell? ⟨g, i, none⟩ = some (.int .i64 ((x.1 : Nat) : Int))
theorem RSet.keep {M N b5 cb : Nat} {so1 so2 : Option Addr} {sc1 sc2 : Nat} {stop : Int} {s : ByteArray} {c : Nat} {W W' : World} {S : Nat → Prop} (h : RSet M N b5 cb so1 so2 sc1 sc2 stop s c W) (hF : Fr S W W') (hS : ∀ k, S k → M ≤ k) : RSet M N b5 cb so1 so2 sc1 sc2 stop s c W' := by
  have no : ∀ k, k < M → ¬ S k := fun k hk hs => by have := hS k hs; omega
  have hms := h.ms
  have hnM := h.nM
  have h5 := h.m5
  refine ⟨h.hc, Nat.le_trans hms hF.size, hnM, h5, h.mc, hF.obj h.cN (no _ (by omega)), hF.obj h.cR (no _ hnM), hF.obj h.c5 (no _ (by omega)), hF.obj h.c6 (no _ h5), hF.obj h.cc (no _ h.mc), fun i x hx => ?_, fun i x hx => ?_⟩
  · obtain ⟨g, e, hg, hc⟩ := h.r1 i x hx
    exact ⟨g, e, hg, (hF.cell (show g < _ by omega) (no g hg)).trans hc⟩
  · obtain ⟨g, e, hg, hc⟩ := h.r2 i x hx
    exact ⟨g, e, hg, (hF.cell (show g < _ by omega) (no g hg)).trans hc⟩
theorem own_lt {base e n : Nat} {so : Option Addr} {sc : Nat} {xs : List Value} {w : World} (h : w.ownsRow base e 1 (.slice so n sc) n xs) : ∀ g o sp, so = some ⟨g, o, sp⟩ → g < w.heap.size := by
  intro g o sp e1
  rcases h.2 with ⟨hv, hz⟩ | ⟨g', cap, cur, hv, hb, hg, _⟩
  · cases hv; cases e1
  · cases hv
    cases e1
    exact lt_of_block hg
/-- A row of numbers, one for each character. -/
theorem row_at {base e : Nat} {so : Option Addr} {sc n : Nat} {k : IntKind} {L : List Nat} {w : World} (h : w.ownsRow base e 1 (.slice so n sc) n (nV k L)) (i v : Nat) (hi : L[i]? = some v) : ∃ g, so = some ⟨g, 0, none⟩ ∧ g < w.heap.size ∧ w.cell? ⟨g, i, none⟩ = some (.int k (v : Int)) := by
  have hn : (nV k L).length = n * 1 := h.1
  have hl : i < L.length := (List.getElem?_eq_some_iff.1 hi).1
  obtain ⟨g, e1, _, hc⟩ := own_cells h (by simp at hn; omega)
  exact ⟨g, e1, own_lt h g 0 none e1, hc i _ (nV_at k L i v hi)⟩
theorem rounds_by {P : Program} {c : Code} {Q : Exit → Act → World → Prop} {a : Act} {w : World} (Inv : Nat → Act → World → Prop) (h0 : Inv 0 a w)
    (h1 : ∀ j, j < 2 → ∀ a w, Inv j a w → c.wp P (Exit.then (Inv (j + 1)) Q) a w) (h2 : ∀ a w, Inv 2 a w → c.wp P (Exit.then (fun _ _ => False) Q) a w) : (Code.loop c).wp P Q a w := by
  refine wp_loop_rounds 3 (Code.wp_mono (fun e a w h => ?_) (h1 0 (by decide) _ _ h0))
  cases e with
  | normal =>
    refine Code.wp_mono (fun e a w h => ?_) (h1 1 (by decide) _ _ h)
    cases e with
    | normal => exact h2 _ _ h
    | _ => exact h
  | _ => exact h
/-- The records that the rounds leave: each holds no call. -/
def RecsOk (M : Nat) (W : World) (D : List Nat) : Prop := D.Nodup ∧ ∀ d ∈ D, M ≤ d ∧ W.heap[d]? = some (.deferred (some []))
theorem RecsOk.keep {M : Nat} {W W' : World} {D : List Nat} {S : Nat → Prop} (h : RecsOk M W D) (hF : Fr S W W') (hS : ∀ k, k < W.heap.size → ¬ S k) : RecsOk M W' D :=
  ⟨h.1, fun d hd => ⟨(h.2 d hd).1, hF.obj (h.2 d hd).2 (hS d (lt_of_block (h.2 d hd).2))⟩⟩

set_option maxRecDepth 100000 in
set_option maxHeartbeats 4000000 in
theorem runes_walk (s : ByteArray) (stop : Int) (w : World) (hs : s.size ≤ 1048576) (hst : -9223372036854775808 ≤ stop ∧ stop ≤ 9223372036854775807) (hT : Tabs w) :
    Calls Tryd.prog 3 #[.string s, .int .i64 stop] w fun e w' => e = .returned (.bool true) ∧ Below w.heap.size w w' := by
  have H0 := live_true
  have H1 := fun w h => rrunes_any s w hs h
  have H2 := fun w h => rplaces_any s w hs h
  have H3 := fun w => runesP_any s w (by omega)
  have HT : Hid (Tabs w) := hT
  have hcb : (runs s 0).length ≤ 1048576 := by have := runs_len s s.size 0 (by omega); omega
  have e1 : (runeL (runs s 0)).length = (runs s 0).length := by simp [runeL]
  have e2 : (plcL (runs s 0) ++ [s.size]).length = (runs s 0).length + 1 := by simp [plcL]
  rw [e1] at H1
  rw [e2] at H2
  obtain ⟨c, hc⟩ : ∃ c, (runs s 0).length = c := ⟨_, rfl⟩
  rw [hc] at H1 H2 hcb
  clear hT e1 e2
  refine calls_marks Tryd.func3 rfl ?_
  simp only [Tryd.ntmps3, List.size_toArray, List.length_cons, List.length_nil, Nat.reduceAdd, Nat.reduceSub, Array.replicate_succ, Array.replicate_zero, List.push_toArray, List.append_toArray, List.nil_append, List.cons_append]
  go_wp2_with (first
    | (go_at_call 4; refine (H0 _).mono ?_; rintro e w0 ⟨rfl, hF0⟩; have hG0 := (((Fr.refl noB w).alloc _).alloc _).trans hF0)
    | (go_at_call 5; refine (H1 _ (HT.out.keep hG0)).mono ?_; rintro e w1 ⟨so1, sc1, rfl, hO1, hF1⟩; have hG1 := hG0.trans hF1)
    | (go_at_call 6; refine (H2 _ (HT.out.keep hG1)).mono ?_; rintro e w2 ⟨so2, sc2, rfl, hO2, hF2⟩; have hG2 := hG1.trans hF2)
    | (go_at_call 7; refine (H3 _).mono ?_; rintro e w3 ⟨cb, rfl, hcbk, hcc, hF3⟩))
  rename_i K hK
  have hG3 : Fr noB w w3 := ((hG2.alloc _).alloc _).trans hF3
  have hF4 : Fr noB w2 w3 := (((Fr.refl noB w2).alloc _).alloc _).trans hF3
  have s2 : w2.heap.size + 2 ≤ w3.heap.size := by have := hF3.size; simp at this; omega
  have hset : RSet w3.heap.size w.heap.size w2.heap.size cb so1 so2 sc1 sc2 stop s c w3 := by
    have sz0 := hF0.size
    have sz1 := hF1.size
    have sz2 := hF2.size
    simp at sz0
    have k3 : Fr noB w0 w3 := (hF1.trans hF2).trans hF4
    refine ⟨hc, Nat.le_refl _, by omega, by omega, lt_of_block hcc, ?_, ?_, ?_, ?_, hcc, fun i x hx => ?_, fun i x hx => ?_⟩
    · exact k3.obj (hF0.obj ((Below.heap_alloc _ _ _ (by simp)).trans (heap_alloc_new w _)) id) id
    · have e := heap_alloc_new (w.alloc (.cells #[.int .i64 stop] 3 (0, 0))) (.cells #[.bool false] 4 (0, 0))
      rw [World.size_alloc] at e
      exact k3.obj (hF0.obj e id) id
    · exact hF3.obj ((Below.heap_alloc _ _ _ (by simp)).trans (heap_alloc_new w2 _)) id
    · have e := heap_alloc_new (w2.alloc (.cells #[.slice so1 c sc1] 23 (0, 0))) (.cells #[.slice so2 (c + 1) sc2] 25 (0, 0))
      rw [World.size_alloc] at e
      exact hF3.obj e id
    · obtain ⟨g, e, hg, hcl⟩ := row_at hO1 i x.2.1 (by simp [runeL, hx])
      exact ⟨g, e, by omega, ((hF2.trans hF4).cell hg id).trans hcl⟩
    · obtain ⟨g, e, hg, hcl⟩ := row_at hO2 i x.1 (by
        have hl : i < (plcL (runs s 0)).length := by simpa [plcL] using (List.getElem?_eq_some_iff.1 hx).1
        rw [List.getElem?_append_left hl]
        simp [plcL, hx])
      exact ⟨g, e, by omega, (hF4.cell hg id).trans hcl⟩
  have HG : Hid (Fr noB w w3) := hG3
  clear H1 H2 H3 HT hO1 hO2 hF0 hF1 hF2 hF3 hF4 hG0 hG1 hG2 hG3 hcbk hcc s2
  generalize w2.heap.size = b5 at *
  obtain ⟨M, hM⟩ : ∃ M, w3.heap.size = M := ⟨_, rfl⟩
  obtain ⟨N, hN⟩ : ∃ N, w.heap.size = N := ⟨_, rfl⟩
  rw [hM] at hset
  rw [hN] at hset ⊢
  refine rounds_by (fun j a W => ∃ (u8 u20 u21 u49 u50 u51 u52 u53 u54 u55 u56 u57 u58 : Value) (D : List Nat), a = { tmps := #[.string s, .int .i64 stop, undef, .pointer (some ⟨N, 0, none⟩), .pointer (some ⟨N + 1, 0, none⟩), .pointer (some ⟨b5, 0, none⟩), .pointer (some ⟨b5 + 1, 0, none⟩), .func (.func 13) #[] #[.pointer (some ⟨cb, 0, none⟩)], u8, undef, undef, .bool true, .bool false, .string s, .slice so1 c sc1, .string s, .slice so2 (c + 1) sc2, .string s, .func (.func 13) #[] #[.pointer (some ⟨cb, 0, none⟩)], .int .i64 (j : Int), u20, u21, undef, undef, undef, undef, undef, undef, undef, undef, undef, undef, undef, undef, undef, undef, undef, undef, undef, undef, undef, undef, undef, undef, undef, undef, undef, undef, undef, u49, u50, u51, u52, u53, u54, u55, u56, u57, u58, undef], defers := D.map fun d => { target := .collected d, args := #[] } } ∧ D.length = j ∧ RSet M N b5 cb so1 so2 sc1 sc2 stop s c W ∧ RecsOk M W D ∧ Hid (Fr noB w W)) ?start ?round ?last
  case start => exact ⟨undef, undef, undef, undef, undef, undef, undef, undef, undef, undef, undef, undef, undef, [], rfl, rfl, hset, ⟨List.nodup_nil, fun _ h => by cases h⟩, HG⟩
  case round =>
    rintro j hj _ V ⟨u8, u20, u21, u49, u50, u51, u52, u53, u54, u55, u56, u57, u58, D, rfl, hD, hset1, hrec, HV⟩
    clear hset HG hK
    have hj2 : (j : Int) < 2 := by omega
    have hb := heap_alloc_new V (.cells #[.int .i64 0] 3 (0, 0))
    have ha : Fr noB V (V.alloc (.cells #[.int .i64 0] 3 (0, 0))) := (Fr.refl noB V).alloc _
    have hsz : (V.alloc (.cells #[.int .i64 0] 3 (0, 0))).heap.size = V.heap.size + 1 := by simp
    have hsa : RSet M N b5 cb so1 so2 sc1 sc2 stop s c (V.alloc (.cells #[.int .i64 0] 3 (0, 0))) := hset1.keep ha (fun _ h => h.elim)
    have hra := hrec.keep ha (fun _ _ h => h.elim)
    have HA : Hid (Fr noB w (V.alloc (.cells #[.int .i64 0] 3 (0, 0)))) := HV.out.trans ha
    have hm := hset1.ms
    have hmc := hset1.mc
    have hmN := hset1.nM
    have hm5 := hset1.m5
    have HSA : Hid _ := hsa
    have HRA : Hid _ := hra
    have hDl : Hid (∀ d ∈ D, d < V.heap.size) := fun d hd => lt_of_block (hrec.2 d hd).2
    clear hsa hra hrec hset1 HV
    go_wp2_with fail
    generalize V.alloc (.cells #[.int .i64 0] 3 (0, 0)) = A at *
    generalize V.heap.size = B at *
    refine (wpIn_wide (n := 0)).1 (wp_range (α := Nat × Nat × Nat) (gf := 13) (lb := #[.pointer (some ⟨cb, 0, none⟩)]) rfl (enters_of Tryd.func13 (by kernel_rfl) rfl)
      (C := fun k => k = B) (fun k hk => by omega) (encs := encR) (fun _ => rfl) (Y := fun pre x W => (∃ rest, runs s 0 = pre ++ x :: rest) ∧ Fr (andTwo (fun k => k = B) A.heap.size) A W) ?hY
      (R := fun xs W => xs = runs s 0 ∧ Fr (andTwo (fun k => k = B) A.heap.size) A W) (Rx := fun pre W => (∃ rest, runs s 0 = pre ++ rest) ∧ Fr (andTwo (fun k => k = B) A.heap.size) A W) ?hR ?hRx ?hseq
      (fun pre W => W.heap[B]? = some (.cells #[.int .i64 (pre.length : Int)] 3 (0, 0)))
      (fun cd pre W => cd = .exit 2 ∧ (pre.length : Int) = stop ∧ W.heap[B]? = some (.cells #[.int .i64 (pre.length : Int)] 3 (0, 0))) ?hI ?hIx ?h0
      (fun x => { tmps := #[.string s, .int .i64 stop, undef, .pointer (some ⟨N, 0, none⟩), .pointer (some ⟨N + 1, 0, none⟩), .pointer (some ⟨b5, 0, none⟩), .pointer (some ⟨b5 + 1, 0, none⟩), .func (.func 13) #[] #[.pointer (some ⟨cb, 0, none⟩)], .pointer (some ⟨B, 0, none⟩), .int .i64 ((x.1 : Nat) : Int), .int .i32 ((x.2.1 : Nat) : Int), .bool true, .bool false, .string s, .slice so1 c sc1, .string s, .slice so2 (c + 1) sc2, .string s, .func (.func 13) #[] #[.pointer (some ⟨cb, 0, none⟩)], .int .i64 (j : Int), .bool true, .func (.func 13) #[] #[.pointer (some ⟨cb, 0, none⟩)], .int .i64 ((x.1 : Nat) : Int), .int .i32 ((x.2.1 : Nat) : Int), undef, undef, undef, undef, undef, undef, undef, undef, undef, undef, undef, undef, undef, undef, undef, undef, undef, undef, undef, undef, undef, undef, undef, undef, undef, u49, u50, u51, u52, u53, u54, u55, u56, u57, u58, undef], defers := [] })
      ?assign ?body ?done ?stop)
    case hY =>
      rintro p x W r r' ⟨hr, hf⟩ hl
      exact ⟨hr, hf.putObj _ _ (Or.inl (Or.inr (Or.inr rfl)))⟩
    case hR =>
      rintro p W r r' ⟨hr, hf⟩ hl
      exact ⟨hr, hf.putObj _ _ (Or.inl (Or.inr (Or.inr rfl)))⟩
    case hRx =>
      rintro p W r r' ⟨hr, hf⟩ hl
      exact ⟨hr, hf.putObj _ _ (Or.inl (Or.inr (Or.inr rfl)))⟩
    case hI =>
      intro p U U' q hs
      exact (hs _ rfl).trans q
    case hIx =>
      rintro cd p U U' ⟨q1, q2, q3⟩ hs
      exact ⟨q1, q2, (hs _ rfl).trans q3⟩
    case h0 => exact hb
    case assign =>
      intro l x W K hK
      dsimp only [encR]
      gi_wp2
      exact hK
    case hseq =>
      intro W1 hF1 hs1 hno
      have hT := runes_tells s cb (A.heap.size + 1) (andTwo (fun k => k = B) A.heap.size) W1 (hF1.obj HSA.out.cc id) (fun k hk => by
        rcases hk with hk | hk | hk
        · omega
        · omega
        · omega)
      intro J Jx hJ hJx hYd h0'
      refine (hT J Jx hJ hJx (fun pre x W hy hj => hYd pre x W ⟨hy.1, (Fr.weak hF1).trans hy.2⟩ hj) h0').mono ?_
      rintro e W5 ⟨hv', (⟨xs, ⟨hx, hf⟩, hj⟩ | ⟨pre, ⟨hx, hf⟩, hj⟩)⟩
      · exact ⟨hv', Or.inl ⟨xs, ⟨hx, (Fr.weak hF1).trans hf⟩, hj⟩⟩
      · exact ⟨hv', Or.inr ⟨pre, ⟨hx, (Fr.weak hF1).trans hf⟩, hj⟩⟩
    case body =>
      rintro l pre x W q ⟨⟨rest, hr⟩, hf⟩
      have hset' := HSA.out.keep hf (fun k hk => by rcases hk with hk | hk | hk <;> omega)
      have hx : (runs s 0)[pre.length]? = some x := by rw [hr]; simp
      have hlt : pre.length < c := by rw [← hset'.hc, hr]; simp
      obtain ⟨g1, e1, hg1, hc1⟩ := hset'.r1 _ _ hx
      obtain ⟨g2, e2, hg2, hc2⟩ := hset'.r2 _ _ hx
      have hn := cellOf (o := 0) q rfl
      have hnf := freeOf 0 q
      have hcN := cellOf (o := 0) hset'.cN rfl
      have hc5 := cellOf (o := 0) hset'.c5 rfl
      have hc6 := cellOf (o := 0) hset'.c6 rfl
      have HQ : Hid (W.heap[B]? = some (.cells #[.int .i64 (pre.length : Int)] 3 (0, 0))) := q
      have hX : Hid ((pre ++ [x]).length = pre.length + 1) := by show _ = _; simp
      generalize (pre ++ [x]) = px at *
      generalize pre.length = n at *
      have hnI : ((n : Int) < (c : Int)) := by omega
      have hnI2 : ((n : Int) < (c : Int) + 1) := by omega
      have hg0 : ((n : Int) ≥ (c : Int)) = False := by simp; omega
      clear hset' hx hr hf hb
      subst e1
      subst e2
      have HS : Hid ((W.setCell ⟨B, 0, none⟩ (.int .i64 ((n : Int) + 1))).heap[B]? = some (.cells #[.int .i64 (px.length : Int)] 3 (0, 0))) := by
        have := setOf 0 (.int .i64 ((n : Int) + 1)) HQ.out
        show _ = _
        rw [this, hX.out]
        rfl
      gi_wp2
      · rename_i he
        refine ⟨(Fr.refl (fun k => k = B) W).setCell ⟨B, 0, none⟩ (Or.inl rfl) _, rfl, ?_, HS.out⟩
        have := eq_of_beq he
        rw [hX.out]
        omega
      · exact ⟨(Fr.refl (fun k => k = B) W).setCell ⟨B, 0, none⟩ (Or.inl rfl) _, HS.out⟩
    case done =>
      rintro xs W ⟨rfl, hf⟩ q hd
      rw [hc] at q
      have hset' := HSA.out.keep hf (fun k hk => by rcases hk with hk | hk | hk <;> omega)
      rw [hsz] at hd
      have hrec' : Hid (RecsOk M W ((B + 1) :: D)) := ⟨List.nodup_cons.2 ⟨fun hm' => by have := hDl.out _ hm'; omega, HRA.out.1⟩, fun d hd' => by
        rcases List.mem_cons.1 hd' with rfl | hd'
        · exact ⟨by omega, hd⟩
        · have hlt := hDl.out d hd'
          exact ⟨(HRA.out.2 d hd').1, hf.obj (HRA.out.2 d hd').2 (fun hk => by rcases hk with hk | hk | hk <;> omega)⟩⟩
      have hG : Hid (Fr noB w W) := HA.out.then hf (fun k hk => Or.inr (by rcases hk with hk | hk | hk <;> omega))
      have hn := cellOf (o := 0) q rfl
      have hcN := cellOf (o := 0) hset'.cN rfl
      have hc5 := cellOf (o := 0) hset'.c5 rfl
      have HSET : Hid _ := hset'
      clear hset' hf HSA HRA HA hb
      go_wp2_with fail
      first | rw [hsz] | skip
      refine ⟨_, _, _, _, _, _, _, _, _, _, _, _, _, (B + 1) :: D, rfl, by simp [hD], HSET.out, hrec'.out, hG⟩
    case stop =>
      rintro cd pre W ⟨⟨rest, hr⟩, hf⟩ ⟨rfl, hst2, q⟩ hd
      have hset' := HSA.out.keep hf (fun k hk => by rcases hk with hk | hk | hk <;> omega)
      rw [hsz] at hd
      have hrec' : Hid (RecsOk M W ((B + 1) :: D)) := ⟨List.nodup_cons.2 ⟨fun hm' => by have := hDl.out _ hm'; omega, HRA.out.1⟩, fun d hd' => by
        rcases List.mem_cons.1 hd' with rfl | hd'
        · exact ⟨by omega, hd⟩
        · have hlt := hDl.out d hd'
          exact ⟨(HRA.out.2 d hd').1, hf.obj (HRA.out.2 d hd').2 (fun hk => by rcases hk with hk | hk | hk <;> omega)⟩⟩
      have hG : Hid (Fr noB w W) := HA.out.then hf (fun k hk => Or.inr (by rcases hk with hk | hk | hk <;> omega))
      have hn := cellOf (o := 0) q rfl
      have hcN := cellOf (o := 0) hset'.cN rfl
      have hc5 := cellOf (o := 0) hset'.c5 rfl
      have HSET : Hid _ := hset'
      clear hset' hf HSA HRA HA hb
      generalize pre.length = n at *
      subst hst2
      refine wpIn_wide.2 ?_
      by_cases hnc : (n : Int) = (c : Int)
      · go_wp2_with fail
        first | rw [hsz] | skip
        refine ⟨_, _, _, _, _, _, _, _, _, _, _, _, _, (B + 1) :: D, rfl, by simp [hD], HSET.out, hrec'.out, hG⟩
      · go_wp2_with fail
        first | rw [hsz] | skip
        refine ⟨_, _, _, _, _, _, _, _, _, _, _, _, _, (B + 1) :: D, rfl, by simp [hD], HSET.out, hrec'.out, hG⟩
  case last =>
    rintro _ V ⟨u8, u20, u21, u49, u50, u51, u52, u53, u54, u55, u56, u57, u58, D, rfl, hD, hset1, hrec, HV⟩
    clear hset HG
    obtain ⟨d2, d1, rfl⟩ : ∃ d2 d1, D = [d2, d1] := by
      match D, hD with
      | [a, b], _ => exact ⟨a, b, rfl⟩
    have k2 := (hrec.2 d2 (by simp)).2
    have k1 := (hrec.2 d1 (by simp)).2
    have m2 := (hrec.2 d2 (by simp)).1
    have m1 := (hrec.2 d1 (by simp)).1
    have hne : d1 ≠ d2 := by
      have := hrec.1
      simp at this
      exact fun e => this e.symm
    have hR := hset1.cR
    have hnM := hset1.nM
    have HW : Hid (Fr noB w V) := HV
    clear hrec hset1 HV
    go_wp2_with (go_at_call 4; refine (H0 _).mono ?_; rintro e w9 ⟨rfl, hF9⟩; have hR9 := hF9.obj hR id; have cR9 := cellOf (o := 0) hR9 rfl; have fR9 := freeOf 0 hR9)
    obtain ⟨W5, hW5⟩ : ∃ W5, w9.setCell ⟨N + 1, 0, none⟩ (.bool true) = W5 := ⟨_, rfl⟩
    have hF5 : Fr (oneB (N + 1)) w9 W5 := by rw [← hW5]; exact (Fr.refl _ w9).setOne 0 _
    have g2 : W5.heap[d2]? = some (.deferred (some [])) := hF5.obj (hF9.obj k2 id) (fun e => by have e' : d2 = N + 1 := e; omega)
    have g1 : W5.heap[d1]? = some (.deferred (some [])) := hF5.obj (hF9.obj k1 id) (fun e => by have e' : d1 = N + 1 := e; omega)
    have gR : W5.heap[N + 1]? = some (.cells #[.bool true] 4 (0, 0)) := by rw [← hW5]; exact setOf 0 (.bool true) hR9
    obtain ⟨W6, hW6⟩ : ∃ W6, W5.putObj d2 (.deferred none) = W6 := ⟨_, rfl⟩
    have q1 : W6.heap[d1]? = some (.deferred (some [])) := by rw [← hW6]; exact (World.putObj_heap_other hne).trans g1
    obtain ⟨W7, hW7⟩ : ∃ W7, W6.putObj d1 (.deferred none) = W7 := ⟨_, rfl⟩
    have pR : W7.cell? ⟨N + 1, 0, none⟩ = some (.bool true) := by
      refine cellOf (t := 4) (cs := #[.bool true]) ?_ rfl
      rw [← hW7, ← hW6]
      exact (World.putObj_heap_other (by omega)).trans ((World.putObj_heap_other (by omega)).trans gR)
    have hfin : Fr noB w W7 := by
      have z1 : Fr noB w W5 := (HW.out.trans hF9).then hF5 (fun k hk => Or.inr (by have e' : k = N + 1 := hk; omega))
      rw [← hW7, ← hW6]
      exact (z1.putObj d2 _ (Or.inr (by omega))).putObj d1 _ (Or.inr (by omega))
    rw [hW5]
    refine ⟨by simp, .inl ⟨_, _, rfl, run_takeDeferred g2, ?_⟩⟩
    rw [hW6]
    refine ⟨by simp, .inl ⟨_, _, rfl, run_takeDeferred q1, ?_⟩⟩
    rw [hW7]
    refine ⟨.bool true, by simp [results, Tryd.results3, go_sem, pR], rfl, hfin.below (Nat.le_refl _) (fun _ h => h.elim)⟩
#print axioms runes_walk
end Go.Proofs.YthdbjgkoofiilaaDoor
