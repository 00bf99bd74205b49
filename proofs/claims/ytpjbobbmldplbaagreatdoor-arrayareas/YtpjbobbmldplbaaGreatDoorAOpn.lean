/- What the reading of an argument says of memory: an array, an argument of a function. -/
import Derived.Test.YtpjbobbmldplbaaGreatDoorALay
import Derived.Test.YtpjbobbmldplbaaGreatDoorK01
import Derived.Deep.Slices
namespace Go.Proofs.YtpjbobbmldplbaaGreatDoor
open Go.ChangeShapes Go.WideShapes Go.ChangeAt Go.RowKit Go.Deep

section
variable {H : Type} {enc : TypeId × Value → H} {W : World}
theorem ccA : Tryz.prog.cellsOf 27 = 3 ∧ Tryz.prog.cellsOf 37 = 5 ∧ Tryz.prog.cellsOf 3 = 1 ∧ Tryz.prog.cellsOf 9 = 1 ∧ Tryz.prog.cellsOf 25 = 1 ∧ Tryz.prog.cellsOf 35 = 1 ∧ Tryz.prog.cellsOf 4 = 1 := ⟨by kernel_rfl, by kernel_rfl, by kernel_rfl, by kernel_rfl, by kernel_rfl, by kernel_rfl, by kernel_rfl⟩
theorem mem_weightsAll {P : Program} {e : TypeId} {d : DataW H} {n : Nat} : ∀ {l : List (DataW H)}, d ∈ l → n ∈ d.weights P e → n ∈ DataW.weightsAll P e l
  | [], h, _ => by cases h
  | a :: r, h, hn => by
    unfold DataW.weightsAll
    rcases List.mem_cons.1 h with rfl | h
    · exact List.mem_append_left _ hn
    · exact List.mem_append_right _ (mem_weightsAll h hn)
theorem lt_of_cellAt {w : World} {a : Addr} {v : Value} (h : w.cell? a = some v) : a.block < w.heap.size := block_lt_of_cell h
theorem sz_reach {s : ByteArray} (h : s.data.toList.length ≤ reachBytes) : s.size ≤ 140737488355328 := by
  simp only [reachBytes] at h
  have e : s.data.toList.length = s.size := by simp
  omega
set_option maxRecDepth 100000 in
/-- A value's cells. -/
theorem open_vv {n : Nat} {cs : List Value} {x : DataW H × List MemPlace} (h : DataW.trod enc Tryz.prog W 0 (fun _ => true) true n 37 cs = some x) (hw : ∀ n ∈ x.1.weights Tryz.prog 37, n ≤ reachBytes) :
    ∃ v : Vv, cs = vC v ∧ Vok v := by
  obtain ⟨_, c5, c1, c3, _, c2, c4⟩ := ccA
  obtain ⟨xs, k, _, hxy, hcl, hxl, hf⟩ := DataW.trod_struct Tryz.underlying37 h
  rw [c5] at hcl
  match xs, hxl, cs, hcl with
  | [y0, y1, y2, y3, y4], _, [v0, v1, v2, v3, v4], _ =>
    have g0 := hf 0 _ rfl
    have g1 := hf 1 _ rfl
    have g2 := hf 2 _ rfl
    have g3 := hf 3 _ rfl
    have g4 := hf 4 _ rfl
    simp [c1, c2, c3, c4] at g0 g1 g2 g3 g4
    obtain ⟨k, e0, q0, w0⟩ := DataW.trod_int Tryz.underlying3 g0
    obtain ⟨n, e1, q1, w1⟩ := trod_float (k := .f64) Tryz.underlying35 g1
    obtain ⟨s, e2, q2, _⟩ := DataW.trod_string Tryz.underlying9 g2
    obtain ⟨y, e3, q3⟩ := DataW.trod_bool Tryz.underlying4 g3
    obtain ⟨e, e4, q4, w4⟩ := DataW.trod_int Tryz.underlying3 g4
    simp only [List.cons.injEq, and_true] at e0 e1 e2 e3 e4
    subst e0 e1 e2 e3 e4
    refine ⟨⟨k, n, s, y, e⟩, rfl, by simpa [Lit.wf] using w1, sz_reach (hw _ ?_)⟩
    subst hxy
    simp [DataW.weights, DataW.weightsEach, Tryz.underlying37, q0, q1, q2, q3, q4]
set_option maxRecDepth 100000 in
theorem open_values {fuel : Nat} {cs : List Value} {x : DataW H × List MemPlace} (h : DataW.trod enc Tryz.prog W 0 (fun _ => true) true fuel 25 cs = some x) (hw : ∀ n ∈ x.1.weights Tryz.prog 25, n ≤ reachBytes) :
    ∃ ao cap L, cs = [.slice ao L.length cap] ∧ VsAt W ao L ∧ L.length ≤ 140737488355328 ∧ (∀ y ∈ L, Vok y) := by
  have hc5 : Tryz.prog.cellsOf 37 = 5 := by kernel_rfl
  rcases open_slice Tryz.underlying25 h with ⟨rfl, rfl⟩ | ⟨a, len, cap, m, n, D, Pl, rfl, hb, hl, hm, hmm, rfl, hx⟩
  · exact ⟨none, 0, [], rfl, Or.inl rfl, by simp, fun y hy => by cases hy⟩
  simp at hmm
  subst hmm
  have hwd : ∀ d, d ∈ (List.range len).map D → ∀ k ∈ d.weights Tryz.prog 37, k ≤ reachBytes := fun d hd k hk => hw k (by
    show k ∈ (DataW.slice _ _ : DataW H).weights Tryz.prog 25
    unfold DataW.weights
    simp only [Tryz.underlying25]
    exact List.mem_cons_of_mem _ (List.mem_append_left _ (mem_weightsAll hd hk)))
  have hlen47 : len ≤ 140737488355328 := by
    have := hw (((List.range len).map D).length * 0 + (((List.range len).map D).length + ((List.range (m - len)).map fun j => D (len + j)).length) * Tryz.prog.bytesOf 37) (by
      show _ ∈ (DataW.slice _ _ : DataW H).weights Tryz.prog 25
      unfold DataW.weights
      simp only [Tryz.underlying25]
      rw [Nat.mul_zero, Nat.zero_add]
      exact List.mem_cons_self)
    rw [show Tryz.prog.bytesOf 37 = 48 by kernel_rfl] at this
    simp at this
    have := reachBytes_lt
    omega
  have each : ∀ i, i < len → ∃ o : Vv, (∀ j v, (vC o)[j]? = some v → W.cell? (a.add (i * 5 + j)) = some v) ∧ Vok o := by
    intro i hi
    obtain ⟨cs', h1, h2⟩ := hx i (by omega)
    rw [hc5] at h1
    obtain ⟨_, hlen, hcell⟩ := World.cells?_some h1
    obtain ⟨o, rfl, ho⟩ := open_vv h2 (hwd (D i) (List.mem_map.2 ⟨i, List.mem_range.2 hi, rfl⟩))
    refine ⟨o, fun j v hj => ?_, ho⟩
    have hj5 : j < 5 := by
      rcases Nat.lt_or_ge j 5 with h' | h'
      · exact h'
      · rw [List.getElem?_eq_none (by simpa using h')] at hj; cases hj
    have := hcell j hj5
    rw [add_add] at this
    rw [this, hj]
  obtain ⟨q, hq⟩ := choose_lt each
  have hlen : ((List.range len).map q).length = len := by simp
  refine ⟨some a, m, (List.range len).map q, by rw [hlen], ?_, by omega, fun y hy => ?_⟩
  · by_cases h0 : len = 0
    · left; subst h0; rfl
    · right
      have c0 := (hq 0 (by omega)).1 0 _ rfl
      have hspot : a.spot = none := by simpa [Addr.add] using World.cell?_spot c0
      obtain ⟨b, off, sp⟩ := a
      simp only at hspot
      subst hspot
      refine ⟨b, off, rfl, ?_, fun k hk => ?_⟩
      · have := lt_of_cellAt c0
        rw [add_none] at this
        exact this
      · rw [hlen] at hk
        have hc := (hq k hk).1
        have t0 := hc 0 _ rfl
        have t1 := hc 1 _ rfl
        have t2 := hc 2 _ rfl
        have t3 := hc 3 _ rfl
        have t4 := hc 4 _ rfl
        rw [add_none] at t0 t1 t2 t3 t4
        have e : ((List.range len).map q)[k]'(by rw [hlen]; exact hk) = q k := by simp
        rw [e]
        exact ⟨t0, t1, t2, t3, t4⟩
  · obtain ⟨i, hi, rfl⟩ := List.mem_map.1 hy
    exact (hq i (List.mem_range.1 hi)).2
set_option maxRecDepth 100000 in
theorem open_arr {r : Reach} {b0 : Nat} {v : Value} {dd : DataW H} {ps : List MemPlace} (hval : Value.okWide Tryz.prog W r b0 27 v) (hd : DataW.Trod enc Tryz.prog W 0 (fun _ => true) true 27 v dd ps) (hw : ∀ n ∈ dd.weights Tryz.prog 27, n ≤ reachBytes) :
    ∃ (rr cc : Int) (ao : Option Addr) (cap : Nat) (L : List Vv), v = .agg #[.int .i64 rr, .int .i64 cc, .slice ao L.length cap] ∧ VsAt W ao L ∧ L.length ≤ 140737488355328 ∧ (∀ y ∈ L, Vok y) ∧ (Lit.int .i64 rr).wf = true ∧ (Lit.int .i64 cc).wf = true := by
  obtain ⟨c3, _, c1, _, cL, _⟩ := ccA
  simp only [Value.okWide, Tryz.underlying27] at hval
  obtain ⟨cs, rfl, hs, _⟩ := hval
  rw [c3] at hs
  obtain ⟨l⟩ := cs
  match l, hs with
  | [v0, v1, v2], _ =>
    obtain ⟨fuel, hf⟩ := hd
    obtain ⟨xs, k, _, hxy, _, hxl, hf⟩ := DataW.trod_struct Tryz.underlying27 hf
    match xs, hxl with
    | [y0, y1, y2], _ =>
      have g0 := hf 0 _ rfl
      have g1 := hf 1 _ rfl
      have g2 := hf 2 _ rfl
      simp [c1, cL, Value.cells] at g0 g1 g2
      simp only [Prod.mk.injEq] at hxy
      have hdd : dd = .agg [y0.1, y1.1, y2.1] := by rw [hxy.1]; rfl
      have w2 : ∀ n ∈ y2.1.weights Tryz.prog 25, n ≤ reachBytes := fun n hn => hw n (by
        rw [hdd]
        unfold DataW.weights
        rw [Tryz.underlying27]
        simp only
        unfold DataW.weightsEach
        refine List.mem_append_right _ ?_
        unfold DataW.weightsEach
        refine List.mem_append_right _ ?_
        unfold DataW.weightsEach
        exact List.mem_append_left _ hn)
      obtain ⟨n0, e0, _, w0⟩ := DataW.trod_int Tryz.underlying3 g0
      obtain ⟨n1, e1, _, w1⟩ := DataW.trod_int Tryz.underlying3 g1
      obtain ⟨ao, cap, L, e2, hS, hl, hL⟩ := open_values g2 w2
      simp only [List.cons.injEq, and_true] at e0 e1 e2
      subst e0 e1 e2
      exact ⟨n0, n1, ao, cap, L, rfl, hS, hl, hL, w0, w1⟩
end
#print axioms open_arr
section
variable {H : Type} {enc : TypeId × Value → H} {W : World}
theorem ccP : Tryz.prog.cellsOf 24 = 5 ∧ Tryz.prog.cellsOf 48 = 7 ∧ Tryz.prog.cellsOf 22 = 1 := ⟨by kernel_rfl, by kernel_rfl, by kernel_rfl⟩
set_option maxRecDepth 100000 in
theorem open_pl {n : Nat} {cs : List Value} {x : DataW H × List MemPlace} (h : DataW.trod enc Tryz.prog W 0 (fun _ => true) true n 48 cs = some x) (hw : ∀ n ∈ x.1.weights Tryz.prog 48, n ≤ reachBytes) :
    ∃ p : Pl, cs = pC p ∧ Vok p.v ∧ (Lit.int .i64 p.r).wf = true ∧ (Lit.int .i64 p.c).wf = true := by
  obtain ⟨_, c5, c1, c3, _, c2, c4⟩ := ccA
  obtain ⟨_, c7, _⟩ := ccP
  obtain ⟨xs, k, _, hxy, hcl, hxl, hf⟩ := DataW.trod_struct Tryz.underlying48 h
  rw [c7] at hcl
  match xs, hxl, cs, hcl with
  | [y0, y1, y2], _, [v0, v1, v2, v3, v4, v5, v6], _ =>
    have g0 := hf 0 _ rfl
    have g1 := hf 1 _ rfl
    have g2 := hf 2 _ rfl
    simp [c1, c5] at g0 g1 g2
    have hdd : x.1 = .agg [y0.1, y1.1, y2.1] := by rw [hxy]; rfl
    have w2 : ∀ n ∈ y2.1.weights Tryz.prog 37, n ≤ reachBytes := fun n hn => hw n (by
      rw [hdd]
      unfold DataW.weights
      rw [Tryz.underlying48]
      simp only
      unfold DataW.weightsEach
      refine List.mem_append_right _ ?_
      unfold DataW.weightsEach
      refine List.mem_append_right _ ?_
      unfold DataW.weightsEach
      exact List.mem_append_left _ hn)
    obtain ⟨r, e0, _, w0⟩ := DataW.trod_int Tryz.underlying3 g0
    obtain ⟨c, e1, _, w1⟩ := DataW.trod_int Tryz.underlying3 g1
    obtain ⟨v, e2, hv⟩ := open_vv g2 w2
    obtain ⟨k, n, s, y, e⟩ := v
    simp only [vC, List.cons.injEq, and_true] at e0 e1 e2
    obtain ⟨f0, f1, f2, f3, f4⟩ := e2
    subst e0 e1 f0 f1 f2 f3 f4
    exact ⟨⟨r, c, ⟨k, n, s, y, e⟩⟩, rfl, hv, w0, w1⟩
set_option maxRecDepth 100000 in
theorem open_places {fuel : Nat} {cs : List Value} {x : DataW H × List MemPlace} (h : DataW.trod enc Tryz.prog W 0 (fun _ => true) true fuel 22 cs = some x) (hw : ∀ n ∈ x.1.weights Tryz.prog 22, n ≤ reachBytes) :
    ∃ ao cap L, cs = [.slice ao L.length cap] ∧ PsAt W ao L ∧ L.length ≤ 140737488355328 ∧ (∀ p ∈ L, Vok p.v ∧ (Lit.int .i64 p.r).wf = true ∧ (Lit.int .i64 p.c).wf = true) := by
  have hc7 : Tryz.prog.cellsOf 48 = 7 := by kernel_rfl
  rcases open_slice Tryz.underlying22 h with ⟨rfl, rfl⟩ | ⟨a, len, cap, m, n, D, Pl, rfl, hb, hl, hm, hmm, rfl, hx⟩
  · exact ⟨none, 0, [], rfl, Or.inl rfl, by simp, fun y hy => by cases hy⟩
  simp at hmm
  subst hmm
  have hwd : ∀ d, d ∈ (List.range len).map D → ∀ k ∈ d.weights Tryz.prog 48, k ≤ reachBytes := fun d hd k hk => hw k (by
    show k ∈ (DataW.slice _ _ : DataW H).weights Tryz.prog 22
    unfold DataW.weights
    simp only [Tryz.underlying22]
    exact List.mem_cons_of_mem _ (List.mem_append_left _ (mem_weightsAll hd hk)))
  have hlen47 : len ≤ 140737488355328 := by
    have := hw (((List.range len).map D).length * 0 + (((List.range len).map D).length + ((List.range (m - len)).map fun j => D (len + j)).length) * Tryz.prog.bytesOf 48) (by
      show _ ∈ (DataW.slice _ _ : DataW H).weights Tryz.prog 22
      unfold DataW.weights
      simp only [Tryz.underlying22]
      rw [Nat.mul_zero, Nat.zero_add]
      exact List.mem_cons_self)
    rw [show Tryz.prog.bytesOf 48 = 64 by kernel_rfl] at this
    simp at this
    have := reachBytes_lt
    omega
  have each : ∀ i, i < len → ∃ o : YtpjbobbmldplbaaGreatDoor.Pl, (∀ j v, (pC o)[j]? = some v → W.cell? (a.add (i * 7 + j)) = some v) ∧ Vok o.v ∧ (Lit.int .i64 o.r).wf = true ∧ (Lit.int .i64 o.c).wf = true := by
    intro i hi
    obtain ⟨cs', h1, h2⟩ := hx i (by omega)
    rw [hc7] at h1
    obtain ⟨_, hlen, hcell⟩ := World.cells?_some h1
    obtain ⟨o, rfl, ho⟩ := open_pl h2 (hwd (D i) (List.mem_map.2 ⟨i, List.mem_range.2 hi, rfl⟩))
    refine ⟨o, fun j v hj => ?_, ho⟩
    have hj7 : j < 7 := by
      rcases Nat.lt_or_ge j 7 with h' | h'
      · exact h'
      · rw [List.getElem?_eq_none (by simpa [pC] using h')] at hj; cases hj
    have := hcell j hj7
    rw [add_add] at this
    rw [this, hj]
  obtain ⟨q, hq⟩ := choose_lt each
  have hlen : ((List.range len).map q).length = len := by simp
  refine ⟨some a, m, (List.range len).map q, by rw [hlen], ?_, by omega, fun y hy => ?_⟩
  · by_cases h0 : len = 0
    · left; subst h0; rfl
    · right
      have c0 := (hq 0 (by omega)).1 0 _ rfl
      have hspot : a.spot = none := by simpa [Addr.add] using World.cell?_spot c0
      obtain ⟨b, off, sp⟩ := a
      simp only at hspot
      subst hspot
      refine ⟨b, off, rfl, ?_, fun k hk => ?_⟩
      · have := lt_of_cellAt c0
        rw [add_none] at this
        exact this
      · rw [hlen] at hk
        have hc := (hq k hk).1
        have t0 := hc 0 _ rfl
        have t1 := hc 1 _ rfl
        have t2 := hc 2 _ rfl
        have t3 := hc 3 _ rfl
        have t4 := hc 4 _ rfl
        have t5 := hc 5 _ rfl
        have t6 := hc 6 _ rfl
        rw [add_none] at t0 t1 t2 t3 t4 t5 t6
        have e : ((List.range len).map q)[k]'(by rw [hlen]; exact hk) = q k := by simp
        rw [e]
        exact ⟨t0, t1, t2, t3, t4, t5, t6⟩
  · obtain ⟨i, hi, rfl⟩ := List.mem_map.1 hy
    exact (hq i (List.mem_range.1 hi)).2
set_option maxRecDepth 100000 in
theorem open_arg {r : Reach} {b0 : Nat} {v : Value} {dd : DataW H} {ps : List MemPlace} (hval : Value.okWide Tryz.prog W r b0 24 v) (hd : DataW.Trod enc Tryz.prog W 0 (fun _ => true) true 24 v dd ps) (hw : ∀ n ∈ dd.weights Tryz.prog 24, n ≤ reachBytes) :
    ∃ (rf ms : Bool) (rr cc : Int) (ao : Option Addr) (cap : Nat) (L : List Pl), v = .agg #[.bool rf, .bool ms, .int .i64 rr, .int .i64 cc, .slice ao L.length cap] ∧ PsAt W ao L ∧ L.length ≤ 140737488355328 ∧ (∀ p ∈ L, Vok p.v ∧ (Lit.int .i64 p.r).wf = true ∧ (Lit.int .i64 p.c).wf = true) ∧ (Lit.int .i64 rr).wf = true ∧ (Lit.int .i64 cc).wf = true := by
  obtain ⟨c3, _, c1, _, _, _, c4⟩ := ccA
  obtain ⟨c5, _, cL⟩ := ccP
  simp only [Value.okWide, Tryz.underlying24] at hval
  obtain ⟨cs, rfl, hs, _⟩ := hval
  rw [c5] at hs
  obtain ⟨l⟩ := cs
  match l, hs with
  | [v0, v1, v2, v3, v4], _ =>
    obtain ⟨fuel, hf⟩ := hd
    obtain ⟨xs, k, _, hxy, _, hxl, hf⟩ := DataW.trod_struct Tryz.underlying24 hf
    match xs, hxl with
    | [y0, y1, y2, y3, y4], _ =>
      have g0 := hf 0 _ rfl
      have g1 := hf 1 _ rfl
      have g2 := hf 2 _ rfl
      have g3 := hf 3 _ rfl
      have g4 := hf 4 _ rfl
      simp [c1, c4, cL, Value.cells] at g0 g1 g2 g3 g4
      simp only [Prod.mk.injEq] at hxy
      have hdd : dd = .agg [y0.1, y1.1, y2.1, y3.1, y4.1] := by rw [hxy.1]; rfl
      have w2 : ∀ n ∈ y4.1.weights Tryz.prog 22, n ≤ reachBytes := fun n hn => hw n (by
        rw [hdd]
        unfold DataW.weights
        rw [Tryz.underlying24]
        simp only
        unfold DataW.weightsEach
        refine List.mem_append_right _ ?_
        unfold DataW.weightsEach
        refine List.mem_append_right _ ?_
        unfold DataW.weightsEach
        refine List.mem_append_right _ ?_
        unfold DataW.weightsEach
        refine List.mem_append_right _ ?_
        unfold DataW.weightsEach
        exact List.mem_append_left _ hn)
      obtain ⟨b0, e0, _⟩ := DataW.trod_bool Tryz.underlying4 g0
      obtain ⟨b1, e1, _⟩ := DataW.trod_bool Tryz.underlying4 g1
      obtain ⟨n2, e2, _, z2⟩ := DataW.trod_int Tryz.underlying3 g2
      obtain ⟨n3, e3, _, z3⟩ := DataW.trod_int Tryz.underlying3 g3
      obtain ⟨ao, cap, L, e4, hS, hl, hL⟩ := open_places g4 w2
      simp only [List.cons.injEq, and_true] at e0 e1 e2 e3 e4
      subst e0 e1 e2 e3 e4
      exact ⟨b0, b1, n2, n3, ao, cap, L, rfl, hS, hl, hL, z2, z3⟩
end
#print axioms open_arg
end Go.Proofs.YtpjbobbmldplbaaGreatDoor
