/- What the reading of an argument says of memory: a case, a cell's address. -/
import Derived.Test.YthokhnbecgkpbaaDoorHLay
import Derived.Test.YthokhnbecgkpbaaDoorHFnd
import Derived.Deep.Slices
namespace Go.Proofs.YthokhnbecgkpbaaDoor
open Go.ChangeShapes Go.WideShapes Go.ChangeAt Go.RowKit Go.Deep

section
variable {H : Type} {enc : TypeId × Value → H} {W : World}
theorem ccS : Tryd.prog.cellsOf 26 = 7 ∧ Tryd.prog.cellsOf 24 = 5 ∧ Tryd.prog.cellsOf 3 = 1 ∧ Tryd.prog.cellsOf 9 = 1 ∧ Tryd.prog.cellsOf 22 = 1 ∧ Tryd.prog.cellsOf 38 = 3 := ⟨by kernel_rfl, by kernel_rfl, by kernel_rfl, by kernel_rfl, by kernel_rfl, by kernel_rfl⟩
theorem mem_weightsAll {P : Program} {e : TypeId} {d : DataW H} {n : Nat} : ∀ {l : List (DataW H)}, d ∈ l → n ∈ d.weights P e → n ∈ DataW.weightsAll P e l
  | [], h, _ => by cases h
  | a :: r, h, hn => by
    unfold DataW.weightsAll
    rcases List.mem_cons.1 h with rfl | h
    · exact List.mem_append_left _ hn
    · exact List.mem_append_right _ (mem_weightsAll h hn)
theorem lt_of_cellAt {w : World} {a : Addr} {v : Value} (h : w.cell? a = some v) : a.block < w.heap.size := lt_of_cell h
theorem open_strs {fuel : Nat} {cs : List Value} {x : DataW H × List MemPlace} (h : DataW.trod enc Tryd.prog W 0 (fun _ => true) true fuel 22 cs = some x) (hw : ∀ n ∈ x.1.weights Tryd.prog 22, n ≤ reachBytes) :
    ∃ ao cap L, cs = [.slice ao L.length cap] ∧ SsAt W ao L ∧ L.length ≤ 140737488355328 ∧ (∀ y ∈ L, y.size ≤ 140737488355328) := by
  have hc1 : Tryd.prog.cellsOf 9 = 1 := by kernel_rfl
  rcases open_slice Tryd.underlying22 h with ⟨rfl, rfl⟩ | ⟨a, len, cap, m, n, D, Pl, rfl, hb, hl, hm, hmm, rfl, hx⟩
  · exact ⟨none, 0, [], rfl, Or.inl rfl, by simp, fun y hy => by cases hy⟩
  simp at hmm
  subst hmm
  have hwd : ∀ d, d ∈ (List.range len).map D → ∀ k ∈ d.weights Tryd.prog 9, k ≤ reachBytes := fun d hd k hk => hw k (by
    show k ∈ (DataW.slice _ _ : DataW H).weights Tryd.prog 22
    unfold DataW.weights
    simp only [Tryd.underlying22]
    exact List.mem_cons_of_mem _ (List.mem_append_left _ (mem_weightsAll hd hk)))
  have hlen47 : len ≤ 140737488355328 := by
    have := hw (((List.range len).map D).length * 0 + (((List.range len).map D).length + ((List.range (m - len)).map fun j => D (len + j)).length) * Tryd.prog.bytesOf 9) (by
      show _ ∈ (DataW.slice _ _ : DataW H).weights Tryd.prog 22
      unfold DataW.weights
      simp only [Tryd.underlying22]
      rw [Nat.mul_zero, Nat.zero_add]
      exact List.mem_cons_self)
    rw [show Tryd.prog.bytesOf 9 = 16 by kernel_rfl] at this
    simp at this
    have := reachBytes_lt
    omega
  have each : ∀ i, i < len → ∃ s : ByteArray, W.cell? (a.add i) = some (.string s) ∧ s.size ≤ 140737488355328 := by
    intro i hi
    obtain ⟨cs', h1, h2⟩ := hx i (by omega)
    rw [hc1] at h1
    obtain ⟨_, hlen, hcell⟩ := World.cells?_some h1
    obtain ⟨sb, e0, e1, _⟩ := DataW.trod_string Tryd.underlying9 h2
    subst e0
    have hc := hcell 0 (by omega)
    rw [Nat.mul_one, add_add] at hc
    refine ⟨sb, by simpa using hc, ?_⟩
    have hD : D i = .lit (.string sb.data.toList) := by simpa using congrArg Prod.fst e1
    have h := hwd (D i) (List.mem_map.2 ⟨i, List.mem_range.2 hi, rfl⟩) sb.data.toList.length (by rw [hD]; simp [DataW.weights])
    simp only [reachBytes] at h
    have e : sb.data.toList.length = sb.size := by simp
    omega
  have inh : Inhabited ByteArray := ⟨⟨#[]⟩⟩
  obtain ⟨q, hq⟩ := choose_lt each
  have hlen : ((List.range len).map q).length = len := by simp
  refine ⟨some a, m, (List.range len).map q, by rw [hlen], ?_, by omega, fun y hy => ?_⟩
  · by_cases h0 : len = 0
    · left; subst h0; rfl
    · right
      have c0 := (hq 0 (by omega)).1
      have hspot : a.spot = none := by simpa [Addr.add] using World.cell?_spot c0
      obtain ⟨b, off, sp⟩ := a
      simp only at hspot
      subst hspot
      refine ⟨b, off, rfl, ?_, fun k hk => ?_⟩
      · have := lt_of_cellAt c0
        rw [add_none] at this
        exact this
      · rw [hlen] at hk
        have hc := (hq k hk).1
        rw [add_none] at hc
        rw [hc]
        simp
  · obtain ⟨i, hi, rfl⟩ := List.mem_map.1 hy
    exact (hq i (List.mem_range.1 hi)).2
set_option maxRecDepth 100000 in
theorem open_case {r : Reach} {b0 : Nat} {v : Value} {dd : DataW H} {ps : List MemPlace} (hval : Value.okWide Tryd.prog W r b0 26 v) (hd : DataW.Trod enc Tryd.prog W 0 (fun _ => true) true 26 v dd ps) (hw : ∀ n ∈ dd.weights Tryd.prog 26, n ≤ reachBytes) :
    ∃ (ao : Option Addr) (cap : Nat) (L : List ByteArray) (K : Int) (sh : ByteArray) (At N : Int) (nm own : ByteArray), v = .agg #[.slice ao L.length cap, .int .i64 K, .string sh, .int .i64 At, .int .i64 N, .string nm, .string own] ∧ SsAt W ao L ∧ L.length ≤ 140737488355328 ∧ (∀ y ∈ L, y.size ≤ 140737488355328) ∧ sh.size ≤ 140737488355328 ∧ nm.size ≤ 140737488355328 ∧ own.size ≤ 140737488355328 ∧ (Lit.int .i64 K).wf = true ∧ (Lit.int .i64 At).wf = true ∧ (Lit.int .i64 N).wf = true := by
  obtain ⟨c7, c5, c1, cS, cL, _⟩ := ccS
  simp only [Value.okWide, Tryd.underlying26] at hval
  obtain ⟨cs, rfl, hs, _⟩ := hval
  rw [c7] at hs
  obtain ⟨l⟩ := cs
  match l, hs with
  | [v0, v1, v2, v3, v4, v5, v6], _ =>
    obtain ⟨fuel, hf⟩ := hd
    obtain ⟨xs, k, _, hxy, _, hxl, hf⟩ := DataW.trod_struct Tryd.underlying26 hf
    match xs, hxl with
    | [y0, y1, y2], _ =>
      have g0 := hf 0 _ rfl
      have g1 := hf 1 _ rfl
      have g2 := hf 2 _ rfl
      simp [c5, cS, cL, Value.cells] at g0 g1 g2
      simp only [Prod.mk.injEq] at hxy
      have hdd : dd = .agg [y0.1, y1.1, y2.1] := by rw [hxy.1]; rfl
      have w0 : ∀ n ∈ y0.1.weights Tryd.prog 22, n ≤ reachBytes := fun n hn => hw n (by
        rw [hdd]
        unfold DataW.weights
        rw [Tryd.underlying26]
        simp only
        unfold DataW.weightsEach
        exact List.mem_append_left _ hn)
      have w1 : ∀ n ∈ y1.1.weights Tryd.prog 24, n ≤ reachBytes := fun n hn => hw n (by
        rw [hdd]
        unfold DataW.weights
        rw [Tryd.underlying26]
        simp only
        unfold DataW.weightsEach
        refine List.mem_append_right _ ?_
        unfold DataW.weightsEach
        exact List.mem_append_left _ hn)
      have w2 : ∀ n ∈ y2.1.weights Tryd.prog 9, n ≤ reachBytes := fun n hn => hw n (by
        rw [hdd]
        unfold DataW.weights
        rw [Tryd.underlying26]
        simp only
        unfold DataW.weightsEach
        refine List.mem_append_right _ ?_
        unfold DataW.weightsEach
        refine List.mem_append_right _ ?_
        unfold DataW.weightsEach
        exact List.mem_append_left _ hn)
      obtain ⟨ao, cap, L, e0, hS, hl, hL⟩ := open_strs g0 w0
      obtain ⟨xs2, k2, _, hxy2, _, hxl2, hf2⟩ := DataW.trod_struct Tryd.underlying24 g1
      match xs2, hxl2 with
      | [z0, z1, z2, z3, z4], _ =>
        have j0 := hf2 0 _ rfl
        have j1 := hf2 1 _ rfl
        have j2 := hf2 2 _ rfl
        have j3 := hf2 3 _ rfl
        have j4 := hf2 4 _ rfl
        simp [c1, cS] at j0 j1 j2 j3 j4
        obtain ⟨K, f0, q0, wK⟩ := DataW.trod_int Tryd.underlying3 j0
        obtain ⟨sh, f1, q1, _⟩ := DataW.trod_string Tryd.underlying9 j1
        obtain ⟨At, f2, q2, wA⟩ := DataW.trod_int Tryd.underlying3 j2
        obtain ⟨N, f3, q3, wN⟩ := DataW.trod_int Tryd.underlying3 j3
        obtain ⟨nm, f4, q4, _⟩ := DataW.trod_string Tryd.underlying9 j4
        obtain ⟨own, f5, q5, _⟩ := DataW.trod_string Tryd.underlying9 g2
        simp only [List.cons.injEq, and_true] at e0 f0 f1 f2 f3 f4 f5
        subst e0 f0 f1 f2 f3 f4 f5
        have sz : ∀ (s : ByteArray), s.data.toList.length ≤ reachBytes → s.size ≤ 140737488355328 := fun s h => by
          simp only [reachBytes] at h
          have e : s.data.toList.length = s.size := by simp
          omega
        refine ⟨ao, cap, L, K, sh, At, N, nm, own, rfl, hS, hl, hL, sz sh (w1 _ ?_), sz nm (w1 _ ?_), sz own (w2 _ ?_), wK, wA, wN⟩
        · rw [hxy2]
          simp [DataW.weights, DataW.weightsEach, Tryd.underlying24, q0, q1, q2, q3, q4]
        · rw [hxy2]
          simp [DataW.weights, DataW.weightsEach, Tryd.underlying24, q0, q1, q2, q3, q4]
        · rw [q5]
          simp [DataW.weights]
set_option maxRecDepth 100000 in
theorem open_addr {r : Reach} {b0 : Nat} {v : Value} {dd : DataW H} {ps : List MemPlace} (hval : Value.okWide Tryd.prog W r b0 38 v) (hd : DataW.Trod enc Tryd.prog W 0 (fun _ => true) true 38 v dd ps) :
    ∃ (s r c : Int), v = .agg #[.int .i64 s, .int .i64 r, .int .i64 c] ∧ dd = .agg [.lit (.int .i64 s), .lit (.int .i64 r), .lit (.int .i64 c)] ∧ ps = [] ∧ (Lit.int .i64 s).wf = true ∧ (Lit.int .i64 r).wf = true ∧ (Lit.int .i64 c).wf = true := by
  obtain ⟨_, _, c1, _, _, c3⟩ := ccS
  simp only [Value.okWide, Tryd.underlying38] at hval
  obtain ⟨cs, rfl, hs, _⟩ := hval
  rw [c3] at hs
  obtain ⟨l⟩ := cs
  match l, hs with
  | [v0, v1, v2], _ =>
    obtain ⟨fuel, hf⟩ := hd
    obtain ⟨xs, k, _, hxy, _, hxl, hf⟩ := DataW.trod_struct Tryd.underlying38 hf
    match xs, hxl with
    | [y0, y1, y2], _ =>
      have g0 := hf 0 _ rfl
      have g1 := hf 1 _ rfl
      have g2 := hf 2 _ rfl
      simp [c1, Value.cells] at g0 g1 g2
      obtain ⟨n0, e0, rfl, w0⟩ := DataW.trod_int Tryd.underlying3 g0
      obtain ⟨n1, e1, rfl, w1⟩ := DataW.trod_int Tryd.underlying3 g1
      obtain ⟨n2, e2, rfl, w2⟩ := DataW.trod_int Tryd.underlying3 g2
      simp only [List.cons.injEq, and_true] at e0 e1 e2
      subst e0 e1 e2
      simp only [Prod.mk.injEq] at hxy
      exact ⟨n0, n1, n2, rfl, by rw [hxy.1]; rfl, by rw [hxy.2]; rfl, w0, w1, w2⟩
theorem shut_addr {sp : Nat → Bool} {s r c : Int} (w0 : (Lit.int .i64 s).wf = true) (w1 : (Lit.int .i64 r).wf = true) (w2 : (Lit.int .i64 c).wf = true) : DataW.Trod enc Tryd.prog W 0 sp true 38 (.agg #[.int .i64 s, .int .i64 r, .int .i64 c]) (.agg [.lit (.int .i64 s), .lit (.int .i64 r), .lit (.int .i64 c)]) [] := by
  obtain ⟨_, _, k1, _, _, k3⟩ := ccS
  exact ⟨2, by
    show DataW.trod enc Tryd.prog W 0 sp true (1 + 1) 38 [.int .i64 s, .int .i64 r, .int .i64 c] = _
    simp [DataW.trod, Tryd.underlying38, Tryd.underlying3, k3, k1, w0, w1, w2]⟩
end
#print axioms open_case
#print axioms shut_addr
end Go.Proofs.YthokhnbecgkpbaaDoor
