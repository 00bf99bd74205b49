/- What the reading of an argument says of memory: a slice of entries. -/
import Derived.Test.YtlhikoomghbnjaaGreatDoorZOpn
import Derived.Test.YtlhikoomghbnjaaGreatDoorZEnt
namespace Go.Proofs.YtlhikoomghbnjaaGreatDoor
open Go.ChangeShapes Go.WideShapes Go.ChangeAt Go.RowKit Go.Deep

section
variable {H : Type} {enc : TypeId × Value → H} {W : World}
set_option maxRecDepth 100000 in
theorem open_entry {n : Nat} {cs : List Value} {x : DataW H × List MemPlace} (h : DataW.trod enc Tryz.prog W 0 (fun _ => true) true n 29 cs = some x) :
    ∃ (o : Ent) (B : List Nat), cs = [.string o.nm, .slice o.ao o.len o.cap, .bool o.st] ∧ Bs W (.slice o.ao o.len o.cap) B ∧ (∀ y ∈ B, y < 256) ∧ (∃ d0 d1 d2, x.1 = .agg [d0, d1, d2] ∧ ((d1 = .nil ∧ B = []) ∨ ∃ E S, d1 = .slice E S ∧ E.length = B.length)) := by
  obtain ⟨xs, k, _, hxy, hcl, hxl, hf⟩ := DataW.trod_struct Tryz.underlying29 h
  have hc3 : Tryz.prog.cellsOf 29 = 3 := by kernel_rfl
  have c9 : Tryz.prog.cellsOf 9 = 1 := by kernel_rfl
  have c22 : Tryz.prog.cellsOf 22 = 1 := by kernel_rfl
  have c4 : Tryz.prog.cellsOf 4 = 1 := by kernel_rfl
  rw [hc3] at hcl
  match xs, hxl, cs, hcl with
  | [y0, y1, y2], _, [v0, v1, v2], _ =>
    have g0 := hf 0 _ rfl
    have g1 := hf 1 _ rfl
    have g2 := hf 2 _ rfl
    simp [c9, c22, c4] at g0 g1 g2
    obtain ⟨sb, e0, _⟩ := DataW.trod_string Tryz.underlying9 g0
    obtain ⟨dv, B, e1, hB, hb, hx⟩ := open_bs g1
    obtain ⟨bv, e2, _⟩ := DataW.trod_bool Tryz.underlying4 g2
    simp only [List.cons.injEq, and_true] at e0 e1 e2
    subst e0 e1 e2
    obtain ⟨da, dc, rfl⟩ : ∃ da dc, v1 = .slice da B.length dc := by obtain ⟨da, dc, h, _⟩ := hB; exact ⟨da, dc, h⟩
    refine ⟨⟨sb, da, B.length, dc, bv⟩, B, rfl, hB, hb, ?_⟩
    subst hxy
    exact ⟨_, _, _, rfl, hx⟩
theorem mem_weightsAll {P : Program} {e : TypeId} {d : DataW H} {n : Nat} : ∀ {l : List (DataW H)}, d ∈ l → n ∈ d.weights P e → n ∈ DataW.weightsAll P e l
  | [], h, _ => by cases h
  | a :: r, h, hn => by
    unfold DataW.weightsAll
    rcases List.mem_cons.1 h with rfl | h
    · exact List.mem_append_left _ hn
    · exact List.mem_append_right _ (mem_weightsAll h hn)
/-- The bytes of an entry are not longer than its reading weighs. -/
theorem entry_weight {d0 d1 d2 : DataW H} {B : List Nat} (hx : (d1 = .nil ∧ B = []) ∨ ∃ E S, d1 = .slice E S ∧ E.length = B.length) (hw : ∀ n ∈ (DataW.agg [d0, d1, d2] : DataW H).weights Tryz.prog 29, n ≤ reachBytes) : B.length ≤ 140737488355328 := by
  rcases hx with ⟨_, rfl⟩ | ⟨E, S, rfl, hl⟩
  · simp
  · have hm : (E.length + S.length) * Tryz.prog.bytesOf 5 ∈ (DataW.agg [d0, .slice E S, d2] : DataW H).weights Tryz.prog 29 := by
      unfold DataW.weights
      rw [Tryz.underlying29]
      simp only
      unfold DataW.weightsEach
      refine List.mem_append_right _ ?_
      unfold DataW.weightsEach
      refine List.mem_append_left _ ?_
      unfold DataW.weights
      simp only [Tryz.underlying22]
      exact List.mem_cons_self
    have := hw _ hm
    rw [show Tryz.prog.bytesOf 5 = 1 by kernel_rfl] at this
    have := reachBytes_lt
    omega
theorem open_entries {fuel : Nat} {cs : List Value} {x : DataW H × List MemPlace} (h : DataW.trod enc Tryz.prog W 0 (fun _ => true) true fuel 27 cs = some x) (hw : ∀ n ∈ x.1.weights Tryz.prog 27, n ≤ reachBytes) :
    ∃ ao cap E, cs = [.slice ao E.length cap] ∧ EsAt W ao E ∧ E.length ≤ 140737488355328 ∧ (∀ i (hi : i < E.length), ∃ B, Bs W (.slice E[i].ao E[i].len E[i].cap) B ∧ (∀ y ∈ B, y < 256) ∧ B.length ≤ 140737488355328) := by
  have hc3 : Tryz.prog.cellsOf 29 = 3 := by kernel_rfl
  rcases open_slice Tryz.underlying27 h with ⟨rfl, rfl⟩ | ⟨a, len, cap, m, n, D, Pl, rfl, hb, hl, hm, hmm, rfl, hx⟩
  · exact ⟨none, 0, [], rfl, Or.inl rfl, by simp, fun i hi => by simp at hi⟩
  simp at hmm
  subst hmm
  have hwd : ∀ d, d ∈ (List.range len).map D → ∀ k ∈ d.weights Tryz.prog 29, k ≤ reachBytes := fun d hd k hk => hw k (by
    show k ∈ (DataW.slice _ _ : DataW H).weights Tryz.prog 27
    unfold DataW.weights
    simp only [Tryz.underlying27]
    exact List.mem_cons_of_mem _ (List.mem_append_left _ (mem_weightsAll hd hk)))
  have hlen47 : len ≤ 140737488355328 := by
    have := hw (((List.range len).map D).length * 0 + (((List.range len).map D).length + ((List.range (m - len)).map fun j => D (len + j)).length) * Tryz.prog.bytesOf 29) (by
      show _ ∈ (DataW.slice _ _ : DataW H).weights Tryz.prog 27
      unfold DataW.weights
      simp only [Tryz.underlying27]
      rw [Nat.mul_zero, Nat.zero_add]
      exact List.mem_cons_self)
    rw [show Tryz.prog.bytesOf 29 = 48 by kernel_rfl] at this
    simp at this
    have := reachBytes_lt
    omega
  have each : ∀ i, i < len → ∃ o : Ent, (∀ j v, [Value.string o.nm, .slice o.ao o.len o.cap, .bool o.st][j]? = some v → W.cell? (a.add (i * 3 + j)) = some v) ∧ ∃ B, Bs W (.slice o.ao o.len o.cap) B ∧ (∀ y ∈ B, y < 256) ∧ B.length ≤ 140737488355328 := by
    intro i hi
    obtain ⟨cs', h1, h2⟩ := hx i (by omega)
    rw [hc3] at h1
    obtain ⟨_, hlen, hcell⟩ := World.cells?_some h1
    obtain ⟨o, B, rfl, r1, r2, d0, d1, d2, hd, hdx⟩ := open_entry h2
    refine ⟨o, fun j v hj => ?_, B, r1, r2, entry_weight hdx (by
      have hd' : D i = .agg [d0, d1, d2] := hd
      rw [← hd']
      exact hwd (D i) (List.mem_map.2 ⟨i, List.mem_range.2 hi, rfl⟩))⟩
    have hj3 : j < 3 := by
      rcases Nat.lt_or_ge j 3 with h' | h'
      · exact h'
      · rw [List.getElem?_eq_none (by simpa using h')] at hj; cases hj
    have := hcell j hj3
    rw [add_add] at this
    rw [this, hj]
  have inh : Inhabited Ent := ⟨⟨⟨#[]⟩, none, 0, 0, false⟩⟩
  obtain ⟨q, hq⟩ := choose_lt each
  have hlen : ((List.range len).map q).length = len := by simp
  refine ⟨some a, m, (List.range len).map q, by rw [hlen], ?_, by omega, fun i hi => ?_⟩
  · by_cases h0 : len = 0
    · left; subst h0; rfl
    · right
      have c0 := (hq 0 (by omega)).1 0 _ rfl
      have hspot : a.spot = none := by simpa [Addr.add] using World.cell?_spot c0
      obtain ⟨b, off, sp⟩ := a
      simp only at hspot
      subst hspot
      refine ⟨b, off, rfl, ?_, fun k hk => ?_⟩
      · have := lt_of_cellAt c0
        rw [add_none] at this
        exact this
      · rw [hlen] at hk
        have hc := (hq k hk).1
        have t0 := hc 0 _ rfl
        have t1 := hc 1 _ rfl
        have t2 := hc 2 _ rfl
        rw [add_none] at t0 t1 t2
        have e : ((List.range len).map q)[k]'(by rw [hlen]; exact hk) = q k := by simp
        rw [e]
        exact ⟨t0, t1, t2⟩
  · rw [hlen] at hi
    have e : ((List.range len).map q)[i]'(by rw [hlen]; exact hi) = q i := by simp
    rw [e]
    exact (hq i hi).2
end
#print axioms open_entries
end Go.Proofs.YtlhikoomghbnjaaGreatDoor
