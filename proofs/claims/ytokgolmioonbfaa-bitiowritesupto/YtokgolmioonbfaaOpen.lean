/- What the reading of an argument says of memory: a slice of bytes; a slice of operations. -/
import Derived.Test.YtokgolmioonbfaaRows
import Derived.Test.YtokgolmioonbfaaFrame
import Derived.ProofKit
import Derived.OpenShut
import Derived.Deep.Slices
import Derived.SizedLaws
namespace Go.Proofs.Ytokgolmioonbfaa
open Go.ChangeShapes Go.WideShapes Go.ChangeAt Go.RowKit Go.Deep

theorem lt_of_cellAt {w : World} {a : Addr} {v : Value} (h : w.cell? a = some v) : a.block < w.heap.size := by
  rcases Nat.lt_or_ge a.block w.heap.size with h' | h'
  · exact h'
  · simp [World.cell?, Array.getElem?_eq_none h'] at h

/-- One operation as data. -/
structure OpD where
  kind : Int
  n : Int
  v : Nat
  data : List Nat

/-- The cells of one operation. -/
def OpAt (w : World) (b o : Nat) (kd n v : Int) (d : Value) : Prop :=
  w.cell? ⟨b, o, none⟩ = some (.int .i64 kd) ∧ w.cell? ⟨b, o + 1, none⟩ = some (.int .i64 n) ∧ w.cell? ⟨b, o + 2, none⟩ = some (.int .u32 v) ∧ w.cell? ⟨b, o + 3, none⟩ = some d

/-- One operation, as it lies. -/
def OpIs (w : World) (b o : Nat) (x : OpD) : Prop :=
  ∃ da dl dc, OpAt w b o x.kind x.n (x.v : Int) (.slice da dl dc) ∧ Bs w (.slice da dl dc) x.data ∧ (∀ y ∈ x.data, y < 256) ∧ x.v < 4294967296 ∧ -9223372036854775808 ≤ x.n ∧ x.n ≤ 9223372036854775807

/-- s is the slice of the operations X. -/
def OpsL (w : World) (s : Value) (X : List OpD) : Prop :=
  ∃ so cap, s = .slice so X.length cap ∧ X.length ≤ cap ∧ cap ≤ maxLen ∧ (X = [] ∨ ∃ b off, so = some ⟨b, off, none⟩ ∧ b < w.heap.size ∧ ∀ k (h : k < X.length), OpIs w b (off + k * 4) X[k])

section
variable {H : Type} {enc : TypeId × Value → H} {W : World}

theorem open_bytes {fuel : Nat} {cs : List Value} {x : DataW H × List MemPlace} (h : DataW.trod enc Try.prog W 0 (fun _ => true) true fuel 22 cs = some x) :
    ∃ v B, cs = [v] ∧ Bs W v B ∧ (∀ y ∈ B, y < 256) ∧ ((x.1 = .nil ∧ B = []) ∨ ∃ E S, x.1 = .slice E S ∧ E.length = B.length) := by
  rcases open_ints Try.underlying22 Try.underlying5 (by kernel_rfl) h with ⟨rfl, rfl⟩ | ⟨a, len, cap, zs, rfl, _, hl, hm, hz, rfl, hcell, hwz⟩
  · exact ⟨_, [], rfl, ⟨none, 0, rfl, Nat.le_refl _, by unfold maxLen; omega, fun _ => rfl, Or.inl rfl⟩, by simp, Or.inl ⟨rfl, rfl⟩⟩
  · simp at hz
    have hlen : ((zs.take len).map Int.toNat).length = len := by simp; omega
    refine ⟨_, (zs.take len).map Int.toNat, rfl, ⟨some a, cap, by rw [hlen], by omega, hm, by simp, ?_⟩, ?_, Or.inr ⟨_, _, rfl, by simp [lits]⟩⟩
    · by_cases h0 : len = 0
      · left; subst h0; simp
      · right
        have c0 := hcell 0 (by omega)
        have hspot : a.spot = none := by simpa [Addr.add] using World.cell?_spot c0
        obtain ⟨b, off, sp⟩ := a
        simp only at hspot
        subst hspot
        refine ⟨b, off, rfl, ?_, fun i hi => ?_⟩
        · have := lt_of_cellAt c0
          rw [add_none] at this
          exact this
        · rw [hlen] at hi
          have c := hcell i (by omega)
          rw [add_none] at c
          have hw := bounds_u8 (hwz (zs.getD i 0) (by
            have : i < zs.length := by omega
            simp [this]))
          rw [c]
          have hi' : i < zs.length := by omega
          simp [hi'] at hw ⊢
          omega
    · intro y hy
      simp only [List.mem_map] at hy
      obtain ⟨z, hz', rfl⟩ := hy
      have := bounds_u8 (hwz z (List.mem_of_mem_take hz'))
      omega

theorem bulk_pos (d : DataW H) : 1 ≤ Rows.uptoBulk d := by
  cases d with
  | lit l => cases l <;> simp [Rows.uptoBulk]
  | _ => simp [Rows.uptoBulk]

theorem bulkAll_len (E : List (DataW H)) : E.length ≤ Rows.uptoBulkAll E := by
  induction E with
  | nil => simp [Rows.uptoBulkAll]
  | cons d E ih => have := bulk_pos d; simp [Rows.uptoBulkAll]; omega

theorem open_op {n : Nat} {cs : List Value} {x : DataW H × List MemPlace} (h : DataW.trod enc Try.prog W 0 (fun _ => true) true n 31 cs = some x) :
    ∃ (o : OpD) (da : Option Addr) (dl dc : Nat), cs = [.int .i64 o.kind, .int .i64 o.n, .int .u32 (o.v : Int), .slice da dl dc] ∧ Bs W (.slice da dl dc) o.data ∧ (∀ y ∈ o.data, y < 256) ∧ o.v < 4294967296 ∧ -9223372036854775808 ≤ o.n ∧ o.n ≤ 9223372036854775807 ∧ o.data.length + 1 ≤ Rows.uptoBulk x.1 := by
  obtain ⟨xs, k, _, hxy, hcl, hxl, hf⟩ := DataW.trod_struct Try.underlying31 h
  have hc4 : Try.prog.cellsOf 31 = 4 := by kernel_rfl
  have c3 : Try.prog.cellsOf 3 = 1 := by kernel_rfl
  have c29 : Try.prog.cellsOf 29 = 1 := by kernel_rfl
  have c22 : Try.prog.cellsOf 22 = 1 := by kernel_rfl
  rw [hc4] at hcl
  match xs, hxl, cs, hcl with
  | [y0, y1, y2, y3], _, [v0, v1, v2, v3], _ =>
    have g0 := hf 0 _ rfl
    have g1 := hf 1 _ rfl
    have g2 := hf 2 _ rfl
    have g3 := hf 3 _ rfl
    simp [c3, c29, c22] at g0 g1 g2 g3
    obtain ⟨kd, e0, rfl, w0⟩ := DataW.trod_int Try.underlying3 g0
    obtain ⟨nn, e1, rfl, w1⟩ := DataW.trod_int Try.underlying3 g1
    obtain ⟨vv, e2, rfl, w2⟩ := DataW.trod_int Try.underlying29 g2
    obtain ⟨dv, B, e3, hB, hb, hx⟩ := open_bytes g3
    simp only [List.cons.injEq, and_true] at e0 e1 e2 e3
    subst e0 e1 e2 e3
    have b1 := bounds_i64 w1
    have b2 := bounds_u32 w2
    obtain ⟨da, dc, rfl⟩ : ∃ da dc, v3 = .slice da B.length dc := by obtain ⟨da, dc, h, _⟩ := hB; exact ⟨da, dc, h⟩
    refine ⟨⟨kd, nn, vv.toNat, B⟩, da, B.length, dc, ?_, hB, hb, by simp only; omega, by simp only; omega, by simp only; omega, ?_⟩
    · simp only [List.cons.injEq, Value.int.injEq, true_and, and_true]
      omega
    · subst hxy
      simp only [List.map_cons, List.map_nil, Rows.uptoBulk, Rows.uptoBulkAll]
      rcases hx with ⟨_, rfl⟩ | ⟨E, S, hE, hl⟩
      · simp
      · rw [hE]
        have := bulkAll_len E
        simp [Rows.uptoBulk]
        omega

theorem sum_bulk (f : Nat → Nat) (D : Nat → DataW H) (l : List Nat) (h : ∀ i ∈ l, f i ≤ Rows.uptoBulk (D i)) : (l.map f).sum ≤ Rows.uptoBulkAll (l.map D) := by
  induction l with
  | nil => simp [Rows.uptoBulkAll]
  | cons i l ih =>
    have h1 := h i (by simp)
    have h2 := ih (fun j hj => h j (by simp [hj]))
    simp only [List.map_cons, List.sum_cons, Rows.uptoBulkAll]
    omega

theorem open_ops {fuel : Nat} {cs : List Value} {x : DataW H × List MemPlace} (h : DataW.trod enc Try.prog W 0 (fun _ => true) true fuel 23 cs = some x) :
    ∃ v X, cs = [v] ∧ OpsL W v X ∧ ((x.1 = .nil ∧ X = []) ∨ ∃ E S, x.1 = .slice E S ∧ E.length = X.length ∧ (X.map fun o => o.data.length + 1).sum ≤ Rows.uptoBulkAll E) := by
  have hc4 : Try.prog.cellsOf 31 = 4 := by kernel_rfl
  rcases open_slice Try.underlying23 h with ⟨rfl, rfl⟩ | ⟨a, len, cap, m, n, D, Pl, rfl, hb, hl, hm, hmm, rfl, hx⟩
  · exact ⟨_, [], rfl, ⟨none, 0, rfl, Nat.le_refl _, by unfold maxLen; omega, Or.inl rfl⟩, Or.inl ⟨rfl, rfl⟩⟩
  simp at hmm
  subst hmm
  have each : ∀ i, i < len → ∃ o : OpD, (∃ da dl dc, (∀ j v, [Value.int .i64 o.kind, .int .i64 o.n, .int .u32 (o.v : Int), .slice da dl dc][j]? = some v → W.cell? (a.add (i * 4 + j)) = some v) ∧ Bs W (.slice da dl dc) o.data ∧ (∀ y ∈ o.data, y < 256) ∧ o.v < 4294967296 ∧ -9223372036854775808 ≤ o.n ∧ o.n ≤ 9223372036854775807) ∧ o.data.length + 1 ≤ Rows.uptoBulk (D i) := by
    intro i hi
    obtain ⟨cs', h1, h2⟩ := hx i (by omega)
    rw [hc4] at h1
    obtain ⟨_, hlen, hcell⟩ := World.cells?_some h1
    obtain ⟨o, da, dl, dc, rfl, r⟩ := open_op h2
    refine ⟨o, ⟨da, dl, dc, fun j v hj => ?_, r.1, r.2.1, r.2.2.1, r.2.2.2.1, r.2.2.2.2.1⟩, r.2.2.2.2.2⟩
    have hj4 : j < 4 := by
      rcases Nat.lt_or_ge j 4 with h' | h'
      · exact h'
      · rw [List.getElem?_eq_none (by simpa using h')] at hj; cases hj
    have := hcell j hj4
    rw [add_add] at this
    rw [this, hj]
  have inh : Inhabited OpD := ⟨⟨0, 0, 0, []⟩⟩
  obtain ⟨q, hq⟩ := choose_lt each
  have hlen : ((List.range len).map q).length = len := by simp
  refine ⟨_, (List.range len).map q, rfl, ⟨some a, m, by rw [hlen], by omega, hm, ?_⟩, Or.inr ⟨_, _, rfl, by simp, ?_⟩⟩
  · by_cases h0 : len = 0
    · left; subst h0; rfl
    · right
      obtain ⟨da, dl, dc, hc, _⟩ := (hq 0 (by omega)).1
      have c0 := hc 0 _ rfl
      have hspot : a.spot = none := by simpa [Addr.add] using World.cell?_spot c0
      obtain ⟨b, off, sp⟩ := a
      simp only at hspot
      subst hspot
      refine ⟨b, off, rfl, ?_, fun k hk => ?_⟩
      · have := lt_of_cellAt c0
        rw [add_none] at this
        exact this
      · rw [hlen] at hk
        obtain ⟨da, dl, dc, hc, r⟩ := (hq k hk).1
        have t0 := hc 0 _ rfl
        have t1 := hc 1 _ rfl
        have t2 := hc 2 _ rfl
        have t3 := hc 3 _ rfl
        rw [add_none] at t0 t1 t2 t3
        have e : ((List.range len).map q)[k]'(by rw [hlen]; exact hk) = q k := by simp
        rw [e]
        exact ⟨da, dl, dc, ⟨t0, t1, t2, t3⟩, r⟩
  · rw [List.map_map]
    exact sum_bulk _ _ _ (fun i hi => (hq i (List.mem_range.1 hi)).2)
end
#print axioms open_ops
end Go.Proofs.Ytokgolmioonbfaa
