/- Slices of numbers, and arrays of sixteen numbers, as they lie in memory. No Go text here. -/
import Derived.Test.YthgnhcdodfildaaDoorChecked
import Derived.Test.YthgnhcdodfildaaDoorFrame
import Derived.Test.YthgnhcdodfildaaDoorK03
namespace Go.Proofs.YthgnhcdodfildaaDoor
open Go.RowKit

/-- Sixteen numbers of a kind, as cells. -/
def A16 (k : IntKind) (f : Nat → Nat) : Array Value := ((List.range 16).map fun i => Value.int k ((f i : Nat) : Int)).toArray
@[simp] theorem A16_size (k : IntKind) (f : Nat → Nat) : (A16 k f).size = 16 := by simp [A16]
theorem A16_get (k : IntKind) (f : Nat → Nat) (i : Nat) (h : i < 16) : (A16 k f)[i]? = some (.int k ((f i : Nat) : Int)) := by simp [A16, h]
theorem A16_one (k : IntKind) (f : Nat → Nat) : (A16 k f).all (·.oneCell') = true := by
  rw [Array.all_eq_true_iff_forall_mem]
  intro v hv
  simp [A16] at hv
  obtain ⟨i, _, rfl⟩ := hv
  rfl
theorem A16_set (k : IntKind) (f : Nat → Nat) (i v : Nat) : (A16 k f).setIfInBounds i (.int k (v : Int)) = A16 k (upd f i v) := by
  apply Array.ext
  · simp
  · intro j h1 h2
    have hj : j < 16 := by simpa using h2
    simp only [A16, upd]
    by_cases e : i = j
    · subst e; simp
    · simp [e, show ¬ j = i by omega]
theorem A16_cells (k : IntKind) (f : Nat → Nat) : (Value.agg (A16 k f)).cells = A16 k f := rfl

/-- v is a slice of numbers of a kind, which read L. -/
def Ns (k : IntKind) (w : World) (v : Value) (L : List Int) : Prop :=
  ∃ ao cap, v = .slice ao L.length cap ∧ L.length ≤ cap ∧ cap ≤ maxLen ∧ (ao = none → cap = 0) ∧ (L = [] ∨ ∃ b off, ao = some ⟨b, off, none⟩ ∧ b < w.heap.size ∧ ∀ i (h : i < L.length), w.cell? ⟨b, off + i, none⟩ = some (.int k L[i]))

theorem Ns.fr {k : IntKind} {w w' : World} {v : Value} {L : List Int} {S : Nat → Prop} (h : Ns k w v L) (hf : Fr S w w') (hs : ∀ ao len cap b off, v = .slice ao len cap → ao = some ⟨b, off, none⟩ → ¬ S b) : Ns k w' v L := by
  obtain ⟨ao, cap, rfl, h1, h2, h4, h3⟩ := h
  refine ⟨ao, cap, rfl, h1, h2, h4, ?_⟩
  rcases h3 with h3 | ⟨b, off, rfl, hb, hc⟩
  · exact Or.inl h3
  · exact Or.inr ⟨b, off, rfl, Nat.lt_of_lt_of_le hb hf.size, fun i hi => (hf.cell (a := ⟨b, off + i, none⟩) hb (hs _ _ _ b off rfl rfl)).trans (hc i hi)⟩
theorem Ns.keep {k : IntKind} {w w' : World} {v : Value} {L : List Int} (h : Ns k w v L) (hf : Fr noB w w') : Ns k w' v L := h.fr hf (fun _ _ _ _ _ _ _ => id)
/-- Where the elements lie. -/
def NsAt (k : IntKind) (w : World) (ao : Option Addr) (L : List Int) : Prop := L = [] ∨ ∃ b off, ao = some ⟨b, off, none⟩ ∧ b < w.heap.size ∧ ∀ i (h : i < L.length), w.cell? ⟨b, off + i, none⟩ = some (.int k L[i])
theorem NsAt.keep {k : IntKind} {w w' : World} {ao : Option Addr} {L : List Int} (h : NsAt k w ao L) (hf : Fr noB w w') : NsAt k w' ao L := by
  rcases h with h | ⟨b, off, rfl, hb, hc⟩
  · exact Or.inl h
  · exact Or.inr ⟨b, off, rfl, Nat.lt_of_lt_of_le hb hf.size, fun i hi => (hf.cell (a := ⟨b, off + i, none⟩) hb id).trans (hc i hi)⟩
theorem NsAt.get {k : IntKind} {w : World} {ao : Option Addr} {L : List Int} (h : NsAt k w ao L) (i : Nat) (hi : i < L.length) : ∃ b off, ao = some ⟨b, off, none⟩ ∧ b < w.heap.size ∧ w.cell? ⟨b, off + i, none⟩ = some (.int k L[i]) := by
  rcases h with h | ⟨b, off, rfl, hb, hc⟩
  · subst h; simp at hi
  · exact ⟨b, off, rfl, hb, hc i hi⟩

theorem Fr.setRow {S : Nat → Prop} {a w : World} (h : Fr S a w) (g : Nat) (hp : S g ∨ a.heap.size ≤ g) (cs : Array Value) : Fr S a (w.setRow g cs) :=
  ⟨h.os, h.tape, h.output, by simpa [World.setRow] using h.size, fun k hk hs => by
    have hne : g ≠ k := by rintro rfl; rcases hp with hp | hp; exact hs hp; omega
    rw [← h.block k hk hs]
    simp [World.setRow, Array.getElem?_modify, hne]⟩
theorem A16_cellOf {w : World} {b : Nat} {t : TypeId} {k : IntKind} {f : Nat → Nat} (h : w.heap[b]? = some (.cells (A16 k f) t (0, 0))) (i : Nat) (hi : i < 16) : w.cell? ⟨b, i, none⟩ = some (.int k ((f i : Nat) : Int)) := cellOf h (A16_get k f i hi)
/-- Block b holds sixteen numbers. -/
def ArrAt (w : World) (b : Nat) (t : TypeId) (k : IntKind) (f : Nat → Nat) : Prop := w.heap[b]? = some (.cells (A16 k f) t (0, 0))
theorem ArrAt.set {w : World} {b : Nat} {t : TypeId} {k : IntKind} {f : Nat → Nat} (h : ArrAt w b t k f) (i v : Nat) : ArrAt (w.setCell ⟨b, i, none⟩ (.int k (v : Int))) b t k (upd f i v) := by
  have := setOf i (.int k (v : Int)) h
  rw [A16_set] at this
  exact this
theorem ArrAt.set_ne {w : World} {b c : Nat} {t : TypeId} {k : IntKind} {f : Nat → Nat} (h : ArrAt w b t k f) (hne : b ≠ c) (o : Nat) (v : Value) : ArrAt (w.setCell ⟨c, o, none⟩ v) b t k f := by
  unfold ArrAt
  rw [Below.heap_setCell _ _ _ _ hne]
  exact h
theorem ArrAt.keep {S : Nat → Prop} {w w' : World} {b : Nat} {t : TypeId} {k : IntKind} {f : Nat → Nat} (h : ArrAt w b t k f) (hF : Fr S w w') (hs : ¬ S b) : ArrAt w' b t k f := hF.obj h hs

/-- Numbers as values of a kind. -/
def nVals (k : IntKind) (C : List Nat) : List Value := C.map fun x : Nat => Value.int k (x : Int)
@[simp] theorem nVals_length (k : IntKind) (C : List Nat) : (nVals k C).length = C.length := by simp [nVals]
theorem nVals_get (k : IntKind) (C : List Nat) (i : Nat) (h : i < C.length) : (nVals k C)[i]? = some (.int k ((C[i] : Nat) : Int)) := by simp [nVals, h]
theorem nVals_set (k : IntKind) (C : List Nat) (i v : Nat) : (nVals k C).set i (.int k (v : Int)) = nVals k (C.set i v) := by simp [nVals, List.map_set]
theorem nVals_one (k : IntKind) (C : List Nat) : ∀ v ∈ nVals k C, v.oneCell' = true := by
  intro v hv
  simp [nVals] at hv
  obtain ⟨x, _, rfl⟩ := hv
  rfl
/-- Block g is a row of the numbers C. -/
def RowN (w : World) (g : Nat) (e : TypeId) (k : IntKind) (C : List Nat) : Prop := w.heap[g]? = some (.cells (nVals k C).toArray e (0, 0))
theorem RowN.keep {S : Nat → Prop} {w w' : World} {g : Nat} {e : TypeId} {k : IntKind} {C : List Nat} (h : RowN w g e k C) (hF : Fr S w w') (hs : ¬ S g) : RowN w' g e k C := hF.obj h hs
theorem RowN.set {w : World} {g : Nat} {e : TypeId} {k : IntKind} {C : List Nat} (h : RowN w g e k C) (i v : Nat) : RowN (w.setCell ⟨g, i, none⟩ (.int k (v : Int))) g e k (C.set i v) := by
  have := setOf i (.int k (v : Int)) h
  rw [List.setIfInBounds_toArray, nVals_set] at this
  exact this
theorem RowN.set_ne {w : World} {g c : Nat} {e : TypeId} {k : IntKind} {C : List Nat} (h : RowN w g e k C) (hne : g ≠ c) (o : Nat) (v : Value) : RowN (w.setCell ⟨c, o, none⟩ v) g e k C := by
  unfold RowN
  rw [Below.heap_setCell _ _ _ _ hne]
  exact h
theorem RowN.cell {w : World} {g : Nat} {e : TypeId} {k : IntKind} {C : List Nat} (h : RowN w g e k C) (i : Nat) (hi : i < C.length) : w.cell? ⟨g, i, none⟩ = some (.int k ((C[i] : Nat) : Int)) :=
  cellOf h (by simpa using nVals_get k C i hi)
theorem RowN.ns {w : World} {g : Nat} {e : TypeId} {k : IntKind} {C : List Nat} (h : RowN w g e k C) (hl : C.length ≤ maxLen) : Ns k w (.slice (some ⟨g, 0, none⟩) C.length C.length) (up C) :=
  ⟨_, C.length, by rw [length_up], by simp, hl, by simp, Or.inr ⟨g, 0, rfl, lt_of_block h, fun i hi => by
    rw [up_get C i (by simpa using hi), Nat.zero_add]; exact h.cell i (by simpa using hi)⟩⟩
theorem made_nums {w : World} {base g n : Nat} {e : TypeId} {k : IntKind} (h : w.ownsRow base e 1 (.slice (some ⟨g, 0, none⟩) n n) n (madeCells #[Value.int k 0] n).toList) : RowN w g e k (List.replicate n 0) := by
  obtain ⟨_, h2⟩ := h
  rcases h2 with ⟨h2, _⟩ | ⟨g', cap, cur, hv, hg, hh, h3, h4, h5, h6⟩
  · cases h2
  · simp at hv
    obtain ⟨rfl, rfl⟩ := hv
    have e1 : cur.toList = (madeCells #[Value.int k 0] n).toList := by
      rw [← h6, List.take_of_length_le (by simp; omega)]
    have e2 : (madeCells #[Value.int k 0] n).toList = nVals k (List.replicate n 0) := by
      apply List.ext_getElem
      · simp [madeCells, nVals]
      · intro i h1 h2
        simp [madeCells, nVals, Nat.mod_one]
    unfold RowN
    rw [hh, ← e2, ← e1]

theorem Tryd.infoBL : (Tryd.prog.info? 122).map (·.size) = some 16 := by kernel_rfl
theorem Tryd.infoAU : (Tryd.prog.info? 119).map (·.size) = some 16 := by kernel_rfl
theorem infoBL (f : Nat → Nat) (k : IntKind) : (Tryd.prog.info? 122).map (·.size) = some (A16 k f).size := by rw [A16_size]; exact Tryd.infoBL
theorem infoAU (f : Nat → Nat) (k : IntKind) : (Tryd.prog.info? 119).map (·.size) = some (A16 k f).size := by rw [A16_size]; exact Tryd.infoAU

/-- An array is read at an index. -/
theorem index_BL (f : Nat → Nat) (i : Nat) (h : i < 16) (w : World) : (Instr.index 122 (.agg (A16 .i64 f)) (.int .i64 (i : Int))).run Tryd.prog w = .ok (.int .i64 ((f i : Nat) : Int)) w := by
  have e : i = 0 ∨ i = 1 ∨ i = 2 ∨ i = 3 ∨ i = 4 ∨ i = 5 ∨ i = 6 ∨ i = 7 ∨ i = 8 ∨ i = 9 ∨ i = 10 ∨ i = 11 ∨ i = 12 ∨ i = 13 ∨ i = 14 ∨ i = 15 := by omega
  rcases e with rfl | rfl | rfl | rfl | rfl | rfl | rfl | rfl | rfl | rfl | rfl | rfl | rfl | rfl | rfl | rfl <;> (show _ = _; kernel_rfl)
#print axioms index_BL
end Go.Proofs.YthgnhcdodfildaaDoor
