/- What the texts of zip lean on. -/
import Derived.Test.YtlhikoomghbnjaaGreatDoorProg
import Derived.Test.YtlhikoomghbnjaaGreatDoorFrame
import Derived.Test.YtlhikoomghbnjaaGreatDoorCrcM
import Derived.WalkKit
import Derived.WalkSpells
import Derived.WalkLawsBesides
import Derived.Laws.BitsAllLaws
import Derived.Laws.Rows
import Derived.Laws.Tables
import Derived.Deep.WholeRow
import Derived.Deep.RegionHeld3
import Derived.Deep.DrawnRows
namespace Go.Proofs.YtlhikoomghbnjaaGreatDoor
open Go.RowKit

theorem ret_int {k : IntKind} {a b : Int} (h : a = b) : Ending.returned (.int k a) = .returned (.int k b) := by rw [h]
theorem ret_bool {a b : Bool} (h : a = b) : Ending.returned (.bool a) = .returned (.bool b) := by rw [h]
/-- Where the bytes lie. -/
def BsAt (w : World) (ao : Option Addr) (B : List Nat) : Prop := B = [] ∨ ∃ b off, ao = some ⟨b, off, none⟩ ∧ b < w.heap.size ∧ ∀ i (h : i < B.length), w.cell? ⟨b, off + i, none⟩ = some (.int .u8 ((B[i] : Nat) : Int))
theorem BsAt.keep {w w' : World} {ao : Option Addr} {B : List Nat} (h : BsAt w ao B) (hf : Fr noB w w') : BsAt w' ao B := by
  rcases h with h | ⟨b, off, rfl, hb, hc⟩
  · exact Or.inl h
  · exact Or.inr ⟨b, off, rfl, Nat.lt_of_lt_of_le hb hf.size, fun i hi => (hf.cell (a := ⟨b, off + i, none⟩) hb id).trans (hc i hi)⟩
theorem BsAt.get {w : World} {ao : Option Addr} {B : List Nat} (h : BsAt w ao B) (i : Nat) (hi : i < B.length) : ∃ b off, ao = some ⟨b, off, none⟩ ∧ b < w.heap.size ∧ w.cell? ⟨b, off + i, none⟩ = some (.int .u8 ((B[i] : Nat) : Int)) := by
  rcases h with h | ⟨b, off, rfl, hb, hc⟩
  · subst h; simp at hi
  · exact ⟨b, off, rfl, hb, hc i hi⟩
theorem Fr.setRow' {S : Nat → Prop} {a w : World} (h : Fr S a w) (g : Nat) (hp : S g ∨ a.heap.size ≤ g) (cs : Array Value) : Fr S a (w.setRow g cs) :=
  ⟨h.os, h.tape, h.output, by simpa [World.setRow] using h.size, fun k hk hs => by
    have hne : g ≠ k := by rintro rfl; rcases hp with hp | hp; exact hs hp; omega
    rw [← h.block k hk hs]
    simp [World.setRow, Array.getElem?_modify, hne]⟩

/-- The table of what a byte comes to: 256 numbers, as cells. -/
def A256 (f : Nat → Nat) : Array Value := ((List.range 256).map fun i => Value.int .u32 ((f i : Nat) : Int)).toArray
@[simp] theorem A256_size (f : Nat → Nat) : (A256 f).size = 256 := by simp [A256]
theorem A256_get (f : Nat → Nat) (i : Nat) (h : i < 256) : (A256 f)[i]? = some (.int .u32 ((f i : Nat) : Int)) := by simp [A256, h]
theorem A256_one (f : Nat → Nat) : (A256 f).all (·.oneCell') = true := by
  rw [Array.all_eq_true_iff_forall_mem]
  intro v hv
  simp [A256] at hv
  obtain ⟨i, _, rfl⟩ := hv
  rfl
/-- f with v at i. -/
def updf (f : Nat → Nat) (i v : Nat) : Nat → Nat := fun j => if j = i then v else f j
theorem A256_set (f : Nat → Nat) (i v : Nat) : (A256 f).setIfInBounds i (.int .u32 (v : Int)) = A256 (updf f i v) := by
  apply Array.ext
  · simp
  · intro j h1 h2
    have hj : j < 256 := by simpa using h2
    simp only [A256, updf]
    by_cases e : i = j
    · subst e; simp
    · simp [e, show ¬ j = i by omega]
theorem A256_congr (f g : Nat → Nat) (h : ∀ i, i < 256 → f i = g i) : A256 f = A256 g := by
  unfold A256
  congr 1
  apply List.map_congr_left
  intro i hi
  rw [h i (by simpa using hi)]
/-- Block b holds the table. -/
def TabAt (w : World) (b : Nat) (f : Nat → Nat) : Prop := w.heap[b]? = some (.cells (A256 f) 41 (0, 0))
theorem TabAt.set {w : World} {b : Nat} {f : Nat → Nat} (h : TabAt w b f) (i v : Nat) : TabAt (w.setCell ⟨b, i, none⟩ (.int .u32 (v : Int))) b (updf f i v) := by
  have := setOf i (.int .u32 (v : Int)) h
  rw [A256_set] at this
  exact this
theorem TabAt.set_ne {w : World} {b c : Nat} {f : Nat → Nat} (h : TabAt w b f) (hne : b ≠ c) (o : Nat) (v : Value) : TabAt (w.setCell ⟨c, o, none⟩ v) b f := by
  unfold TabAt
  rw [Below.heap_setCell _ _ _ _ hne]
  exact h
theorem TabAt.cell {w : World} {b : Nat} {f : Nat → Nat} (h : TabAt w b f) (i : Nat) (hi : i < 256) : w.cell? ⟨b, i, none⟩ = some (.int .u32 ((f i : Nat) : Int)) := cellOf h (A256_get f i hi)
theorem Tryz.info256 : (Tryz.prog.info? 41).map (·.size) = some 256 := by kernel_rfl
theorem info256 (f : Nat → Nat) : (Tryz.prog.info? 41).map (·.size) = some (A256 f).size := by rw [A256_size]; exact Tryz.info256
theorem Tryz.zero256 (w : World) : (zeroValue 41).run Tryz.prog w = .ok (.agg (A256 fun _ => 0)) w := by kernel_rfl
#print axioms Tryz.zero256
end Go.Proofs.YtlhikoomghbnjaaGreatDoor
