/- What BitioOwn's walk wants besides: slices that are flipped byte by byte; a writer whose row is known to be old; slices that are cut. -/
import Derived.Test.YtokgolmioonbfaaWr2
import Derived.Test.YtokgolmioonbfaaEq
import Derived.Test.YtokgolmioonbfaaLive
import Derived.Test.YtokgolmioonbfaaBackM
namespace Go.Proofs.Ytokgolmioonbfaa
open Go.RowKit

/-- The block that a slice leads to. -/
def atB (so : Option Addr) : Nat → Prop := fun k => ∃ o, so = some ⟨k, o, none⟩

/-- The bytes of a slice of our own are turned, one by one; nothing else is. -/
structure Flip (w5 wr : World) (so : Option Addr) (n : Nat) : Prop where
  fr : Fr (atB so) w5 wr
  row : n = 0 ∨ ∃ g cur, so = some ⟨g, 0, none⟩ ∧ wr.heap[g]? = some (.cells cur 5 (0, 0)) ∧ ∀ i, i < n → ∃ x : Int, cur[i]? = some (.int .u8 x)

theorem Flip.start {w : World} {base n : Nat} {so : Option Addr} {m cap : Nat} {B : List Nat} (h : w.ownsRow base 5 1 (.slice so m cap) n (byteVals B)) : Flip w w so n := by
  refine ⟨Fr.refl _ _, ?_⟩
  obtain ⟨h1, h2⟩ := h
  rcases h2 with ⟨_, h2⟩ | ⟨g, c, cur, hv, hg, hh, hc, hm, hs, ht⟩
  · exact Or.inl h2
  · right
    simp at hv
    refine ⟨g, cur, hv.1, hh, fun i hi => ?_⟩
    have hi' : i < B.length := by simp at h1; omega
    have hb := byteVals_get B i hi'
    rw [← ht, List.getElem?_take_of_lt (by omega)] at hb
    exact ⟨_, by simpa using hb⟩

theorem Flip.get {w5 wr : World} {so : Option Addr} {n : Nat} (h : Flip w5 wr so n) (i : Nat) (hi : i < n) :
    ∃ g x, so = some ⟨g, 0, none⟩ ∧ wr.cell? ⟨g, i, none⟩ = some (.int .u8 x) ∧ wr.frozen? ⟨g, i, none⟩ = false ∧ ∀ y, Flip w5 (wr.setCell ⟨g, i, none⟩ (.int .u8 y)) so n := by
  rcases h.row with h0 | ⟨g, cur, hso, hh, hx⟩
  · omega
  · obtain ⟨x, hx1⟩ := hx i hi
    refine ⟨g, x, hso, cellOf hh hx1, freeOf i hh, fun y => ⟨h.fr.setCell ⟨g, i, none⟩ (Or.inl ⟨0, hso⟩) _, Or.inr ⟨g, _, hso, setOf i _ hh, fun j hj => ?_⟩⟩⟩
    obtain ⟨z, hz⟩ := hx j hj
    rw [Array.getElem?_setIfInBounds]
    by_cases e : i = j
    · subst e
      have hlt : i < cur.size := by
        rcases Nat.lt_or_ge i cur.size with h' | h'
        · exact h'
        · rw [Array.getElem?_eq_none h'] at hx1; cases hx1
      rw [if_pos rfl, if_pos hlt]
      exact ⟨y, rfl⟩
    · rw [if_neg e]; exact ⟨z, hz⟩

/-- A writer whose row lies below block M. -/
def WrIn (w : World) (wb : Nat) (l : List Bool) (M : Nat) : Prop :=
  ∃ sv, WrAt w wb sv l.length ∧ w.ownsRow (wb + 1) 5 1 sv (packB l).length (byteVals (packB l)) ∧ ∀ k, sv.ownBlock = some k → k < M

theorem WrIs.inn {w : World} {wb : Nat} {l : List Bool} (h : WrIs w wb l) : WrIn w wb l w.heap.size := by
  obtain ⟨sv, h1, h2⟩ := h
  refine ⟨sv, h1, h2, fun k hk => ?_⟩
  obtain ⟨_, _, _, _, _, _, _, ho⟩ := own_slice h2
  obtain ⟨_, cur, hc⟩ := ho k hk
  exact lt_of_block hc
theorem WrIn.is {w : World} {wb : Nat} {l : List Bool} {M : Nat} (h : WrIn w wb l M) : WrIs w wb l := by
  obtain ⟨sv, h1, h2, _⟩ := h
  exact ⟨sv, h1, h2⟩
theorem WrIn.fr {S : Nat → Prop} {w w' : World} {wb : Nat} {l : List Bool} {M : Nat} (h : WrIn w wb l M) (hf : Fr S w w') (h1 : ¬ S wb) (h2 : ∀ k cs fr, S k → k < M → wb + 1 ≤ k → w.heap[k]? ≠ some (.cells cs 5 fr)) : WrIn w' wb l M := by
  obtain ⟨sv, hW, hown, hM⟩ := h
  refine ⟨sv, hf.obj hW h1, ?_, hM⟩
  obtain ⟨a, b⟩ := hown
  refine ⟨a, ?_⟩
  rcases b with b | ⟨g, cap, cur, rfl, hg, hh, r⟩
  · exact Or.inl b
  · exact Or.inr ⟨g, cap, cur, rfl, hg, hf.obj hh (fun hk => h2 g _ _ hk (hM g rfl) hg hh), r⟩

theorem out_bytes (B : List Nat) (hB : ∀ x ∈ B, x < 256) : packB (alignB [] ++ bitsOf B) = B := by
  have h := packB_bytes [] B (by simp) hB
  simpa [alignB, packB] using h

/-- A slice that was cut: b[:m]. -/
theorem Bs.head {w : World} {ao : Option Addr} {n cap : Nat} {B : List Nat} (h : Bs w (.slice ao n cap) B) (m : Nat) (hm : m ≤ B.length) : Bs w (.slice ao m cap) (B.take m) := by
  obtain ⟨ao', cap', he, h1, h2, h4, h3⟩ := h
  simp at he
  obtain ⟨rfl, rfl, rfl⟩ := he
  have hl : (B.take m).length = m := by simp; omega
  refine ⟨ao, cap, by rw [hl], by omega, h2, h4, ?_⟩
  rcases h3 with rfl | ⟨b, off, rfl, hb, hc⟩
  · left; simp
  · right
    refine ⟨b, off, rfl, hb, fun i hi => ?_⟩
    rw [hl] at hi
    rw [hc i (by omega)]
    simp

/-- .. b[m:], where that is not the whole capacity. -/
theorem Bs.tail {w : World} {b off n cap : Nat} {B : List Nat} (h : Bs w (.slice (some ⟨b, off, none⟩) n cap) B) (m : Nat) (hm : m ≤ B.length) : Bs w (.slice (some ⟨b, off + m, none⟩) (n - m) (cap - m)) (B.drop m) := by
  obtain ⟨ao', cap', he, h1, h2, h4, h3⟩ := h
  simp at he
  obtain ⟨rfl, rfl, rfl⟩ := he
  have hl : (B.drop m).length = B.length - m := by simp
  refine ⟨_, cap - m, by rw [hl], by omega, by omega, by simp, ?_⟩
  rcases h3 with rfl | ⟨b', off', he, hb, hc⟩
  · left; simp
  · simp at he
    obtain ⟨rfl, rfl⟩ := he
    right
    refine ⟨b, off + m, rfl, hb, fun i hi => ?_⟩
    rw [hl] at hi
    have := hc (m + i) (by omega)
    rw [Nat.add_assoc]
    simpa using this
theorem Bs.empty {w : World} (ao : Option Addr) (c : Nat) (h : ao = none → c = 0) (hc : c ≤ maxLen) : Bs w (.slice ao 0 c) [] := ⟨ao, c, rfl, Nat.zero_le _, hc, h, Or.inl rfl⟩
theorem Bs.cut {w : World} {x0 : Addr} {n cap : Nat} {B : List Nat} (h : Bs w (.slice (some x0) n cap) B) (m : Nat) (hm : m ≤ B.length) : Bs w (.slice (some (x0.add m)) (n - m) (cap - m)) (B.drop m) := by
  obtain ⟨ao', cap', he, h1, h2, h4, h3⟩ := h
  simp at he
  obtain ⟨rfl, rfl, rfl⟩ := he
  by_cases hB : B = []
  · subst hB
    simp at hm
    subst hm
    exact Bs.empty _ _ (by simp) (by omega)
  · rcases h3 with h3 | ⟨b, off, he, hb, hc⟩
    · exact absurd h3 hB
    · simp at he
      subst he
      rw [add_none]
      exact Bs.tail ⟨_, _, rfl, h1, h2, by simp, Or.inr ⟨b, off, rfl, hb, hc⟩⟩ m hm
theorem Bs.old {w wr : World} {v : Value} {B : List Nat} (h : Bs w v B) (hb : Below w.heap.size w wr) : Bs wr v B :=
  h.fr (Fr.ofBelow (S := noB) hb) (fun _ _ _ _ _ _ _ hk => hk.elim)
#print axioms Bs.tail
end Go.Proofs.Ytokgolmioonbfaa
