/- What lay there before stays readable. No Go text here. -/
import Derived.Test.YtdggaphhamaelaaOpen
import Derived.Test.YtdggaphhamaelaaDRead
import Derived.Test.YtdggaphhamaelaaRRead
import Derived.Test.YtdggaphhamaelaaRd2
namespace Go.Proofs.Ytdggaphhamaelaa
open Go.RowKit

theorem Ns.later {k : IntKind} {S : Nat → Prop} {w W w' : World} {v : Value} {L : List Int} (h : Ns k w v L) (h1 : Fr noB w W) (h2 : Fr S W w') (hs : ∀ b, b < w.heap.size → ¬ S b) : Ns k w' v L := by
  obtain ⟨ao, cap, rfl, a1, a2, a4, a3⟩ := h
  refine ⟨ao, cap, rfl, a1, a2, a4, ?_⟩
  rcases a3 with a3 | ⟨b, off, rfl, hb, hc⟩
  · exact Or.inl a3
  · refine Or.inr ⟨b, off, rfl, Nat.lt_of_lt_of_le hb (Nat.le_trans h1.size h2.size), fun i hi => ?_⟩
    rw [h2.cell (a := ⟨b, off + i, none⟩) (Nat.lt_of_lt_of_le hb h1.size) (hs b hb), h1.cell (a := ⟨b, off + i, none⟩) hb id]
    exact hc i hi
theorem Bs.later {S : Nat → Prop} {w W w' : World} {v : Value} {B : List Nat} (h : Bs w v B) (h1 : Fr noB w W) (h2 : Fr S W w') (hs : ∀ b, b < w.heap.size → ¬ S b) : Bs w' v B := by
  obtain ⟨ao, cap, rfl, a1, a2, a4, a3⟩ := h
  refine ⟨ao, cap, rfl, a1, a2, a4, ?_⟩
  rcases a3 with a3 | ⟨b, off, rfl, hb, hc⟩
  · exact Or.inl a3
  · refine Or.inr ⟨b, off, rfl, Nat.lt_of_lt_of_le hb (Nat.le_trans h1.size h2.size), fun i hi => ?_⟩
    rw [h2.cell (a := ⟨b, off + i, none⟩) (Nat.lt_of_lt_of_le hb h1.size) (hs b hb), h1.cell (a := ⟨b, off + i, none⟩) hb id]
    exact hc i hi
theorem Bs.keep {w w' : World} {v : Value} {B : List Nat} (h : Bs w v B) (hF : Fr noB w w') : Bs w' v B := h.later (Fr.refl _ _) hF (fun _ _ => id)
/-- All that a loop of readings needs, in the world W where it begins. -/
structure RL (w W : World) (v cv bv : Value) (db sb rb g : Nat) (M B : List Nat) : Prop where
  fr : Fr noB w W
  hv : Ns .i64 w v (up M)
  hc : Ns .u32 W cv (up (codesN M))
  hb : Bs w bv B
  dec : DecIs W db sb M
  row : RowAt W g B
  d1 : db ≠ rb
  d2 : sb ≠ rb
  d3 : g ≠ rb
  new : w.heap.size ≤ rb
  dc : ∀ b off cap len, cv = .slice (some ⟨b, off, none⟩) len cap → b ≠ rb
theorem RL.dr {w W wr : World} {v cv bv : Value} {db sb rb g : Nat} {M B : List Nat} (h : RL w W v cv bv db sb rb g M B) (hF : Fr (oneB rb) W wr) {p : Nat} (hR : RdAt wr rb g B.length p) : DR wr db sb rb g M B p :=
  ⟨h.dec.keep hF (fun e => h.d1 e) (fun e => h.d2 e), hR, hF.obj h.row (fun e => h.d3 e), h.d1, h.d2, h.d3⟩
theorem RL.v {w W wr : World} {v cv bv : Value} {db sb rb g : Nat} {M B : List Nat} (h : RL w W v cv bv db sb rb g M B) (hF : Fr (oneB rb) W wr) : Ns .i64 wr v (up M) :=
  h.hv.later h.fr hF (fun b hb e => by have := h.new; rw [show b = rb from e] at hb; omega)
theorem RL.b {w W wr : World} {v cv bv : Value} {db sb rb g : Nat} {M B : List Nat} (h : RL w W v cv bv db sb rb g M B) (hF : Fr (oneB rb) W wr) : Bs wr bv B :=
  h.hb.later h.fr hF (fun b hb e => by have := h.new; rw [show b = rb from e] at hb; omega)
theorem RL.c {w W wr : World} {v cv bv : Value} {db sb rb g : Nat} {M B : List Nat} (h : RL w W v cv bv db sb rb g M B) (hF : Fr (oneB rb) W wr) : Ns .u32 wr cv (up (codesN M)) :=
  h.hc.fr hF (fun ao len cap b off e1 e2 e => h.dc b off cap len (by rw [e1, e2]) e)
end Go.Proofs.Ytdggaphhamaelaa
