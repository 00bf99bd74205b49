/- What is written of one code, bit by bit. No Go text here. -/
import Derived.Test.YtdggaphhamaelaaPut
import Derived.Test.YtdggaphhamaelaaRRead
import Derived.Test.YtdggaphhamaelaaLater
namespace Go.Proofs.Ytdggaphhamaelaa
open Go.RowKit

theorem bit_pack (l : List Bool) (i : Nat) (h : i < l.length) : bitAt (packB l) i = l.getD i false := by
  unfold bitAt
  have h8 : i / 8 < (l.length + 7) / 8 := by omega
  have hg : (packB l).getD (i / 8) 0 = byteOf l (i / 8) := by
    simp [packB, h8]
  rw [hg]
  unfold byteOf
  rw [testBit_ofB]
  have h1 : i % 8 < 8 := by omega
  have h2 : 8 * (i / 8) + i % 8 = i := by omega
  simp [h1, h2]
theorem bitQ_pack (l : List Bool) (i : Nat) (h : i < l.length) : bitQ (packB l) i = (l.getD i false).toNat := by
  unfold bitQ; rw [bit_pack l i h]
theorem getD_bitsN (v n i : Nat) (h : i < n) : (bitsN v n).getD i false = v.testBit i := by simp [bitsN, h]
theorem revN_bit (c n i : Nat) (h : i < n) : (revN c n).testBit i = c.testBit (n - 1 - i) := by
  unfold revN; rw [testBit_ofB]; simp [h]
/-- Bit i of a code that stands behind the bits l. -/
theorem put_bit (l : List Bool) (c n i : Nat) (h : i < n) : bitQ (packB (l ++ bitsN (revN c n) n)) (l.length + i) = bitN c (n - 1 - i) := by
  rw [bitQ_pack _ _ (by simp; omega)]
  have : (l ++ bitsN (revN c n) n).getD (l.length + i) false = (bitsN (revN c n) n).getD i false := by
    simp [List.getElem?_append, show ¬ l.length + i < l.length by omega]
  rw [this, getD_bitsN _ _ _ h, revN_bit c n i h]
  rfl
theorem own_keep {w w' : World} {base n : Nat} {e : TypeId} {k : Nat} {v : Value} {xs : List Value} (h : w.ownsRow base e k v n xs) (hF : Fr noB w w') : w'.ownsRow base e k v n xs := by
  obtain ⟨h1, h2⟩ := h
  refine ⟨h1, ?_⟩
  rcases h2 with h2 | ⟨g, cap, cur, hv, hg, hh, r⟩
  · exact Or.inl h2
  · exact Or.inr ⟨g, cap, cur, hv, hg, hF.obj hh id, r⟩
theorem WrIs.keep {w w' : World} {wb : Nat} {l : List Bool} (h : WrIs w wb l) (hF : Fr noB w w') : WrIs w' wb l := by
  obtain ⟨sv, h1, h2⟩ := h
  exact ⟨sv, hF.obj h1 id, own_keep h2 hF⟩
theorem bs_of_own {w : World} {base n : Nat} {v : Value} {B : List Nat} (hn : n = B.length) (h : w.ownsRow base 5 1 v n (byteVals B)) : Bs w v B := by
  subst hn
  obtain ⟨h1, h2⟩ := h
  rcases h2 with ⟨rfl, h3⟩ | ⟨g, cap, cur, rfl, hg, hh, a, b, c, d⟩
  · have : B = [] := List.eq_nil_of_length_eq_zero h3
    subst this
    exact ⟨none, 0, rfl, Nat.le_refl _, by unfold maxLen; omega, fun _ => rfl, Or.inl rfl⟩
  · refine ⟨some ⟨g, 0, none⟩, cap, rfl, a, b, by simp, Or.inr ⟨g, 0, rfl, lt_of_block hh, fun i hi => ?_⟩⟩
    rw [Nat.zero_add]
    refine cellOf hh ?_
    have e1 := byteVals_get B i hi
    rw [← d] at e1
    rw [List.getElem?_take_of_lt (by omega)] at e1
    simpa using e1
/-- What a writer that was made in the call turns lies behind what was there. -/
theorem wS_new {a w w' : World} {wb : Nat} (hF : Fr noB a w) (h : Fr (wS w wb) w w') (hb : a.heap.size ≤ wb) : Fr noB a w' :=
  hF.then h (fun i hi => Or.inr (by rcases hi with rfl | ⟨h1, _⟩ <;> omega))
#print axioms put_bit
end Go.Proofs.Ytdggaphhamaelaa
