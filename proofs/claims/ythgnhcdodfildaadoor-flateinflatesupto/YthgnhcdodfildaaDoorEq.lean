/- Bytes and the texts that they are; bytes.Equal. -/
import Derived.Test.YthgnhcdodfildaaDoorFrame
import Derived.Test.YthgnhcdodfildaaDoorChecked
import Derived.WalkSpells
import Derived.WalkLawsBesides
import Derived.Laws.IdiomStrings
namespace Go.Proofs.YthgnhcdodfildaaDoor
open Go.RowKit

/-- The bytes as a string. -/
def strOf (B : List Nat) : ByteArray := ⟨(B.map UInt8.ofNat).toArray⟩
theorem conv_bytes (w : World) (v : Value) (B : List Nat) (hv : Bs w v B) (hB : ∀ x ∈ B, x < 256) : (convert 22 9 v).run Tryd.prog w = .ok (.string (strOf B)) w := by
  obtain ⟨ao, cap, rfl, h1, h2, h4, h3⟩ := hv
  cases ao with
  | none =>
    have hB0 : B = [] := List.eq_nil_of_length_eq_zero (by have := h4 rfl; omega)
    subst hB0
    rw [run_convert_bytes_string w 22 9 5 none _ cap Tryd.underlying22 Tryd.underlying5 Tryd.underlying9]
    simp [Conv.bytesToString]
    rfl
  | some x =>
    have hl : (B.map UInt8.ofNat).length = B.length := by simp
    have := run_convert_bytes_back (P := Tryd.prog) w 22 9 5 x cap (B.map UInt8.ofNat) Tryd.underlying22 Tryd.underlying5 Tryd.underlying9 (by
      intro j hj
      rcases h3 with rfl | ⟨b, off, he, hb, hc⟩
      · simp at hj
      · cases he
        have hj' : j < B.length := by simpa using hj
        rw [add_none, hc j hj']
        have := hB B[j] (List.getElem_mem hj')
        simp
        omega)
    rw [hl] at this
    exact this
set_option maxRecDepth 100000 in
set_option maxHeartbeats 400000 in
theorem equal_same (v u : Value) (B : List Nat) (w : World) (hv : Bs w v B) (hu : Bs w u B) (hB : ∀ x ∈ B, x < 256) :
    Calls Tryd.prog 8 #[v, u] w fun e w' => e = .returned (.bool true) ∧ w' = w := by
  have c1 := conv_bytes w v B hv hB
  have c2 := conv_bytes w u B hu hB
  clear hv hu
  generalize strOf B = s at *
  go_enter Tryd.func8, Tryd.ntmps8
  go_wp2
  go_ret
  exact ⟨rfl, rfl⟩
/-- What the call owns, as a slice of bytes. -/
theorem Bs.ofOwn {w : World} {base n : Nat} {v : Value} {B : List Nat} (h : w.ownsRow base 5 1 v n (byteVals B)) : Bs w v B := by
  obtain ⟨h1, h2⟩ := h
  have hn : n = B.length := by simp at h1; omega
  subst hn
  rcases h2 with ⟨rfl, hn⟩ | ⟨g, cap, cur, rfl, hg, hh, hc, hm, hs, ht⟩
  · refine ⟨none, 0, by rw [hn], by omega, by unfold maxLen; omega, fun _ => rfl, Or.inl (List.eq_nil_of_length_eq_zero hn)⟩
  · refine ⟨_, cap, rfl, hc, hm, by simp, Or.inr ⟨g, 0, rfl, lt_of_block hh, fun i hi => ?_⟩⟩
    refine cellOf hh ?_
    have hb := byteVals_get B i hi
    rw [← ht] at hb
    rw [List.getElem?_take_of_lt (by omega)] at hb
    simpa using hb
/-- The nil slice reads no bytes. -/
theorem Bs.nil (w : World) : Bs w (.slice none 0 0) [] := ⟨none, 0, rfl, Nat.le_refl _, by unfold maxLen; omega, fun _ => rfl, Or.inl rfl⟩
end Go.Proofs.YthgnhcdodfildaaDoor
