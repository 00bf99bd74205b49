/- strings.Cut at a sign of one byte. -/
import Derived.Test.YthdbjgkoofiilaaDoorCNum
import Derived.Test.YthdbjgkoofiilaaDoorShelf
import Derived.Lib.IndexLaws
namespace Go.Proofs.YthdbjgkoofiilaaDoor
open Go.RowKit Go.Shelf

/-- Where a byte stands first, or -1. -/
abbrev idxF (s : ByteArray) (c : UInt8) : Int := Lib.indexByte s.data.toList c
theorem idxF_cases (s : ByteArray) (c : UInt8) : (idxF s c = -1 ∧ ∀ q, q < s.size → s.get! q ≠ c) ∨ ∃ i : Nat, idxF s c = (i : Int) ∧ i < s.size ∧ s.get! i = c ∧ ∀ q, q < i → s.get! q ≠ c := by
  have hge := Lib.indexByte_ge s.data.toList c
  by_cases h : Lib.indexByte s.data.toList c = -1
  · left
    refine ⟨h, fun q hq e => ?_⟩
    have := Lib.indexByte_none h q
    rw [get_list s q hq, e] at this
    exact this rfl
  · right
    obtain ⟨i, hi⟩ : ∃ i : Nat, Lib.indexByte s.data.toList c = (i : Int) := ⟨(Lib.indexByte s.data.toList c).toNat, by omega⟩
    obtain ⟨h1, h2⟩ := Lib.indexByte_some hi
    have hlt : i < s.size := by
      rcases Nat.lt_or_ge i s.size with h' | h'
      · exact h'
      · rw [List.getElem?_eq_none (by simpa using h')] at h1; cases h1
    rw [get_list s i hlt] at h1
    refine ⟨i, hi, hlt, Option.some.inj h1, fun q hq e => ?_⟩
    have := h2 q hq
    rw [get_list s q (by omega), e] at this
    exact this rfl
theorem index_one (s : ByteArray) (c : UInt8) (w : World) : Calls Tryd.prog 33 #[.string s, .string ⟨#[c]⟩] w fun e w' => e = .returned (.int .i64 (idxF s c)) ∧ w' = w :=
  Any.stringslite_Index_one Tryd.lays219 s c w
set_option maxHeartbeats 2000000 in
set_option maxRecDepth 100000 in
theorem cutIn_miss (s : ByteArray) (c : UInt8) (w : World) (h : idxF s c = -1) :
    Calls Tryd.prog 26 #[.string s, .string ⟨#[c]⟩] w fun e w' => e = .returned (.tuple #[.string s, .string ⟨#[]⟩, .bool false]) ∧ Fr noB w w' := by
  have HI := index_one s c w
  rw [h] at HI
  go_enter Tryd.func26, Tryd.ntmps26
  go_wp2_with (go_at_call 33; refine HI.mono ?_; rintro e w1 ⟨rfl, rfl⟩)
  go_ret3
  exact ⟨rfl, Fr.refl _ _⟩
set_option maxHeartbeats 2000000 in
set_option maxRecDepth 100000 in
theorem cutIn_hit (s : ByteArray) (c : UInt8) (i : Nat) (w : World) (h : idxF s c = (i : Int)) (hi : i < s.size) (hs : s.size ≤ 140737488355328) :
    Calls Tryd.prog 26 #[.string s, .string ⟨#[c]⟩] w fun e w' => e = .returned (.tuple #[.string (s.extract 0 i), .string (s.extract (i + 1) s.size), .bool true]) ∧ Fr noB w w' := by
  have HI := index_one s c w
  rw [h] at HI
  clear h
  have c1 : (0 : Int) ≤ (i : Int) := by omega
  have c2 : (i : Int) ≤ (s.size : Int) := by omega
  have c3 : (0 : Int) ≤ (i : Int) + 1 := by omega
  have c4 : (i : Int) + 1 ≤ (s.size : Int) := by omega
  go_enter Tryd.func26, Tryd.ntmps26
  go_wp2_with (go_at_call 33; refine HI.mono ?_; rintro e w1 ⟨rfl, rfl⟩)
  go_region
  go_wp2
  go_ret3
  exact ⟨rfl, (Fr.refl _ _).drewN 1⟩
set_option maxHeartbeats 2000000 in
set_option maxRecDepth 100000 in
theorem cut_miss (s : ByteArray) (c : UInt8) (w : World) (h : idxF s c = -1) :
    Calls Tryd.prog 15 #[.string s, .string ⟨#[c]⟩] w fun e w' => e = .returned (.tuple #[.string s, .string ⟨#[]⟩, .bool false]) ∧ Fr noB w w' := by
  have HI := cutIn_miss s c w h
  clear h
  go_enter Tryd.func15, Tryd.ntmps15
  go_wp2_with (go_at_call 26; refine HI.mono ?_; rintro e w1 ⟨rfl, hF⟩)
  go_ret3
  exact ⟨rfl, hF⟩
set_option maxHeartbeats 2000000 in
set_option maxRecDepth 100000 in
theorem cut_hit (s : ByteArray) (c : UInt8) (i : Nat) (w : World) (h : idxF s c = (i : Int)) (hi : i < s.size) (hs : s.size ≤ 140737488355328) :
    Calls Tryd.prog 15 #[.string s, .string ⟨#[c]⟩] w fun e w' => e = .returned (.tuple #[.string (s.extract 0 i), .string (s.extract (i + 1) s.size), .bool true]) ∧ Fr noB w w' := by
  have HI := cutIn_hit s c i w h hi hs
  clear h
  go_enter Tryd.func15, Tryd.ntmps15
  go_wp2_with (go_at_call 26; refine HI.mono ?_; rintro e w1 ⟨rfl, hF⟩)
  go_ret3
  exact ⟨rfl, hF⟩
#print axioms cut_hit
end Go.Proofs.YthdbjgkoofiilaaDoor
