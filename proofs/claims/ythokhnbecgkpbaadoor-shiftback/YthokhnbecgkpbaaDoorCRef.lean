/- Which characters XML has: the document's side. -/
import Derived.Test.YthokhnbecgkpbaaDoorCBas2
namespace Go.Proofs.YthokhnbecgkpbaaDoor
open Go.RowKit

/-- Does a number lie in one of the spans? -/
def inF (r : Int) : List Int → Bool
  | a :: b :: t => btw r a b || inF r t
  | _ => false
theorem inF_step (r : Int) (L : List Int) (k : Nat) (h : k + 1 < L.length) : inF r (L.drop k) = (btw r L[k] L[k + 1] || inF r (L.drop (k + 2))) := by
  rw [List.drop_eq_getElem_cons (by omega), List.drop_eq_getElem_cons h]
  rfl
theorem inF_end (r : Int) (L : List Int) (k : Nat) (h : ¬ k + 1 < L.length) : inF r (L.drop k) = false := by
  by_cases hk : k < L.length
  · rw [List.drop_eq_getElem_cons hk, List.drop_eq_nil_of_le (by omega)]
    rfl
  · rw [List.drop_eq_nil_of_le (by omega)]
    rfl
set_option maxRecDepth 100000 in
set_option maxHeartbeats 1600000 in
theorem in_any (r : Int) (b cap : Nat) (L : List Int) (w : World) (hl : L.length ≤ 1000) (hc : ∀ i (h : i < L.length), w.cell? ⟨b, i, none⟩ = some (.int .i32 L[i])) :
    Calls Tryd.prog 73 #[.int .i32 r, .slice (some ⟨b, 0, none⟩) L.length cap] w fun e w' => e = .returned (.bool (inF r L)) ∧ w' = w := by
  have HC : Hid (∀ i (h : i < L.length), w.cell? ⟨b, i, none⟩ = some (.int .i32 L[i])) := hc
  clear hc
  go_enter Tryd.func73, Tryd.ntmps73
  go_wp2
  go_loop [5] (fun i => ∃ k : Nat, k ≤ 1002 ∧ i = .int .i64 (k : Int) ∧ Hid (inF r (L.drop k) = inF r L)) (fun i => L.length - (intOf i).toNat)
  case atStart => exact ⟨0, by omega, rfl, by simp [Hid]⟩
  case round =>
    obtain ⟨k, hk, rfl, HX⟩ := hrel
    by_cases hlt : k + 1 < L.length
    · have c0 := HC.out k (by omega)
      have c1 := HC.out (k + 1) hlt
      have HX2 := HX.out
      rw [inF_step r L k hlt] at HX2
      obtain ⟨x, hx⟩ : ∃ x, L[k] = x := ⟨_, rfl⟩
      obtain ⟨y, hy⟩ : ∃ y, L[k + 1] = y := ⟨_, rfl⟩
      rw [hx] at c0 HX2
      rw [hy] at c1 HX2
      clear hx hy HX
      by_cases h1 : x ≤ r
      · by_cases h2 : r ≤ y
        · have HB : Hid (inF r L = true) := by show inF r L = true; rw [← HX2]; simp [btw, h1, h2]
          clear HX2
          go_wp2
          go_ret
          exact ⟨ret_bool HB.out.symm, rfl⟩
        · have HB : Hid (inF r (L.drop (k + 2)) = inF r L) := by show _ = _; rw [← HX2]; simp [btw, h2]
          clear HX2
          go_wp2
          go_round
          case rel => exact ⟨k + 2, by omega, by go_num, HB⟩
          case measure => simp [intOf]; omega
      · have HB : Hid (inF r (L.drop (k + 2)) = inF r L) := by show _ = _; rw [← HX2]; simp [btw, h1]
        clear HX2
        go_wp2
        go_round
        case rel => exact ⟨k + 2, by omega, by go_num, HB⟩
        case measure => simp [intOf]; omega
    · have HB : Hid (inF r L = false) := by show inF r L = false; rw [← HX.out, inF_end r L k hlt]
      clear HX
      go_wp2
      go_ret
      exact ⟨ret_bool HB.out.symm, rfl⟩

def charS : List Int := [9, 10, 13, 13, 32, 55295, 57344, 65533, 65536, 1114111]
def startS : List Int := [65, 90, 95, 95, 97, 122, 192, 214, 216, 246, 248, 767, 880, 893, 895, 8191, 8204, 8205, 8304, 8591, 11264, 12271, 12289, 55295, 63744, 64975, 65008, 65533, 65536, 983039]
def nmcS : List Int := [45, 46, 48, 57, 183, 183, 768, 879, 8255, 8256]
theorem charS_eq (r : Int) : inF r charS = charF r := by
  simp only [charS, inF, charF, btw]
  rw [Bool.eq_iff_iff]
  simp
  omega
theorem startS_eq (r : Int) : inF r startS = startF r := by
  simp only [startS, inF, startF, btw]
  rw [Bool.eq_iff_iff]
  simp
  omega
theorem nmcS_eq (r : Int) : (startF r || inF r nmcS) = nmcF r := by
  unfold nmcF
  cases startF r with
  | true => simp
  | false =>
    simp only [nmcS, inF, btw]
    rw [Bool.eq_iff_iff]
    simp
    omega
/-- Spans as cells. -/
def i32s (L : List Int) : Array Value := (L.map fun x => Value.int .i32 x).toArray
theorem i32s_cell (L : List Int) (w : World) (t : TypeId) (i : Nat) (h : i < L.length) : (w.alloc (.cells (i32s L) t (0, 0))).cell? ⟨w.heap.size, i, none⟩ = some (.int .i32 L[i]) :=
  cellOf (heap_alloc_new _ _) (by simp [i32s, h])
set_option maxRecDepth 100000 in
theorem rchar_any (r : Int) (w : World) : Calls Tryd.prog 58 #[.int .i32 r] w fun e w' => e = .returned (.bool (charF r)) ∧ Fr noB w w' := by
  have HI := in_any r w.heap.size 10 charS (w.alloc (.cells (i32s charS) 21 (0, 0))) (by decide) (fun i h => i32s_cell charS w 21 i h)
  rw [charS_eq] at HI
  go_enter Tryd.func58, Tryd.ntmps58
  go_wp2_with (go_at_call 73; refine HI.mono ?_; rintro e w1 ⟨rfl, rfl⟩)
  go_ret
  exact ⟨rfl, (Fr.refl _ _).alloc _⟩
end Go.Proofs.YthokhnbecgkpbaaDoor
