/- The contracts of bitio.Writer's methods, over the list of the bits that it has. -/
import Derived.Test.YthgnhcdodfildaaDoorWr
import Derived.Test.YthgnhcdodfildaaDoorK04
import Derived.Test.YthgnhcdodfildaaDoorK08
namespace Go.Proofs.YthgnhcdodfildaaDoor
open Go.RowKit

/-- Block wb is a writer that has the bits l. -/
def WrIs (w : World) (wb : Nat) (l : List Bool) : Prop := ∃ sv, WrAt w wb sv l.length ∧ w.ownsRow (wb + 1) 5 1 sv (packB l).length (byteVals (packB l))

theorem own_slice {w : World} {base n : Nat} {v : Value} {xs : List Value} (h : w.ownsRow base 5 1 v n xs) :
    ∃ so cap, v = .slice so n cap ∧ n ≤ cap ∧ cap ≤ maxLen ∧ (so = none → cap = 0) ∧ Src w so xs ∧ (∀ k, v.ownBlock = some k → base ≤ k ∧ ∃ cur, w.heap[k]? = some (.cells cur 5 (0, 0))) := by
  obtain ⟨h1, h2⟩ := h
  rcases h2 with ⟨rfl, rfl⟩ | ⟨g, cap, cur, rfl, hg, hh, hc, hm, hs, ht⟩
  · exact ⟨none, 0, rfl, Nat.le_refl _, by unfold maxLen; omega, fun _ => rfl, ⟨fun h => by omega⟩, by simp [Value.ownBlock]⟩
  · refine ⟨_, cap, rfl, hc, hm, by simp, ⟨fun h => ⟨_, rfl, fun j v hj => ?_⟩⟩, ?_⟩
    · rw [add_none]
      refine cellOf hh ?_
      have hj' : j < n * 1 := by
        rcases Nat.lt_or_ge j (n * 1) with h' | h'
        · exact h'
        · rw [List.getElem?_eq_none (by omega)] at hj; cases hj
      rw [← ht, List.getElem?_take_of_lt hj'] at hj
      simpa using hj
    · intro k hk
      simp [Value.ownBlock] at hk
      subst hk
      exact ⟨hg, cur, hh⟩

theorem wS_own {w : World} {wb n : Nat} {v : Value} {xs : List Value} (h : w.ownsRow (wb + 1) 5 1 v n xs) : ∀ k, v.ownBlock = some k → wS w wb k := by
  intro k hk
  obtain ⟨_, _, _, _, _, _, _, ho⟩ := own_slice h
  obtain ⟨h1, cur, h2⟩ := ho k hk
  exact Or.inr ⟨h1, cur, _, h2⟩
theorem own_ne {w : World} {wb n : Nat} {v : Value} {xs : List Value} (h : w.ownsRow (wb + 1) 5 1 v n xs) : v.ownBlock ≠ some wb := by
  intro hk
  obtain ⟨_, _, _, _, _, _, _, ho⟩ := own_slice h
  have := (ho wb hk).1
  omega

set_option maxHeartbeats 400000 in
theorem wready_any (wb nb : Nat) (sv : Value) (w : World) (h : WrAt w wb sv nb) :
    Calls Tryd.prog 47 #[.pointer (some ⟨wb, 0, none⟩)] w fun e w' => e = .returned (.bool true) ∧ w' = w := by
  have c0 := cellOf (o := 0) h rfl
  clear h
  go_enter Tryd.func47, Tryd.ntmps47
  go_wp2
  go_ret
  exact ⟨rfl, rfl⟩

set_option maxHeartbeats 400000 in
theorem newWriter_any (w : World) :
    Calls Tryd.prog 29 #[] w fun e w' => e = .returned (.pointer (some ⟨w.heap.size, 0, none⟩)) ∧ WrIs w' w.heap.size [] ∧ Fr noB w w' ∧ w'.heap.size = w.heap.size + 1 := by
  go_enter Tryd.func29, Tryd.ntmps29
  go_wp2
  go_ret
  exact ⟨rfl, ⟨_, heap_alloc_new _ _, World.ownsRow_nil _ _ _ _⟩, (Fr.refl _ _).alloc _, by simp⟩

theorem put_any (wb : Nat) (l : List Bool) (b : Bool) (w : World) (h : WrIs w wb l) (hl : l.length ≤ 1125899906842000) :
    Calls Tryd.prog 66 #[.pointer (some ⟨wb, 0, none⟩), .int .u32 ((b.toNat : Nat) : Int)] w fun e w' => e = .returned (.tuple #[]) ∧ WrIs w' wb (l ++ [b]) ∧ Fr (wS w wb) w w' := by
  obtain ⟨sv, hW, hown⟩ := h
  have hb : b.toNat ≤ 1 := by cases b <;> simp
  by_cases h8 : l.length % 8 = 0
  · refine (put_grow wb l.length b.toNat sv (packB l) w hW hown hb h8 (by simp; omega) (by simp; omega)).mono ?_
    rintro e w' ⟨he, sv', h1, h2, h3⟩
    refine ⟨he, ⟨sv', by simpa using h1, ?_⟩, h3⟩
    rw [packB_grow l b h8]
    simpa using h2
  · have hlen : 0 < (packB l).length := by simp; omega
    obtain ⟨g, cap, cur, rfl, hg, hrow, hn, hm, hc, ht⟩ := own_row hown hlen
    have hi : l.length / 8 < (l.length + 7) / 8 := by omega
    have hx : cur[l.length / 8]? = some (.int .u8 ((byteOf l (l.length / 8) : Nat) : Int)) := by
      have h1 : (cur.toList.take (packB l).length)[l.length / 8]? = some (.int .u8 ((byteOf l (l.length / 8) : Nat) : Int)) := by
        rw [ht, byteVals_get _ _ (by simpa using hi), packB_get _ _ hi]
      rw [List.getElem?_take_of_lt (by simpa using hi)] at h1
      simpa using h1
    refine (put_stay wb l.length b.toNat g _ cap _ cur (packB l) w hW hg hrow hn hm hc ht hb h8 (by simpa using hi) hx (byteOf_last l) (by omega)).mono ?_
    rintro e w' ⟨he, h1, h2, h3⟩
    refine ⟨he, ⟨.slice (some ⟨g, 0, none⟩) (packB l).length cap, by rw [show (l ++ [b]).length = l.length + 1 from by simp]; exact h1, ?_⟩, h3⟩
    have hpl : (packB (l ++ [b])).length = (packB l).length := by simp; omega
    rw [hpl, packB_stay l b h8]
    exact h2

/-- The lowest n bits of v, the lowest first. -/
def bitsN (v n : Nat) : List Bool := (List.range n).map v.testBit
@[simp] theorem bitsN_length (v n : Nat) : (bitsN v n).length = n := by simp [bitsN]
theorem bitsN_succ (v n : Nat) : bitsN v (n + 1) = bitsN v n ++ [v.testBit n] := by simp [bitsN, List.range_succ]

set_option maxHeartbeats 400000 in
theorem wbits_bad (wb nb : Nat) (sv : Value) (v n : Int) (w : World) (h : WrAt w wb sv nb) (hn : n < 0 ∨ 32 < n) :
    Calls Tryd.prog 44 #[.pointer (some ⟨wb, 0, none⟩), .int .u32 v, .int .i64 n] w fun e w' => e = .returned (.int .i64 10) ∧ w' = w := by
  go_enter Tryd.func44, Tryd.ntmps44
  go_wp2_with (first | (go_at_call 47; refine (wready_any _ _ _ _ h).mono ?_; rintro e w' ⟨rfl, rfl⟩) | (go_at_call 65; refine (countable_no _ _ hn).mono ?_; rintro e w' ⟨rfl, rfl⟩))
  go_ret
  exact ⟨rfl, rfl⟩

set_option maxHeartbeats 400000 in
theorem wbits_much (wb nb v n : Nat) (sv : Value) (w : World) (h : WrAt w wb sv nb) (hn : n ≤ 32) (hv : v < 4294967296) (hb : 2 ^ n ≤ v) :
    Calls Tryd.prog 44 #[.pointer (some ⟨wb, 0, none⟩), .int .u32 (v : Int), .int .i64 (n : Int)] w fun e w' => e = .returned (.int .i64 10) ∧ w' = w := by
  have hn2 : n < 32 := by
    rcases Nat.lt_or_ge n 32 with h' | h'
    · exact h'
    · have : n = 32 := by omega
      subst this
      omega
  have hq : ((v : Int) / 2 ^ n != 0) = true := by
    have h1 : 0 < v / 2 ^ n := Nat.div_pos hb (Nat.pow_pos (by decide))
    have h2 : ((v : Int) / 2 ^ n) = ((v / 2 ^ n : Nat) : Int) := by simp
    rw [h2, bne_iff_ne]; omega
  clear hb
  go_enter Tryd.func44, Tryd.ntmps44
  go_wp2_with (first | (go_at_call 47; refine (wready_any _ _ _ _ h).mono ?_; rintro e w' ⟨rfl, rfl⟩) | (go_at_call 65; refine (countable_yes _ _ (by omega) (by omega)).mono ?_; rintro e w' ⟨rfl, rfl⟩))
  go_ret
  exact ⟨rfl, rfl⟩

set_option maxHeartbeats 800000 in
theorem wbits_good (wb v n : Nat) (l : List Bool) (w : World) (h : WrIs w wb l) (hn : n ≤ 32) (hv : v < 2 ^ n) (hl : l.length ≤ 1125899906841900) :
    Calls Tryd.prog 44 #[.pointer (some ⟨wb, 0, none⟩), .int .u32 (v : Int), .int .i64 (n : Int)] w fun e w' => e = .returned (.int .i64 0) ∧ WrIs w' wb (l ++ bitsN v n) ∧ Fr (wS w wb) w w' := by
  have hv32 : v < 4294967296 := by have := pow_le_32 n hn; omega
  have hq : (v : Int) / 2 ^ n = 0 := by
    have h2 : ((v : Int) / 2 ^ n) = ((v / 2 ^ n : Nat) : Int) := by simp
    rw [h2, Nat.div_eq_of_lt hv]; rfl
  have hW := h
  obtain ⟨sv, hW0, _⟩ := hW
  clear hv
  go_enter Tryd.func44, Tryd.ntmps44
  go_wp2_with (first | (go_at_call 47; refine (wready_any _ _ _ _ hW0).mono ?_; rintro e w' ⟨rfl, rfl⟩) | (go_at_call 65; refine (countable_yes _ _ (by omega) (by omega)).mono ?_; rintro e w' ⟨rfl, rfl⟩))
  go_loopw [21] (fun i wr => ∃ k : Nat, k ≤ n ∧ i = .int .i64 (k : Int) ∧ WrIs wr wb (l ++ bitsN v k) ∧ Fr (wS w' wb) w' wr) (fun i _ => n - (intOf i).toNat)
  case atStart => exact ⟨0, Nat.zero_le _, rfl, by simpa [bitsN] using h, Fr.refl _ _⟩
  case round =>
    clear h hW0 hq
    obtain ⟨k, hk, rfl, hI, hF⟩ := hrel
    by_cases hlt : k < n
    · go_wp2_with fail
      refine (bitOf_any v k _ hv32 (by omega) (by omega)).mono ?_
      rintro e w5 ⟨rfl, rfl⟩
      go_wp2_with fail
      rw [show bitN v k = (v.testBit k).toNat from rfl]
      refine (put_any wb (l ++ bitsN v k) (v.testBit k) _ hI (by simp; omega)).mono ?_
      rintro e w6 ⟨rfl, hI6, hF6⟩
      go_wp2_with fail
      go_roundw
      case rel => exact ⟨k + 1, by omega, by go_num, by rw [bitsN_succ, ← List.append_assoc]; exact hI6, wtrans hF hF6⟩
      case measure => simp [intOf]; omega
    · go_wp2_with fail
      go_ret
      have : k = n := by omega
      subst this
      exact ⟨rfl, hI, hF⟩

theorem own_setWr {w : World} {wb n : Nat} {v : Value} {xs : List Value} (h : w.ownsRow (wb + 1) 5 1 v n xs) (o : Nat) (u : Value) : (w.setCell ⟨wb, o, none⟩ u).ownsRow (wb + 1) 5 1 v n xs :=
  ownsRow_setCell_below h (show wb < wb + 1 by omega) u

set_option maxHeartbeats 800000 in
theorem wout_any (wb : Nat) (l : List Bool) (w : World) (h : WrIs w wb l) (hl : l.length ≤ 1125899906842000) :
    Calls Tryd.prog 34 #[.pointer (some ⟨wb, 0, none⟩)] w fun e w' => ∃ v, e = .returned v ∧ w'.ownsRow w.heap.size 5 1 v (packB l).length (byteVals (packB l)) ∧ Fr noB w w' := by
  obtain ⟨i0, hi, hz0, hz1, hz2⟩ := info_parts Tryd.info5
  obtain ⟨sv, hW, hown⟩ := h
  obtain ⟨so, cap, rfl, h1, h2, h3, h4, h5⟩ := own_slice hown
  obtain ⟨N, hN⟩ : ∃ N, N = (packB l).length := ⟨_, rfl⟩
  obtain ⟨cs, hcs⟩ : ∃ cs, cs = byteVals (packB l) := ⟨_, rfl⟩
  have hNl : N ≤ 140737488355328 := by rw [hN]; simp; omega
  have hlen : cs.length = N := by rw [hcs, hN]; simp
  have hone : ∀ v ∈ cs, v.oneCell' = true := by rw [hcs]; exact byteVals_one _
  rw [← hN] at hW h1 hown ⊢
  rw [← hcs] at h4 hown ⊢
  clear hN hcs h5 hl
  have hmin : cs.length = Nat.min N N := by rw [hlen]; show N = min _ _; omega
  have c1 := cellOf (o := 1) hW rfl
  have HL : Hid (cs.length = N) := hlen
  clear hlen
  go_enter Tryd.func34, Tryd.ntmps34
  go_wp2_with (first | (go_at_call 47; refine (wready_any _ _ _ _ hW).mono ?_; rintro e w' ⟨rfl, rfl⟩) | (at_make; refine wpList_make_full _ rfl (.tmp 11) (.tmp 11) 22 rfl _ 5 i0 (.int .u8 0) 1 Tryd.underlying22 hi hz0 hz1 .i64 .i64 _ _ N rfl rfl rfl rfl (by rw [hz2]; omega) (by unfold maxLen; omega) (Nat.le_refl _) ?_))
  intro w1 hown1 hgrow
  obtain ⟨cur, hcur, hrow⟩ := row_of_made hown1
  have hb1 : Below w'.heap.size w' w1 := (Below.refl _ _).grown hgrow (Nat.le_refl _) (by simp)
  have d1 := cellOf (o := 1) ((Fr.ofBelow (S := noB) hb1).obj hW id) rfl
  have hsrc : Src w1 so cs := ⟨fun h0 => by
    obtain ⟨ad, had, hc⟩ := h4.get h0
    refine ⟨ad, had, fun j v hj => ?_⟩
    exact hgrow.cell (hc j v hj) (by simp)⟩
  have hfit : 0 + cs.length ≤ cur.length := by have := HL.out; omega
  have HC : Hid (cur.length = N) := hcur
  have HR : Hid (w1.heap[w'.heap.size]? = some (.cells cur.toArray 5 (0, 0))) := hrow
  clear hcur hrow hown1 hgrow h4 c1
  go_wp2_with (refine wpList_copy_splice rfl (.tmp 13) (.tmp 17) 22 22 rfl 5 Tryd.underlying22 Tryd.size5 _ _ _ _ _ _ rfl rfl w'.heap.size 0 cur 5 HR.out cs hmin (fun h0 => ⟨rfl, hsrc.get h0⟩) hfit hone w'.heap.size w' hb1 (Nat.le_refl _) ?_; intro w2 HG2 hB2)
  go_ret
  have hG := HG2.out
  have hL := HL.out
  have hCu := HC.out
  rw [splice_all _ _ (by omega)] at hG
  refine ⟨_, rfl, ⟨by omega, Or.inr ⟨w'.heap.size, N, cs.toArray, rfl, Nat.le_refl _, hG, Nat.le_refl _, by unfold maxLen; omega, by simp [hL], by simp [← hL]⟩⟩, Fr.ofBelow hB2⟩

end Go.Proofs.YthgnhcdodfildaaDoor
