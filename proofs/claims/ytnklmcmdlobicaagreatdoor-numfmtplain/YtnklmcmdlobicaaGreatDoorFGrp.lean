/- grouped: digits with commas. -/
import Derived.Test.YtnklmcmdlobicaaGreatDoorFSml
namespace Go.Proofs.YtnklmcmdlobicaaGreatDoor
open Go.RowKit Ieee Go.Shelf

theorem fr_of_below {w w' : World} (h : Below w.heap.size w w') : Fr noB w w' := Fr.ofBelow h
set_option maxRecDepth 100000 in
set_option maxHeartbeats 2000000 in
theorem grouped_any (D : List UInt8) (hD : ∀ b ∈ D, b.toNat < 128) (hl : D.length ≤ 1000) (w : World) :
    Calls Tryz.prog 18 #[.string (baL D)] w fun e w' => e = .returned (.string (baL (grpL D))) ∧ Fr noB w w' := by
  have hsz : (baL D).size = D.length := baL_size D
  have hget : ∀ k, k < D.length → ((baL D).get! k).toNat < 128 := by
    intro k hk
    have e : (baL D).get! k = D[k] := by
      show (D.toArray)[k]! = _
      rw [getElem!_pos _ _ (by simpa using hk)]
      simp
    rw [e]
    exact hD _ (List.getElem_mem hk)
  have hbyte : ∀ k (hk : k < D.length), UInt8.ofNat ((baL D).get! k).toNat = D[k] := by
    intro k hk
    have e : (baL D).get! k = D[k] := by
      show (D.toArray)[k]! = _
      rw [getElem!_pos _ _ (by simpa using hk)]
      simp
    rw [e]
    simp
  have HG : Hid _ := hget
  have HBY : Hid _ := hbyte
  obtain ⟨n, hn⟩ : ∃ n, D.length = n := ⟨_, rfl⟩
  have HL : Hid (D.length = n) := hn
  rw [hn] at hsz hl
  obtain ⟨s, hs⟩ : ∃ s, baL D = s := ⟨_, rfl⟩
  rw [hs] at hsz HG HBY ⊢
  clear hget hbyte hD hs hn
  go_enter Tryz.func18, Tryz.ntmps18
  go_wp2
  go_loopw [] (fun wr => ∃ (pos : Nat) (acc : List UInt8), Bld w.heap.size w.heap.size (Lib.byteCells acc) wr ∧ wr.heap[w.heap.size + 1]? = some (.stringIter s pos) ∧ Below w.heap.size w wr ∧ Hid (acc ++ grpA n pos (D.drop pos) = grpL D) ∧ pos ≤ n ∧ acc.length ≤ 2 * pos) (fun wr => s.size - wr.iterPos (w.heap.size + 1))
  case atStart =>
    refine ⟨0, [], (Lib.IsBuilderF.of (Lib.fresh_isBuilder 74 5 w)).alloc _, ?_, ((Below.refl _ w).alloc (Nat.le_refl _) _).alloc (by simp) _, ?_, Nat.zero_le _, by simp⟩
    · have := World.iter_heap (w.alloc (.cells #[.pointer none, .slice none 0 0] 74)) s 0
      simpa using this
    · show _ = _
      unfold grpL
      rw [HL.out]
      rfl
  case round =>
    obtain ⟨pos, acc, hI, hit, hbw, HC, hps, hal⟩ := hrel
    have hszw : w.heap.size + 1 < wr.heap.size := (Array.getElem?_eq_some_iff.1 hit).1
    by_cases hp : pos < n
    · have hp' : pos < s.size := by omega
      have hnx : ∀ ty, (Instr.next (.pointer (some ⟨w.heap.size + 1, 0, none⟩)) true ty).run Tryz.prog wr = _ := fun ty => Lib.run_next_any_at wr (w.heap.size + 1) s pos ty hit hp'
      have hlt := HG.out pos (by rw [HL.out]; exact hp)
      have hbt := HBY.out pos (by rw [HL.out]; exact hp)
      rw [dec_asc s pos hlt] at hnx
      simp only at hnx
      obtain ⟨r, hr⟩ : ∃ r, (s.get! pos).toNat = r := ⟨_, rfl⟩
      rw [hr] at hnx hlt hbt
      have hI2 := hI.iterAt hit (pos + 1)
      have hit2 := Lib.iterAt_heap wr (w.heap.size + 1) s pos (pos + 1) hit
      have hbw2 := Lib.below_iterAt hbw (k := w.heap.size + 1) (by omega) s (pos + 1)
      have hsz2 : w.heap.size ≤ (wr.iterAt (w.heap.size + 1) s (pos + 1)).heap.size := by rw [Lib.iterAt_size]; omega
      generalize hW2 : wr.iterAt (w.heap.size + 1) s (pos + 1) = W2 at *
      have HMM : Hid (s.size - W2.iterPos (w.heap.size + 1) < s.size - wr.iterPos (w.heap.size + 1)) := by
        show _ < _
        simp only [World.iterPos, hit2, hit]
        omega
      have hdrop : D.drop pos = D[pos]'(by rw [HL.out]; exact hp) :: D.drop (pos + 1) := (List.drop_eq_getElem_cons _)
      have HC2 := HC.out
      rw [hdrop, ← hbt] at HC2
      clear hI hit hbw hW2 hszw HC hdrop hbt hr
      by_cases hcm : 0 < pos ∧ (n - pos) % 3 = 0
      · have HX : Hid (acc ++ [44] ++ [UInt8.ofNat r] ++ grpA n (pos + 1) (D.drop (pos + 1)) = grpL D) := by
          show _ = _
          rw [← HC2]
          show _ = acc ++ ((if 0 < pos ∧ (n - pos) % 3 = 0 then _ else _) ++ _)
          rw [if_pos hcm]
          simp
        have HW := writeByte_any w.heap.size w.heap.size _ 44 W2 hI2 (by rw [Lib.byteCells_length]; omega) hsz2
        rw [byteCells_snoc _ _ (by omega)] at HW
        have h0 : (0 : Int) < (pos : Int) := by omega
        obtain ⟨mm, hmm⟩ : ∃ mm : Nat, (n : Int) - (pos : Int) = (mm : Int) := ⟨n - pos, by omega⟩
        have hrem : mm % 3 = 0 := by have := hcm.2; omega
        clear HC2 hcm
        rw [show ((44 : Nat) : Int) = 44 from rfl] at HW
        go_wp2_with (go_at_call 47; with_reducible refine HW.mono ?_; rintro e w3 ⟨rfl, hB3, hb3, hk3⟩)
        have hsz3 : w.heap.size ≤ w3.heap.size := Nat.le_trans hsz2 hb3.size
        have HW2 := writeRune_any w.heap.size w.heap.size _ (r : Int) (by omega) (by omega) w3 (Or.inr hB3) (by rw [Lib.byteCells_length, List.length_append]; simp; omega) hsz3
        rw [runeCells_asc r hlt, byteCells_snoc _ _ (by omega)] at HW2
        have hit3 := hk3.iter hit2 (by omega)
        clear HW hB3 hI2
        go_wp2_with (go_at_call 48; with_reducible refine HW2.mono ?_; rintro e w4 ⟨⟨v4, rfl⟩, hB4, hb4, hk4⟩)
        have hit4 := hk4.iter hit3 (by omega)
        go_roundw
        case rel => exact ⟨pos + 1, acc ++ [44] ++ [UInt8.ofNat r], Or.inr hB4, hit4, (hbw2.trans hb3).trans hb4, HX, by omega, by simp; omega⟩
        case measure =>
          have e3 := HMM.out
          simp only [World.iterPos, hit2, hit4] at e3 ⊢
          exact e3
      · have HX : Hid (acc ++ [UInt8.ofNat r] ++ grpA n (pos + 1) (D.drop (pos + 1)) = grpL D) := by
          show _ = _
          rw [← HC2]
          show _ = acc ++ ((if 0 < pos ∧ (n - pos) % 3 = 0 then _ else _) ++ _)
          rw [if_neg hcm]
          simp
        have HW2 := writeRune_any w.heap.size w.heap.size _ (r : Int) (by omega) (by omega) W2 hI2 (by rw [Lib.byteCells_length]; omega) hsz2
        rw [runeCells_asc r hlt, byteCells_snoc _ _ (by omega)] at HW2
        obtain ⟨mm, hmm⟩ : ∃ mm : Nat, (n : Int) - (pos : Int) = (mm : Int) := ⟨n - pos, by omega⟩
        by_cases h0 : 0 < pos
        · have hrem : ¬ mm % 3 = 0 := fun h => hcm ⟨h0, by omega⟩
          have hrem2 : (mm % 3 == 0) = false := by rw [beq_eq_false_iff_ne]; exact hrem
          have h0' : (0 : Int) < (pos : Int) := by omega
          clear HC2 hcm
          go_wp2_with (go_at_call 48; with_reducible refine HW2.mono ?_; rintro e w4 ⟨⟨v4, rfl⟩, hB4, hb4, hk4⟩)
          have hit4 := hk4.iter hit2 (by omega)
          go_roundw
          case rel => exact ⟨pos + 1, acc ++ [UInt8.ofNat r], Or.inr hB4, hit4, hbw2.trans hb4, HX, by omega, by simp; omega⟩
          case measure =>
            have e3 := HMM.out
            simp only [World.iterPos, hit2, hit4] at e3 ⊢
            exact e3
        · have hz : decide ((0 : Int) < (pos : Int)) = false := decide_eq_false (by omega)
          have hz2 : decide (0 < pos) = false := decide_eq_false (by omega)
          clear HC2 hcm
          go_wp2_with (go_at_call 48; with_reducible refine HW2.mono ?_; rintro e w4 ⟨⟨v4, rfl⟩, hB4, hb4, hk4⟩)
          have hit4 := hk4.iter hit2 (by omega)
          go_roundw
          case rel => exact ⟨pos + 1, acc ++ [UInt8.ofNat r], Or.inr hB4, hit4, hbw2.trans hb4, HX, by omega, by simp; omega⟩
          case measure =>
            have e3 := HMM.out
            simp only [World.iterPos, hit2, hit4] at e3 ⊢
            exact e3
    · have hp' : ¬ pos < s.size := by omega
      have hnx : ∀ ty, (Instr.next (.pointer (some ⟨w.heap.size + 1, 0, none⟩)) true ty).run Tryz.prog wr = _ := fun ty => Lib.run_next_end_at wr (w.heap.size + 1) s pos ty hit hp'
      have HX : Hid (acc = grpL D) := by
        show _ = _
        have := HC.out
        rw [List.drop_of_length_le (by rw [HL.out]; omega)] at this
        simpa [grpA] using this
      have HS := bldString_any w.heap.size w.heap.size _ wr hI (by omega)
      clear HC
      go_wp2_with (go_at_call 49; refine HS.mono ?_; rintro e w4 ⟨rfl, hb4⟩)
      go_ret
      rw [← HX.out]
      exact ⟨rfl, Fr.ofBelow (hbw.trans hb4)⟩
#print axioms grouped_any
end Go.Proofs.YtnklmcmdlobicaaGreatDoor
