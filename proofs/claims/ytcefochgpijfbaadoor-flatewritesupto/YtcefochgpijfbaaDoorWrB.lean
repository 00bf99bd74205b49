/- More contracts of the writer: Align, Bytes. -/
import Derived.Test.YtcefochgpijfbaaDoorWr2
namespace Go.Proofs.YtcefochgpijfbaaDoor
open Go.RowKit

set_option maxRecDepth 100000 in
set_option maxHeartbeats 400000 in
theorem walign_raw (wb nb m cap : Nat) (so : Option Addr) (w : World) (h : WrAt w wb (.slice so m cap) nb) (hm : m ≤ 140737488355328) :
    Calls Tryd.prog 82 #[.pointer (some ⟨wb, 0, none⟩)] w fun e w' => e = .returned (.tuple #[]) ∧ WrAt w' wb (.slice so m cap) (8 * m) ∧ w' = w.setCell ⟨wb, 2, none⟩ (.int .i64 ((8 * m : Nat) : Int)) := by
  have c1 := cellOf (o := 1) h rfl
  have c2 := cellOf (o := 2) h rfl
  have f2 := freeOf 2 h
  go_enter Tryd.func82, Tryd.ntmps82
  go_wp2_with (go_at_call 44; refine (wready_any _ _ _ _ h).mono ?_; rintro e w' ⟨rfl, rfl⟩)
  go_end0
  rw [show (8 * (m : Int)) = ((8 * m : Nat) : Int) from by omega]
  refine ⟨rfl, ?_, rfl⟩
  have := setOf 2 (.int .i64 ((8 * m : Nat) : Int)) h
  simpa [WrAt] using this
theorem walign_any (wb : Nat) (l : List Bool) (w : World) (h : WrIs w wb l) (hl : l.length ≤ 1125899906842000) :
    Calls Tryd.prog 82 #[.pointer (some ⟨wb, 0, none⟩)] w fun e w' => e = .returned (.tuple #[]) ∧ WrIs w' wb (alignB l) ∧ Fr (wS w wb) w w' := by
  obtain ⟨sv, hW, hown⟩ := h
  obtain ⟨so, cap, rfl, h1, h2, h3, h4, h5⟩ := own_slice hown
  refine (walign_raw wb _ _ cap so w hW (by simp; omega)).mono ?_
  rintro e w' ⟨he, hW', rfl⟩
  refine ⟨he, ⟨.slice so (packB l).length cap, ?_, ?_⟩, (Fr.refl _ _).setCell ⟨wb, 2, none⟩ (Or.inl (Or.inl rfl)) _⟩
  · rw [alignB_length, ← packB_length]; exact hW'
  · rw [packB_align]; exact own_setWr hown 2 _
set_option maxRecDepth 100000 in
set_option maxHeartbeats 800000 in
theorem wbytes_any (wb : Nat) (l : List Bool) (v : Value) (D : List Nat) (w : World) (h : WrIs w wb l) (hv : Bs w v D) (hD : ∀ x ∈ D, x < 256) (hl : (packB l).length + D.length ≤ 140737488355328) :
    Calls Tryd.prog 57 #[.pointer (some ⟨wb, 0, none⟩), v] w fun e w' => e = .returned (.int .i64 0) ∧ WrIs w' wb (alignB l ++ bitsOf D) ∧ Fr (wS w wb) w w' := by
  obtain ⟨i0, hi, hz0, hz1, hz2⟩ := info_parts Tryd.info5
  obtain ⟨sv, hW, hown⟩ := h
  have hwS := wS_own hown
  have hne := own_ne hown
  have hwb := lt_of_block hW
  obtain ⟨so, cap, rfl, h1, h2, h3, h4, h5⟩ := own_slice hown
  obtain ⟨ao, vcap, rfl, g1, g2, g4, g3⟩ := hv
  have hsrc : Src w ao (byteVals D) := Src.of (by
    rcases g3 with g3 | ⟨b, off, rfl, hb, hc⟩
    · exact Or.inl g3
    · exact Or.inr ⟨b, off, rfl, hc⟩)
  obtain ⟨N, hN⟩ : ∃ N, N = (packB l).length := ⟨_, rfl⟩
  obtain ⟨cs, hcs⟩ : ∃ cs, cs = byteVals (packB l) := ⟨_, rfl⟩
  have HN : Hid (N = (packB l).length) := hN
  have HC : Hid (cs = byteVals (packB l)) := hcs
  rw [← hN] at hW h1 hown hl hwS hne
  rw [← hcs] at hown
  clear hN hcs
  have hmx : N + D.length ≤ maxLen := by unfold maxLen; omega
  have c1 := cellOf (o := 1) hW rfl
  clear g3 h4 h5
  go_enter Tryd.func57, Tryd.ntmps57
  go_wp2_with (first | (go_at_call 44; refine (wready_any _ _ _ _ hW).mono ?_; rintro e w' ⟨rfl, rfl⟩) | (at_builtin; refine wpList_append_src rfl (.tmp 12) (.tmp 13) 22 rfl (wb + 1) 5 i0 (.int .u8 0) 1 Tryd.underlying22 hi hz0 hz1 hz2 rfl _ N cs rfl hown ao D.length vcap rfl g4 g1 (byteVals D) (by simp) hsrc (byteVals_one D) hmx (by omega) (by omega) ?_))
  intro v' w1 hown1 hg1
  obtain ⟨so', cap', hv', k1, k2, k3, k4, k5⟩ := own_slice hown1
  rw [hv']
  have hF1 : Fr (wS w' wb) w' w1 := (Fr.refl (wS w' wb) w').grown hg1 (fun k hk => Or.inl (hwS k hk))
  have hW1 : WrAt w1 wb (.slice so N cap) l.length := (hg1.block wb hwb (fun e => hne e.symm)).trans hW
  have d1 := cellOf (o := 1) hW1 rfl
  have f1 := freeOf 1 hW1
  have hW2 : WrAt (w1.setCell ⟨wb, 1, none⟩ (.slice so' (N + D.length) cap')) wb (.slice so' (N + D.length) cap') l.length := by
    have := setOf 1 (.slice so' (N + D.length) cap') hW1
    simpa [WrAt] using this
  have HO : Hid (w1.ownsRow (wb + 1) 5 1 v' (N + D.length) (cs ++ byteVals D)) := hown1
  have HV : Hid (v' = .slice so' (N + D.length) cap') := hv'
  clear hown1 hg1 k3 k4 k5 hsrc c1 hv' hwS hne hW hown
  go_wp2_with fail
  refine (walign_raw wb l.length (N + D.length) cap' so' _ hW2 (by omega)).mono ?_
  rintro e w5 ⟨rfl, hW5, rfl⟩
  go_wp2_with fail
  go_ret
  have hO := HO.out
  rw [HV.out, HN.out, HC.out] at hO
  rw [HN.out] at hW5 ⊢
  have hal : (alignB l).length % 8 = 0 := by rw [alignB_length]; omega
  have hpk : packB (alignB l ++ bitsOf D) = packB l ++ D := by rw [packB_bytes _ _ hal hD, packB_align]
  refine ⟨rfl, ⟨.slice so' ((packB l).length + D.length) cap', ?_, ?_⟩, ?_⟩
  · rw [show (alignB l ++ bitsOf D).length = 8 * ((packB l).length + D.length) from by simp [alignB_length]; omega]
    exact hW5
  · rw [hpk, show byteVals (packB l ++ D) = byteVals (packB l) ++ byteVals D from by simp [byteVals], List.length_append]
    exact own_setWr (own_setWr hO 1 _) 2 _
  · exact (hF1.setCell ⟨wb, 1, none⟩ (Or.inl (Or.inl rfl)) _).setCell ⟨wb, 2, none⟩ (Or.inl (Or.inl rfl)) _
end Go.Proofs.YtcefochgpijfbaaDoor
