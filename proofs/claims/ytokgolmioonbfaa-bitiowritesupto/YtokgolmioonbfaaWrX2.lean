/- The contracts of bitio.Writer's methods, with the blocks that they turn told exactly. -/
import Derived.Test.YtokgolmioonbfaaWrX
namespace Go.Proofs.Ytokgolmioonbfaa
open Go.RowKit

/-- Block wb is a writer over the slice sv that has the bits l. -/
def WrSt (w : World) (wb : Nat) (sv : Value) (l : List Bool) : Prop := WrAt w wb sv l.length ∧ w.ownsRow (wb + 1) 5 1 sv (packB l).length (byteVals (packB l))
theorem WrSt.is {w : World} {wb : Nat} {sv : Value} {l : List Bool} (h : WrSt w wb sv l) : WrIs w wb l := ⟨sv, h⟩

theorem put_x (wb : Nat) (sv : Value) (l : List Bool) (b : Bool) (w : World) (h : WrSt w wb sv l) (hl : l.length ≤ 1125899906842000) :
    Calls Try.prog 42 #[.pointer (some ⟨wb, 0, none⟩), .int .u32 ((b.toNat : Nat) : Int)] w fun e w' => e = .returned (.tuple #[]) ∧ ∃ sv', WrSt w' wb sv' (l ++ [b]) ∧ WStep wb w sv w' sv' := by
  obtain ⟨hW, hown⟩ := h
  have hb : b.toNat ≤ 1 := by cases b <;> simp
  by_cases h8 : l.length % 8 = 0
  · refine (put_growx wb l.length b.toNat sv (packB l) w hW hown hb h8 (by simp; omega) (by simp; omega)).mono ?_
    rintro e w' ⟨he, sv', h1, h2, h3⟩
    refine ⟨he, sv', ⟨by simpa using h1, ?_⟩, h3⟩
    rw [packB_grow l b h8]
    simpa using h2
  · have hlen : 0 < (packB l).length := by simp; omega
    obtain ⟨g, cap, cur, rfl, hg, hrow, hn, hm, hc, ht⟩ := own_row hown hlen
    have hi : l.length / 8 < (l.length + 7) / 8 := by omega
    have hx : cur[l.length / 8]? = some (.int .u8 ((byteOf l (l.length / 8) : Nat) : Int)) := by
      have h1 : (cur.toList.take (packB l).length)[l.length / 8]? = some (.int .u8 ((byteOf l (l.length / 8) : Nat) : Int)) := by
        rw [ht, byteVals_get _ _ (by simpa using hi), packB_get _ _ hi]
      rw [List.getElem?_take_of_lt (by simpa using hi)] at h1
      simpa using h1
    refine (put_stayx wb l.length b.toNat g _ cap _ cur (packB l) w hW hg hrow hn hm hc ht hb h8 (by simpa using hi) hx (byteOf_last l) (by omega)).mono ?_
    rintro e w' ⟨he, h1, h2, h3⟩
    refine ⟨he, .slice (some ⟨g, 0, none⟩) (packB l).length cap, ⟨by rw [show (l ++ [b]).length = l.length + 1 from by simp]; exact h1, ?_⟩, ⟨h3, Or.inl rfl⟩⟩
    have hpl : (packB (l ++ [b])).length = (packB l).length := by simp; omega
    rw [hpl, packB_stay l b h8]
    exact h2

set_option maxHeartbeats 800000 in
theorem wbits_x (wb v n : Nat) (sv : Value) (l : List Bool) (w : World) (h : WrSt w wb sv l) (hn : n ≤ 32) (hv : v < 2 ^ n) (hl : l.length ≤ 1125899906841900) :
    Calls Try.prog 25 #[.pointer (some ⟨wb, 0, none⟩), .int .u32 (v : Int), .int .i64 (n : Int)] w fun e w' => e = .returned (.int .i64 0) ∧ ∃ sv', WrSt w' wb sv' (l ++ bitsN v n) ∧ WStep wb w sv w' sv' := by
  have hv32 : v < 4294967296 := by have := pow_le_32 n hn; omega
  have hq : (v : Int) / 2 ^ n = 0 := by
    have h2 : ((v : Int) / 2 ^ n) = ((v / 2 ^ n : Nat) : Int) := by simp
    rw [h2, Nat.div_eq_of_lt hv]; rfl
  have hW0 := h.1
  clear hv
  go_enter Try.func25, Try.ntmps25
  go_wp2_with (first | (go_at_call 41; refine (wready_any _ _ _ _ hW0).mono ?_; rintro e w' ⟨rfl, rfl⟩) | (go_at_call 37; refine (countable_yes _ _ (by omega) (by omega)).mono ?_; rintro e w' ⟨rfl, rfl⟩))
  go_loopw [21] (fun i wr => ∃ k : Nat, k ≤ n ∧ i = .int .i64 (k : Int) ∧ (∃ s', WrSt wr wb s' (l ++ bitsN v k) ∧ WStep wb w' sv wr s')) (fun i _ => n - (intOf i).toNat)
  case atStart => exact ⟨0, Nat.zero_le _, rfl, sv, by simpa [bitsN] using h, WStep.refl _ _ _⟩
  case round =>
    clear h hW0 hq
    obtain ⟨k, hk, rfl, s', hI, hF⟩ := hrel
    by_cases hlt : k < n
    · go_wp2_with fail
      refine (bitOf_any v k _ hv32 (by omega) (by omega)).mono ?_
      rintro e w5 ⟨rfl, rfl⟩
      go_wp2_with fail
      rw [show bitN v k = (v.testBit k).toNat from rfl]
      refine (put_x wb s' (l ++ bitsN v k) (v.testBit k) _ hI (by simp; omega)).mono ?_
      rintro e w6 ⟨rfl, s6, hI6, hF6⟩
      go_wp2_with fail
      go_roundw
      case rel => exact ⟨k + 1, by omega, by go_num, s6, by rw [bitsN_succ, ← List.append_assoc]; exact hI6, hF.trans hF6⟩
      case measure => simp [intOf]; omega
    · go_wp2_with fail
      go_ret
      have : k = n := by omega
      subst this
      exact ⟨rfl, s', hI, hF⟩

theorem walign_x (wb : Nat) (sv : Value) (l : List Bool) (w : World) (h : WrSt w wb sv l) (hl : l.length ≤ 1125899906842000) :
    Calls Try.prog 27 #[.pointer (some ⟨wb, 0, none⟩)] w fun e w' => e = .returned (.tuple #[]) ∧ ∃ sv', WrSt w' wb sv' (alignB l) ∧ WStep wb w sv w' sv' := by
  obtain ⟨hW, hown⟩ := h
  obtain ⟨so, cap, rfl, h1, h2, h3, h4, h5⟩ := own_slice hown
  refine (walign_raw wb _ _ cap so w hW (by simp; omega)).mono ?_
  rintro e w' ⟨he, hW', rfl⟩
  refine ⟨he, .slice so (packB l).length cap, ⟨?_, ?_⟩, (Fr.refl _ _).setCell ⟨wb, 2, none⟩ (Or.inl (Or.inl rfl)) _, Or.inl rfl⟩
  · rw [alignB_length, ← packB_length]; exact hW'
  · rw [packB_align]; exact own_setWr hown 2 _

set_option maxHeartbeats 800000 in
theorem wbytes_x (wb : Nat) (sv : Value) (l : List Bool) (v : Value) (D : List Nat) (w : World) (h : WrSt w wb sv l) (hv : Bs w v D) (hD : ∀ x ∈ D, x < 256) (hl : (packB l).length + D.length ≤ 140737488355328) :
    Calls Try.prog 29 #[.pointer (some ⟨wb, 0, none⟩), v] w fun e w' => e = .returned (.int .i64 0) ∧ ∃ sv', WrSt w' wb sv' (alignB l ++ bitsOf D) ∧ WStep wb w sv w' sv' := by
  obtain ⟨i0, hi, hz0, hz1, hz2⟩ := info_parts Try.info5
  obtain ⟨hW, hown⟩ := h
  have hne := own_ne hown
  have hwb := lt_of_block hW
  obtain ⟨so, cap, rfl, h1, h2, h3, h4, h5⟩ := own_slice hown
  obtain ⟨ao, vcap, rfl, g1, g2, g4, g3⟩ := hv
  have hsrc : Src w ao (byteVals D) := Src.of (by
    rcases g3 with g3 | ⟨b, off, rfl, hb, hc⟩
    · exact Or.inl g3
    · exact Or.inr ⟨b, off, rfl, hc⟩)
  obtain ⟨N, hN⟩ : ∃ N, N = (packB l).length := ⟨_, rfl⟩
  obtain ⟨cs, hcs⟩ : ∃ cs, cs = byteVals (packB l) := ⟨_, rfl⟩
  have HN : Hid (N = (packB l).length) := hN
  have HC : Hid (cs = byteVals (packB l)) := hcs
  rw [← hN] at hW h1 hown hl hne ⊢
  rw [← hcs] at hown
  clear hN hcs
  have hmx : N + D.length ≤ maxLen := by unfold maxLen; omega
  have c1 := cellOf (o := 1) hW rfl
  clear g3 h4 h5
  go_enter Try.func29, Try.ntmps29
  go_wp2_with (first | (go_at_call 41; refine (wready_any _ _ _ _ hW).mono ?_; rintro e w' ⟨rfl, rfl⟩) | (at_builtin; refine wpList_append_srcx rfl (.tmp 12) (.tmp 13) 22 rfl (wb + 1) 5 i0 (.int .u8 0) 1 Try.underlying22 hi hz0 hz1 hz2 rfl _ N cs rfl hown ao D.length vcap rfl g4 g1 (byteVals D) (by simp) hsrc (byteVals_one D) hmx (by omega) (by omega) ?_))
  intro v' w1 hown1 hg1 hat1
  obtain ⟨so', cap', hv', k1, k2, k3, k4, k5⟩ := own_slice hown1
  rw [hv']
  have hF1 : Fr (pS wb (.slice so N cap)) w' w1 := (Fr.refl _ w').grown hg1 (fun k hk => Or.inl (Or.inr hk))
  have hgat : (Value.slice so' (N + D.length) cap').ownBlock = (Value.slice so N cap).ownBlock ∨ ∀ k, (Value.slice so' (N + D.length) cap').ownBlock = some k → w'.heap.size ≤ k := by
    rw [hv'] at hat1
    rcases hat1 with h' | h'
    · exact Or.inl h'
    · right; intro k hk; rw [h'] at hk; simp at hk; omega
  have HG : Hid ((Value.slice so' (N + D.length) cap').ownBlock = (Value.slice so N cap).ownBlock ∨ ∀ k, (Value.slice so' (N + D.length) cap').ownBlock = some k → w'.heap.size ≤ k) := hgat
  have hW1 : WrAt w1 wb (.slice so N cap) l.length := (hg1.block wb hwb (fun e => hne e.symm)).trans hW
  have d1 := cellOf (o := 1) hW1 rfl
  have f1 := freeOf 1 hW1
  have hW2 : WrAt (w1.setCell ⟨wb, 1, none⟩ (.slice so' (N + D.length) cap')) wb (.slice so' (N + D.length) cap') l.length := by
    have := setOf 1 (.slice so' (N + D.length) cap') hW1
    simpa [WrAt] using this
  have HO : Hid (w1.ownsRow (wb + 1) 5 1 v' (N + D.length) (cs ++ byteVals D)) := hown1
  have HV : Hid (v' = .slice so' (N + D.length) cap') := hv'
  clear hown1 hg1 k3 k4 k5 hsrc c1 hv' hne hW hown hat1 hgat
  go_wp2_with fail
  refine (walign_raw wb l.length (N + D.length) cap' so' _ hW2 (by omega)).mono ?_
  rintro e w5 ⟨rfl, hW5, rfl⟩
  go_wp2_with fail
  go_ret
  have hO := HO.out
  rw [HV.out, HC.out] at hO
  rw [show (8 * ((N : Int) + (D.length : Int))) = ((8 * (N + D.length) : Nat) : Int) from by omega]
  have hal : (alignB l).length % 8 = 0 := by rw [alignB_length]; omega
  have hpk : packB (alignB l ++ bitsOf D) = packB l ++ D := by rw [packB_bytes _ _ hal hD, packB_align]
  refine ⟨rfl, .slice so' (N + D.length) cap', ⟨?_, ?_⟩, ⟨?_, HG.out⟩⟩
  · rw [show (alignB l ++ bitsOf D).length = 8 * (N + D.length) from by rw [HN.out]; simp [alignB_length]; omega]
    exact hW5
  · rw [hpk, show byteVals (packB l ++ D) = byteVals (packB l) ++ byteVals D from by simp [byteVals], List.length_append, ← HN.out]
    exact own_setWr (own_setWr hO 1 _) 2 _
  · exact (hF1.setCell ⟨wb, 1, none⟩ (Or.inl (Or.inl rfl)) _).setCell ⟨wb, 2, none⟩ (Or.inl (Or.inl rfl)) _
end Go.Proofs.Ytokgolmioonbfaa
