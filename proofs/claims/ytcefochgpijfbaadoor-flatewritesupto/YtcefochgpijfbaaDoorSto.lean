/- The contracts of putHead, putStoredBlock, putStored, Stored. -/
import Derived.Test.YtcefochgpijfbaaDoorWrB
import Derived.Test.YtcefochgpijfbaaDoorStoM
import Derived.Test.YtcefochgpijfbaaDoorEq
import Derived.Deep.LoopGhost
namespace Go.Proofs.YtcefochgpijfbaaDoor
open Go.RowKit

/-- v reads D, in blocks below n. -/
def BsLow (n : Nat) (w : World) (v : Value) (D : List Nat) : Prop := Bs w v D ∧ (D = [] ∨ ∀ b off len cap, v = .slice (some ⟨b, off, none⟩) len cap → b < n)
theorem BsLow.fr {n : Nat} {S : Nat → Prop} {w w' : World} {v : Value} {D : List Nat} (h : BsLow n w v D) (hF : Fr S w w') (hS : ∀ k, k < n → ¬ S k) : BsLow n w' v D := by
  refine ⟨?_, h.2⟩
  obtain ⟨ao, cap, rfl, h1, h2, h4, h3⟩ := h.1
  refine ⟨ao, cap, rfl, h1, h2, h4, ?_⟩
  rcases h3 with h3 | ⟨b, off, rfl, hb, hc⟩
  · exact Or.inl h3
  · rcases h.2 with h5 | h5
    · exact Or.inl h5
    · have hbn := h5 b off _ _ rfl
      exact Or.inr ⟨b, off, rfl, Nat.lt_of_lt_of_le hb hF.size, fun i hi => (hF.cell (a := ⟨b, off + i, none⟩) hb (hS b hbn)).trans (hc i hi)⟩
theorem BsLow.wr {wb : Nat} {w w' : World} {v : Value} {D : List Nat} (h : BsLow wb w v D) (hF : Fr (wS w wb) w w') : BsLow wb w' v D :=
  h.fr hF (fun k hk hs => by rcases hs with e | ⟨e, _⟩ <;> omega)
theorem BsLow.of {w : World} {v : Value} {D : List Nat} (h : Bs w v D) : BsLow w.heap.size w v D := by
  refine ⟨h, ?_⟩
  obtain ⟨ao, cap, rfl, h1, h2, h4, h3⟩ := h
  rcases h3 with h3 | ⟨b, off, rfl, hb, hc⟩
  · exact Or.inl h3
  · right
    intro b' off' len cap' e
    simp at e
    omega
theorem BsLow.take {n k : Nat} {w : World} {ao : Option Addr} {cap : Nat} {D : List Nat} (h : BsLow n w (.slice ao D.length cap) D) (hk : k ≤ D.length) : BsLow n w (.slice ao k cap) (D.take k) := by
  have hl : (D.take k).length = k := by simp; omega
  obtain ⟨⟨ao', cap', e, h1, h2, h4, h3⟩, h5⟩ := h
  simp at e
  obtain ⟨rfl, rfl⟩ := e
  refine ⟨⟨ao, cap, by rw [hl], by omega, h2, h4, ?_⟩, ?_⟩
  · rcases h3 with rfl | ⟨b, off, rfl, hb, hc⟩
    · left; simp
    · right
      refine ⟨b, off, rfl, hb, fun i hi => ?_⟩
      rw [List.getElem_take]
      exact hc i (by omega)
  · rcases h5 with rfl | h5
    · left; simp
    · right
      intro b off len cap' e
      simp at e
      exact h5 b off _ _ (by rw [e.1])
theorem BsLow.drop {n k b off : Nat} {w : World} {cap : Nat} {D : List Nat} (h : BsLow n w (.slice (some ⟨b, off, none⟩) D.length cap) D) (hk : k ≤ D.length) (hD : D ≠ []) : BsLow n w (.slice (some ⟨b, off + k, none⟩) (D.length - k) (cap - k)) (D.drop k) := by
  have hl : (D.drop k).length = D.length - k := by simp
  obtain ⟨⟨ao', cap', e, h1, h2, h4, h3⟩, h5⟩ := h
  simp at e
  obtain ⟨rfl, rfl⟩ := e
  refine ⟨⟨_, cap - k, by rw [hl], by omega, by omega, by simp, ?_⟩, ?_⟩
  · rcases h3 with h3 | ⟨b', off', e, hb, hc⟩
    · exact absurd h3 hD
    · simp at e
      obtain ⟨rfl, rfl⟩ := e
      right
      refine ⟨b, off + k, rfl, hb, fun i hi => ?_⟩
      rw [List.getElem_drop, Nat.add_assoc]
      exact hc (k + i) (by omega)
  · rcases h5 with h5 | h5
    · exact absurd h5 hD
    · right
      intro b' off' len cap' e
      simp at e
      rw [← e.1.1]
      exact h5 b off _ _ rfl

set_option maxHeartbeats 400000 in
theorem putHead_any (wb kind : Nat) (fin : Bool) (l : List Bool) (w : World) (h : WrIs w wb l) (hk : kind < 4) (hl : l.length ≤ 1125899906841000) :
    Calls Tryd.prog 29 #[.pointer (some ⟨wb, 0, none⟩), .int .i64 (kind : Int), .bool fin] w fun e w' => e = .returned (.tuple #[]) ∧ WrIs w' wb (l ++ bitsN fin.toNat 1 ++ bitsN kind 2) ∧ Fr (wS w wb) w w' := by
  have HA := wbits_good wb fin.toNat 1 l w h (by decide) (by cases fin <;> decide) (by omega)
  have HB := fun w1 (h1 : WrIs w1 wb (l ++ bitsN fin.toNat 1)) => wbits_good wb kind 2 (l ++ bitsN fin.toNat 1) w1 h1 (by decide) (by simpa using hk) (by simp; omega)
  have HHB : Hid _ := HB
  clear HB
  cases fin with
  | false =>
    go_enter Tryd.func29, Tryd.ntmps29
    go_wp2_with fail
    refine HA.mono ?_
    rintro e w1 ⟨rfl, h1, hF1⟩
    have HC := HHB.out w1 h1
    go_wp2_with fail
    refine HC.mono ?_
    rintro e w2 ⟨rfl, h2, hF2⟩
    go_wp2_with fail
    go_end0
    exact ⟨rfl, h2, wtrans hF1 hF2⟩
  | true =>
    go_enter Tryd.func29, Tryd.ntmps29
    go_wp2_with fail
    refine HA.mono ?_
    rintro e w1 ⟨rfl, h1, hF1⟩
    have HC := HHB.out w1 h1
    go_wp2_with fail
    refine HC.mono ?_
    rintro e w2 ⟨rfl, h2, hF2⟩
    go_wp2_with fail
    go_end0
    exact ⟨rfl, h2, wtrans hF1 hF2⟩

theorem WrIs.stay {S : Nat → Prop} {w w' : World} {wb : Nat} {l : List Bool} (h : WrIs w wb l) (hF : Fr S w w') (hS : ∀ k, wb ≤ k → ¬ S k) : WrIs w' wb l := by
  obtain ⟨sv, h1, h2⟩ := h
  refine ⟨sv, hF.obj h1 (hS wb (Nat.le_refl _)), ?_⟩
  obtain ⟨o1, o2⟩ := h2
  refine ⟨o1, ?_⟩
  rcases o2 with o2 | ⟨g', cap', cur', k1, k2, k3, k4⟩
  · exact Or.inl o2
  · exact Or.inr ⟨g', cap', cur', k1, k2, hF.obj k3 (hS g' (by omega)), k4⟩
theorem xor_255 : ∀ m : Fin 256, 255 ^^^ m.1 = 255 - m.1 := by decide +kernel
theorem compl_u8 (m : Nat) (h : m < 256) (x : Int) (hx : x = (m : Int)) : bits .xor .u8 IntKind.u8.max x = ((255 - m : Nat) : Int) := by
  subst hx
  have e : IntKind.u8.max = ((255 : Nat) : Int) := by decide
  rw [e, u8_xor_nat 255 m (by decide) h, xor_255 ⟨m, h⟩]
theorem four_bs (w : World) (a b c d : Nat) (A B C D : Int) (hA : A = (a : Int)) (hB : B = (b : Int)) (hC : C = (c : Int)) (hD : D = (d : Int)) : Bs (w.alloc (.cells #[.int .u8 A, .int .u8 B, .int .u8 C, .int .u8 D] 5 (0, 0))) (.slice (some ⟨w.heap.size, 0, none⟩) 4 4) [a, b, c, d] := by
  subst hA hB hC hD
  refine ⟨_, 4, rfl, by simp, by decide, by simp, Or.inr ⟨w.heap.size, 0, rfl, by simp, fun i hi => ?_⟩⟩
  rw [Nat.zero_add]
  refine cellOf (heap_alloc_new w _) ?_
  match i, hi with
  | 0, _ => rfl
  | 1, _ => rfl
  | 2, _ => rfl
  | 3, _ => rfl
theorem head_pack (l : List Bool) (fin : Bool) (h : l.length % 8 = 0) : packB (l ++ bitsN fin.toNat 1 ++ bitsN 0 2) = packB l ++ [fin.toNat] := by
  rw [List.append_assoc, packB_app _ _ h]
  congr 1
  cases fin <;> decide

set_option maxRecDepth 100000 in
set_option maxHeartbeats 800000 in
theorem putBlk_any (wb : Nat) (v : Value) (D : List Nat) (fin : Bool) (l : List Bool) (w : World) (h : WrIs w wb l) (h8 : l.length % 8 = 0) (hv : BsLow wb w v D) (hD : ∀ x ∈ D, x < 256) (hDl : D.length ≤ 65535) (hl : (packB l).length ≤ 137438953472) :
    Calls Tryd.prog 43 #[.pointer (some ⟨wb, 0, none⟩), v, .bool fin] w fun e w' => e = .returned (.tuple #[]) ∧ (∃ l', WrIs w' wb l' ∧ l'.length % 8 = 0 ∧ packB l' = packB l ++ blkB fin.toNat D) ∧ Fr (wS w wb) w w' := by
  have hll : l.length ≤ 1125899906841000 := by simp [packB] at hl; omega
  have HA := putHead_any wb 0 fin l w h (by decide) hll
  have HP := head_pack l fin h8
  have HHP : Hid _ := HP
  have HV : Hid (BsLow wb w v D) := hv
  obtain ⟨ao, cap, rfl, b1, b2, b4, _⟩ := hv.1
  have hlb : l.length ≤ 1099511627776 := by simp [packB] at hl; omega
  obtain ⟨n, hn⟩ : ∃ n, D.length = n := ⟨_, rfl⟩
  have HN : Hid (D.length = n) := hn
  have HDD : Hid (∀ x ∈ D, x < 256) := hD
  unfold maxLen at b2
  rw [hn] at hDl b1 ⊢
  have x1 := compl_u8 (n % 256) (by omega) ((n : Int) % 256) (by omega)
  have x2 := compl_u8 (n / 256) (by omega) ((n : Int) / 256) (by omega)
  clear hv hn h HP hD
  go_enter Tryd.func43, Tryd.ntmps43
  go_wp2_with fail
  refine HA.mono ?_
  rintro e w1 ⟨rfl, h1, hF1⟩
  go_wp2_with fail
  obtain ⟨W2, hW2⟩ : ∃ W2, w1.alloc (.cells #[.int .u8 ((n : Int) % 256), .int .u8 ((n : Int) / 256), .int .u8 ((255 - n % 256 : Nat) : Int), .int .u8 ((255 - n / 256 : Nat) : Int)] 5 (0, 0)) = W2 := ⟨_, rfl⟩
  have hb4 : Bs W2 (.slice (some ⟨w1.heap.size, 0, none⟩) 4 4) [n % 256, n / 256, 255 - n % 256, 255 - n / 256] := by
    rw [← hW2]
    exact four_bs w1 _ _ _ _ _ _ _ _ (by omega) (by omega) rfl rfl
  have hF12 : Fr noB w1 W2 := by rw [← hW2]; exact (Fr.refl noB w1).alloc _
  have h2 : WrIs W2 wb (l ++ bitsN fin.toNat 1 ++ bitsN 0 2) := h1.stay hF12 (fun _ _ h => h)
  have hp2 : (packB (l ++ bitsN fin.toNat 1 ++ bitsN 0 2)).length ≤ 137438953473 := by rw [HHP.out]; simp; omega
  rw [hW2]
  refine (wbytes_any wb _ _ _ W2 h2 hb4 (by intro y hy; simp at hy; omega) (by simp; omega)).mono ?_
  rintro e w3 ⟨rfl, h3, hF3⟩
  have hp3 : packB (alignB (l ++ bitsN fin.toNat 1 ++ bitsN 0 2) ++ bitsOf [n % 256, n / 256, 255 - n % 256, 255 - n / 256]) = packB l ++ [fin.toNat, n % 256, n / 256, 255 - n % 256, 255 - n / 256] := by
    rw [packB_more _ _ (by intro y hy; simp at hy; omega), HHP.out, List.append_assoc]
    rfl
  have hA3 : Fr (wS w wb) w w3 := wtrans (hF1.trans hF12.weak) hF3
  have hv3 : BsLow wb w3 (.slice ao n cap) D := by
    have := HV.out.wr hA3
    rw [HN.out] at this
    exact this
  have HP3 : Hid _ := hp3
  obtain ⟨l3, hl3⟩ : ∃ l3, alignB (l ++ bitsN fin.toNat 1 ++ bitsN 0 2) ++ bitsOf [n % 256, n / 256, 255 - n % 256, 255 - n / 256] = l3 := ⟨_, rfl⟩
  rw [hl3] at h3 HP3
  have hp3l : (packB l3).length ≤ 137438953500 := by rw [HP3.out]; simp; omega
  clear hl3 hp3 hb4 h2 hp2 h1 x1 x2 HA
  go_wp2_with fail
  refine (wbytes_any wb l3 (.slice ao n cap) D w3 h3 hv3.1 HDD.out (by have := HN.out; omega)).mono ?_
  rintro e w4 ⟨rfl, h4, hF4⟩
  go_wp2_with fail
  go_end0
  refine ⟨rfl, ⟨alignB l3 ++ bitsOf D, h4, bitsOf_mod _ _ (alignB_mod l3), ?_⟩, wtrans hA3 hF4⟩
  rw [packB_more _ _ HDD.out, HP3.out, List.append_assoc]
  unfold blkB
  rw [HN.out]
#print axioms putBlk_any
end Go.Proofs.YtcefochgpijfbaaDoor
