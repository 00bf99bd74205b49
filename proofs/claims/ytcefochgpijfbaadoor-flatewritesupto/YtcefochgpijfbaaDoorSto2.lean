/- The contracts of putStored and Stored. -/
import Derived.Test.YtcefochgpijfbaaDoorSto
namespace Go.Proofs.YtcefochgpijfbaaDoor
open Go.RowKit

set_option maxRecDepth 100000 in
set_option maxHeartbeats 1600000 in
theorem putSto_any (wb : Nat) (v : Value) (D : List Nat) (fin : Bool) (l : List Bool) (w : World) (h : WrIs w wb l) (h8 : l.length % 8 = 0) (hv : BsLow wb w v D) (hD : ∀ x ∈ D, x < 256) (hDl : D.length ≤ 1073741824) (hl : (packB l).length ≤ 68719476736) :
    Calls Tryd.prog 27 #[.pointer (some ⟨wb, 0, none⟩), v, .bool fin] w fun e w' => e = .returned (.tuple #[]) ∧ (∃ l', WrIs w' wb l' ∧ l'.length % 8 = 0 ∧ packB l' = packB l ++ storedF fin.toNat D) ∧ Fr (wS w wb) w w' := by
  have HSl : Hid ((storedF fin.toNat D).length ≤ 4294967296) := by
    have := storedF_len fin.toNat D
    show (storedF fin.toNat D).length ≤ 4294967296
    omega
  have HD : Hid (∀ x ∈ D, x < 256) := hD
  have H0 : Hid (WrIs w wb l ∧ BsLow wb w v D) := ⟨h, hv⟩
  obtain ⟨ao, cap, rfl, b1, b2, b4, _⟩ := hv.1
  clear hv h hD
  go_enter Tryd.func27, Tryd.ntmps27
  go_wp2_with fail
  go_loopg [1] D.length (fun gh bv wr => ∃ (E : List Nat) (k : List Bool), gh = E.length ∧ E.length ≤ D.length ∧ BsLow wb wr bv E ∧ Hid (∀ x ∈ E, x < 256) ∧ WrIs wr wb k ∧ k.length % 8 = 0 ∧ Hid (packB k ++ storedF fin.toNat E = packB l ++ storedF fin.toNat D) ∧ Fr (wS w wb) w wr)
  case atStart => exact ⟨D, l, rfl, Nat.le_refl _, H0.out.2, HD.out, H0.out.1, h8, rfl, Fr.refl _ _⟩
  case round =>
    obtain ⟨E, k, rfl, hEl, hE, HE, hW, hk8, HX, hF⟩ := hrel
    have hkl : (packB k).length ≤ 137438953472 := by
      have e := congrArg List.length HX.out
      have := HSl.out
      simp only [List.length_append] at e
      omega
    have HBs : Hid (BsLow wb wr _ E) := hE
    obtain ⟨eo, ecap, rfl, e1, e2, e4, e3⟩ := hE.1
    unfold maxLen at e2
    by_cases hlt : 65535 < E.length
    · have hne : E ≠ [] := by intro e; rw [e] at hlt; simp at hlt
      rcases e3 with e3 | ⟨b, off, rfl, hb, hc⟩
      · exact absurd e3 hne
      · have HTk := HBs.out.take (k := 65535) (by omega)
        have HDr := HBs.out.drop (k := 65535) (by omega) hne
        have HPB := putBlk_any wb (.slice (some ⟨b, off, none⟩) 65535 ecap) (E.take 65535) false k wr hW hk8 HTk (fun x hx => HE.out x (List.mem_of_mem_take hx)) (by simp; omega) hkl
        have HDR : Hid (BsLow wb wr (.slice (some ⟨b, off + 65535, none⟩) (E.length - 65535) (ecap - 65535)) (E.drop 65535)) := HDr
        have HMo : Hid (storedF fin.toNat E = blkB 0 (E.take 65535) ++ storedF fin.toNat (E.drop 65535)) := storedF_more _ _ hlt
        have i1 : (65535 : Int) < (E.length : Int) := by omega
        have i2 : (65535 : Int) ≤ (ecap : Int) := by omega
        have i3 : (E.length : Int) ≤ (ecap : Int) := by omega
        have i4 : ¬ ecap - 65535 = 0 := by omega
        clear hc HTk HDr
        go_wp2_with fail
        refine HPB.mono ?_
        rintro e w1 ⟨rfl, ⟨k1, hW1, hk1, hp1⟩, hF1⟩
        have HP1 : Hid (packB k1 ++ storedF fin.toNat (E.drop 65535) = packB l ++ storedF fin.toNat D) := by
          show packB k1 ++ storedF fin.toNat (E.drop 65535) = packB l ++ storedF fin.toNat D
          rw [hp1, ← HX.out, HMo.out, List.append_assoc]
          rfl
        have HB1 : Hid (BsLow wb w1 (.slice (some ⟨b, off + 65535, none⟩) (E.length - 65535) (ecap - 65535)) (E.drop 65535)) := HDR.out.wr hF1
        clear hp1 HPB
        go_wp2_with fail
        go_roundg (E.length - 65535)
        case measure => omega
        case rel => exact ⟨E.drop 65535, k1, by simp, by simp; omega, HB1.out, fun x hx => HE.out x (List.mem_of_mem_drop hx), hW1, hk1, HP1.out, wtrans hF hF1⟩
    · have HPB := putBlk_any wb (.slice eo E.length ecap) E fin k wr hW hk8 HBs.out HE.out (by omega) hkl
      have HLa : Hid (storedF fin.toNat E = blkB fin.toNat E) := storedF_last _ _ hlt
      have i1 : ¬ (65535 : Int) < (E.length : Int) := by omega
      go_wp2_with fail
      refine HPB.mono ?_
      rintro e w1 ⟨rfl, ⟨k1, hW1, hk1, hp1⟩, hF1⟩
      have HP1 : Hid (packB k1 = packB l ++ storedF fin.toNat D) := by
        show packB k1 = packB l ++ storedF fin.toNat D
        rw [hp1, ← HX.out, HLa.out]
      clear hp1 HPB
      go_wp2_with fail
      go_end0
      exact ⟨rfl, ⟨k1, hW1, hk1, HP1.out⟩, wtrans hF hF1⟩

set_option maxHeartbeats 800000 in
theorem stored_any (v : Value) (D : List Nat) (w : World) (hv : Bs w v D) (hD : ∀ x ∈ D, x < 256) (hDl : D.length ≤ 1073741824) :
    Calls Tryd.prog 14 #[v] w fun e w' => ∃ u, e = .returned u ∧ w'.ownsRow w.heap.size 5 1 u (storedF 1 D).length (byteVals (storedF 1 D)) ∧ Fr noB w w' := by
  have HV : Hid (BsLow w.heap.size w v D) := BsLow.of hv
  have hl0 : (packB ([] : List Bool)).length ≤ 68719476736 := by simp [packB]
  have HSl : Hid ((storedF 1 D).length ≤ 4294967296) := by
    have := storedF_len 1 D
    show (storedF 1 D).length ≤ 4294967296
    omega
  obtain ⟨ao, cap, rfl, b1, b2, b4, _⟩ := hv
  go_enter Tryd.func14, Tryd.ntmps14
  go_wp2_with fail
  refine (newWriter_any w).mono ?_
  rintro e w1 ⟨rfl, hW, hF1, hs1⟩
  have hv1 : BsLow w.heap.size w1 (.slice ao D.length cap) D := HV.out.fr hF1 (fun _ _ h => h)
  have HP := putSto_any w.heap.size (.slice ao D.length cap) D true [] w1 hW (by simp) hv1 hD hDl hl0
  clear hs1
  go_wp2_with fail
  refine HP.mono ?_
  rintro e w2 ⟨rfl, ⟨l, hW2, hl8, hp⟩, hF2⟩
  have hp' : packB l = storedF 1 D := by rw [hp]; simp [packB]
  have hlb : l.length ≤ 1125899906842000 := by
    have e := congrArg List.length hp'
    have := HSl.out
    simp [packB] at e
    omega
  have HO := wout_any w.heap.size l w2 hW2 hlb
  rw [hp'] at HO
  have hFw : Fr noB w w2 := hF1.then hF2 (fun k hk => Or.inr (by rcases hk with e | ⟨e, _⟩ <;> omega))
  clear hp hp' HP
  go_wp2_with fail
  refine HO.mono ?_
  rintro e w3 ⟨u, rfl, hown, hF3⟩
  obtain ⟨so, sc, rfl, -⟩ := own_slice hown
  have HO3 : Hid (w3.ownsRow w2.heap.size 5 1 (.slice so (storedF 1 D).length sc) (storedF 1 D).length (byteVals (storedF 1 D))) := hown
  clear hown HO
  go_wp2_with fail
  go_ret
  refine ⟨_, rfl, ?_, hFw.trans hF3⟩
  obtain ⟨o1, o2⟩ := HO3.out
  refine ⟨o1, ?_⟩
  rcases o2 with o2 | ⟨g', cap', cur', k1, k2, k3, k4⟩
  · exact Or.inl o2
  · exact Or.inr ⟨g', cap', cur', k1, by have := hFw.size; omega, k3, k4⟩
#print axioms stored_any
end Go.Proofs.YtcefochgpijfbaaDoor
