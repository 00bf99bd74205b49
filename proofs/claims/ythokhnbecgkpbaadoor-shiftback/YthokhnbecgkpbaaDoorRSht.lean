/- SheetName and Quote: the program's contracts. -/
import Derived.Test.YthokhnbecgkpbaaDoorRNam
namespace Go.Proofs.YthokhnbecgkpbaaDoor
open Go.RowKit Go.Shelf

theorem Fr.iterAt {S : Nat → Prop} {a w : World} {k : Nat} (h : Fr S a w) (hk : a.heap.size ≤ k) (s : ByteArray) (q : Nat) : Fr S a (w.iterAt k s q) :=
  h.then (S' := oneB k) ⟨rfl, rfl, rfl, by rw [Lib.iterAt_size]; exact Nat.le_refl _, fun i hi hn => Lib.iterAt_other w k i s _ (fun e => hn e)⟩ (fun i h => Or.inr (by unfold oneB at h; omega))
theorem shtF_no1 (s : ByteArray) (h : ¬ (1 ≤ s.size ∧ s.size ≤ 64)) : shtF s = false := by
  unfold shtF
  by_cases h1 : 1 ≤ s.size
  · rw [decide_eq_true h1, decide_eq_false (by omega : ¬ s.size ≤ 64)]; rfl
  · rw [decide_eq_false h1]; rfl
theorem shtF_yes (s : ByteArray) (h : 1 ≤ s.size ∧ s.size ≤ 64) : shtF s = ((validF s).2 && decide (endK shtK s 0 = s.size)) := by
  unfold shtF
  rw [decide_eq_true h.1, decide_eq_true h.2]
  simp
set_option maxRecDepth 100000 in
set_option maxHeartbeats 4000000 in
theorem sheetName_any (s : ByteArray) (w : World) : Calls Tryd.prog 46 #[.string s] w fun e w' => e = .returned (.bool (shtF s)) ∧ Fr noB w w' := by
  by_cases hz : 1 ≤ s.size ∧ s.size ≤ 64
  case neg =>
    rw [shtF_no1 s hz]
    by_cases h1 : s.size < 1
    · have e : s.size = 0 := by omega
      have h2 : ((s.size : Int) < 1) := by omega
      clear hz h1 e
      go_enter Tryd.func46, Tryd.ntmps46
      go_wp2_with fail
      go_ret
      exact ⟨rfl, Fr.refl _ _⟩
    · have h2 : ¬ ((s.size : Int) < 1) := by omega
      have h3 : (64 : Int) < (s.size : Int) := by omega
      clear hz h1
      go_enter Tryd.func46, Tryd.ntmps46
      go_wp2_with fail
      go_ret
      exact ⟨rfl, Fr.refl _ _⟩
  case pos =>
    rw [shtF_yes s hz]
    have h2 : ¬ ((s.size : Int) < 1) := by omega
    have h3 : ¬ (64 : Int) < (s.size : Int) := by omega
    have HV := valid_any s
    cases hv : (validF s).2 with
    | false =>
      rw [hv] at HV
      clear hz hv
      generalize (validF s).1 = V at *
      go_enter Tryd.func46, Tryd.ntmps46
      go_wp2_with (go_at_call 55; refine (HV _).mono ?_; rintro e w1 ⟨rfl, hF1⟩)
      go_ret
      exact ⟨rfl, hF1⟩
    | true =>
      rw [hv] at HV
      clear hz hv
      generalize (validF s).1 = V at *
      rw [Bool.true_and]
      go_enter Tryd.func46, Tryd.ntmps46
      go_wp2_with (go_at_call 55; refine (HV _).mono ?_; rintro e w1 ⟨rfl, hF1⟩)
      clear HV
      have hz1 := hF1.size
      go_loopw [] (fun wr => ∃ (pos : Nat), wr.heap[w1.heap.size]? = some (.stringIter s pos) ∧ Fr noB w1 wr ∧ pos ≤ s.size ∧ Hid (endK shtK s pos = endK shtK s 0)) (fun wr => s.size - wr.iterPos w1.heap.size)
      case atStart => exact ⟨0, World.iter_heap w1 s 0, (Fr.refl _ _).alloc _, Nat.zero_le _, rfl⟩
      case round =>
        obtain ⟨pos, hit, hF, hps, HC⟩ := hrel
        by_cases hp : pos < s.size
        · have hnx : ∀ ty, (Instr.next (.pointer (some ⟨w1.heap.size, 0, none⟩)) true ty).run Tryd.prog wr = _ := fun ty => Lib.run_next_any_at wr w1.heap.size s pos ty hit hp
          have hwd := width_pos s pos hp
          have hwf := width_fits s pos hp
          have hro := decode_ok s pos
          have hky := kin_yes kin_sht s pos hp
          have hkn := kin_no kin_sht s pos hp
          have hit2 := Lib.iterAt_heap wr w1.heap.size s pos (pos + (Utf8.decode s pos).2) hit
          have hF2 : Fr noB w1 (wr.iterAt w1.heap.size s (pos + (Utf8.decode s pos).2)) := hF.iterAt (Nat.le_refl _) _ _
          obtain ⟨⟨r, n⟩, hd⟩ : ∃ d, Utf8.decode s pos = d := ⟨_, rfl⟩
          rw [hd] at hnx hwd hwf hro hky hkn hit2 hF2
          simp only at hnx hwd hwf hro hky hkn hit2 hF2
          have HB := contains_any r hro
          have hmz : s.size - (wr.iterAt w1.heap.size s (pos + n)).iterPos w1.heap.size < s.size - wr.iterPos w1.heap.size := by
            simp only [World.iterPos, hit, hit2]
            omega
          have HM : Hid _ := hmz
          generalize wr.iterAt w1.heap.size s (pos + n) = W2 at *
          have HM2 : Hid (∀ W3, Fr noB W2 W3 → s.size - W3.iterPos w1.heap.size < s.size - wr.iterPos w1.heap.size) := fun W3 h => by
            have e := h.obj hit2 id
            have e2 := HM.out
            simp only [World.iterPos, hit2, e] at e2 ⊢
            exact e2
          have HI : Hid _ := hit2
          clear hmz HM hd hit hro hit2 hF
          by_cases hr : r < 32
          · have hr2 : (r : Int) < 32 := by omega
            have hs : shtK r = false := by simp [shtK, hr]
            have HX : Hid (decide (endK shtK s 0 = s.size) = false) := by
              show _ = false
              have e := (hkn hs).1
              have e2 := HC.out
              rw [e] at e2
              exact decide_eq_false (by omega)
            clear hky hkn HC HB hs hr
            go_wp2_with fail
            go_ret
            rw [HX.out]
            exact ⟨rfl, hF1.trans hF2⟩
          · have hr2 : ¬ (r : Int) < 32 := by omega
            cases hb : barK r with
            | true =>
              have hs : shtK r = false := by simp [shtK, hb]
              have HX : Hid (decide (endK shtK s 0 = s.size) = false) := by
                show _ = false
                have e := (hkn hs).1
                have e2 := HC.out
                rw [e] at e2
                exact decide_eq_false (by omega)
              rw [hb] at HB
              unfold barS at HB
              clear hky hkn HC hs hr hb
              go_wp2_with (go_at_call 56; refine (HB _).mono ?_; rintro e w3 ⟨rfl, hF3⟩)
              go_ret
              rw [HX.out]
              exact ⟨rfl, (hF1.trans hF2).trans hF3⟩
            | false =>
              have hs : shtK r = true := by simp [shtK, hb]; omega
              have HX : Hid (endK shtK s (pos + n) = endK shtK s 0) := (hky hs).symm.trans HC.out
              rw [hb] at HB
              unfold barS at HB
              clear hky hkn HC hs hr hb
              go_wp2_with (go_at_call 56; refine (HB _).mono ?_; rintro e w3 ⟨rfl, hF3⟩)
              go_roundw
              case rel => exact ⟨pos + n, hF3.obj HI.out id, hF2.trans hF3, hwf, HX⟩
              case measure => exact HM2.out _ hF3
        · have hnx : ∀ ty, (Instr.next (.pointer (some ⟨w1.heap.size, 0, none⟩)) true ty).run Tryd.prog wr = _ := fun ty => Lib.run_next_end_at wr w1.heap.size s pos ty hit hp
          have HX : Hid (decide (endK shtK s 0 = s.size) = true) := by
            show _ = true
            have e := HC.out
            rw [endK_stop shtK s pos (fun h => hp h.1)] at e
            exact decide_eq_true (by omega)
          clear HC
          go_wp2_with fail
          go_ret
          rw [HX.out]
          exact ⟨rfl, hF1.trans hF⟩
#print axioms sheetName_any

/-- What Quote answers. -/
def quoV (s : ByteArray) : Value := if shtF s = true then .tuple #[.string (quoF s), .int .i64 0] else .tuple #[.string ⟨#[]⟩, .int .i64 111]
theorem quoF_no (s : ByteArray) (h : shtF s = false) : quoF s = ⟨#[]⟩ := by unfold quoF; rw [h]; rfl
theorem quote_join (s : ByteArray) : (⟨#[39]⟩ : ByteArray) ++ s ++ ⟨#[39]⟩ = baL (39 :: (s.data.toList ++ [39])) := by
  apply ByteArray.ext
  simp [baL, ByteArray.data_append]
end Go.Proofs.YthokhnbecgkpbaaDoor
