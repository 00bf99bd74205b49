/- Names' characters, Valid, Count, Name: the program's contracts. -/
import Derived.Test.YthokhnbecgkpbaaDoorCBas
namespace Go.Proofs.YthokhnbecgkpbaaDoor
open Go.RowKit

/-- Does FFFD itself stand at the beginning? -/
def wrF (s : ByteArray) : Bool := decide (3 ≤ s.size) && ((s.extract 0 3).toList == [239, 191, 189])
set_option maxRecDepth 100000 in
theorem written_any (s : ByteArray) (w : World) : Calls Tryd.prog 70 #[.string s] w fun e w' => e = .returned (.bool (wrF s)) ∧ w' = w := by
  go_enter Tryd.func70, Tryd.ntmps70
  go_wp2
  all_goals
    go_ret
    exact ⟨ret_bool (by unfold wrF; rw [Bool.eq_iff_iff]; simp; first | done | omega | (intros; omega)), rfl⟩

theorem get_list (s : ByteArray) (i : Nat) (h : i < s.size) : s.data.toList[i]? = some (s.get! i) := by
  have : s.get! i = s[i] := by simp [ByteArray.get!, getElem!_pos, h]; rfl
  rw [this, Array.getElem?_toList]
  exact Array.getElem?_eq_getElem h
theorem wrF_at (s : ByteArray) (p : Nat) : wrF (s.extract p s.size) = decide (p + 2 < s.size ∧ (s.get! p).toNat = 239 ∧ (s.get! (p + 1)).toNat = 191 ∧ (s.get! (p + 2)).toNat = 189) := by
  have e0 : ((s.extract p s.size).extract 0 3).toList = (s.data.toList.drop p).take 3 := by
    rw [ByteArray.toList_eq]
    simp [ByteArray.data_extract]
    omega
  have ez : (s.extract p s.size).size = s.size - p := by simp
  unfold wrF
  rw [e0, ez, Bool.eq_iff_iff]
  simp only [Bool.and_eq_true, decide_eq_true_eq, beq_iff_eq]
  by_cases h : p + 2 < s.size
  · have g0 := get_list s p (by omega)
    have g1 := get_list s (p + 1) (by omega)
    have g2 := get_list s (p + 2) (by omega)
    have hl : (s.data.toList.drop p).take 3 = [s.get! p, s.get! (p + 1), s.get! (p + 2)] := by
      apply List.ext_getElem?
      intro i
      rw [List.getElem?_take]
      by_cases hi : i < 3
      · rw [if_pos hi, List.getElem?_drop]
        match i, hi with
        | 0, _ => exact g0
        | 1, _ => exact g1
        | 2, _ => exact g2
      · rw [if_neg hi, List.getElem?_eq_none (by simp; omega)]
    rw [hl]
    constructor
    · rintro ⟨_, e⟩
      injection e with e1 e; injection e with e2 e; injection e with e3 e
      exact ⟨h, by rw [e1]; rfl, by rw [e2]; rfl, by rw [e3]; rfl⟩
    · rintro ⟨_, e1, e2, e3⟩
      exact ⟨by omega, by rw [show s.get! p = 239 from UInt8.toNat_inj.1 e1, show s.get! (p + 1) = 191 from UInt8.toNat_inj.1 e2, show s.get! (p + 2) = 189 from UInt8.toNat_inj.1 e3]⟩
  · constructor
    · rintro ⟨h1, _⟩; omega
    · rintro ⟨h1, _⟩; exact absurd h1 h

set_option maxRecDepth 100000 in
set_option maxHeartbeats 4000000 in
theorem valid_any (s : ByteArray) (w : World) : Calls Tryd.prog 55 #[.string s] w fun e w' => e = .returned (.tuple #[.int .i64 ((validF s).1 : Int), .bool (validF s).2]) ∧ Fr noB w w' := by
  go_enter Tryd.func55, Tryd.ntmps55
  go_wp2
  go_loopw [] (fun w' => ∃ (pos : Nat), w' = w.iter s pos ∧ Hid (validL (runs s pos) = validF s)) (fun w' => s.size - w'.iterPos w.heap.size)
  case atStart => exact ⟨0, rfl, rfl⟩
  case round =>
    obtain ⟨pos, rfl, HC⟩ := hrel
    by_cases hp : pos < s.size
    · have hnx : ∀ ty, (Instr.next (.pointer (some ⟨w.heap.size, 0, none⟩)) true ty).run Tryd.prog (w.iter s pos) = _ := fun ty => run_next_any w s pos ty hp
      have hwd := width_pos s pos hp
      have hff := fffd s pos hp
      have hwr := wrF_at s pos
      have HC2 := HC.out
      rw [runs_step s pos hp, validL] at HC2
      simp only at HC2
      obtain ⟨⟨r, n⟩, hd⟩ : ∃ d, Utf8.decode s pos = d := ⟨_, rfl⟩
      rw [hd] at hnx hwd hff HC2
      simp only at hnx hwd hff HC2
      have HF : Fr noB w (w.iter s (pos + n)) := (Fr.refl noB w).alloc _
      cases hc : charF r with
      | false =>
        have ho : okR r n = false := by unfold okR; rw [hc]; rfl
        rw [ho] at HC2
        have HV : Hid (validF s = (pos, false)) := HC2.symm
        clear HC HC2 ho hff hwr
        have HCH := char_any (r : Int)
        rw [hc] at HCH
        clear hc hd
        go_wp2_with (go_at_call 69; refine (HCH _).mono ?_; rintro e w1 ⟨rfl, rfl⟩)
        go_ret2
        rw [HV.out]
        exact ⟨rfl, HF⟩
      | true =>
        have HCH := char_any (r : Int)
        rw [hc] at HCH
        by_cases hr : r = 65533
        · subst hr
          have HW := written_any (s.extract pos s.size)
          rw [hwr] at HW
          rcases hff rfl with ⟨rfl, hx⟩ | ⟨rfl, hx⟩
          · rw [decide_eq_false hx] at HW
            have ho : okR 65533 1 = false := rfl
            rw [ho] at HC2
            have HV : Hid (validF s = (pos, false)) := HC2.symm
            clear HC HC2 ho hff hwr hc hd hx
            go_wp2_with (first | (go_at_call 69; refine (HCH _).mono ?_; rintro e w1 ⟨rfl, rfl⟩) | (go_at_call 70; refine (HW _).mono ?_; rintro e w1 ⟨rfl, rfl⟩))
            go_ret2
            rw [HV.out]
            exact ⟨rfl, HF⟩
          · rw [decide_eq_true hx] at HW
            have ho : okR 65533 3 = true := rfl
            rw [ho] at HC2
            have HV : Hid (validL (runs s (pos + 3)) = validF s) := HC2
            clear HC HC2 ho hff hwr hc hd hx
            go_wp2_with (first | (go_at_call 69; refine (HCH _).mono ?_; rintro e w1 ⟨rfl, rfl⟩) | (go_at_call 70; refine (HW _).mono ?_; rintro e w1 ⟨rfl, rfl⟩))
            go_roundw
            case rel => exact ⟨_, rfl, HV⟩
            case measure => simp; omega
        · have ho : okR r n = true := by unfold okR; rw [hc]; simp [hr]
          rw [ho] at HC2
          have HV : Hid (validL (runs s (pos + n)) = validF s) := HC2
          have hr' : ¬ (r : Int) = 65533 := by omega
          clear HC HC2 ho hff hwr hc hd
          go_wp2_with (go_at_call 69; refine (HCH _).mono ?_; rintro e w1 ⟨rfl, rfl⟩)
          go_roundw
          case rel => exact ⟨_, rfl, HV⟩
          case measure => simp; omega
    · have hnx : ∀ ty, (Instr.next (.pointer (some ⟨w.heap.size, 0, none⟩)) true ty).run Tryd.prog (w.iter s pos) = _ := fun ty => run_next_end w s pos ty hp
      have HV : Hid (validF s = (0, true)) := by
        have := HC.out
        rw [runs_end s pos hp] at this
        exact this.symm
      clear HC
      go_wp2
      go_ret2
      rw [HV.out]
      exact ⟨rfl, (Fr.refl noB w).alloc _⟩
end Go.Proofs.YthokhnbecgkpbaaDoor
