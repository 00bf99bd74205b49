/- Name: the program's contract. -/
import Derived.Test.YthdbjgkoofiilaaDoorCBas2
namespace Go.Proofs.YthdbjgkoofiilaaDoor
open Go.RowKit

theorem some_bytes (s : ByteArray) : (!s.toList.isEmpty) = (s.size != 0) := by
  rw [ByteArray.toList_eq, Bool.eq_iff_iff]
  obtain ⟨⟨l⟩⟩ := s
  cases l <;> simp [ByteArray.size]
set_option maxRecDepth 100000 in
set_option maxHeartbeats 4000000 in
theorem name_any (s : ByteArray) (w : World) : Calls Tryd.prog 10 #[.string s] w fun e w' => e = .returned (.bool (nameF s)) ∧ Fr noB w w' := by
  have HV := valid_any s w
  obtain ⟨⟨va, vo⟩, hv⟩ : ∃ d, validF s = d := ⟨_, rfl⟩
  rw [hv] at HV
  simp only at HV
  cases vo with
  | false =>
    have HN : Hid (nameF s = false) := by show nameF s = false; unfold nameF; rw [hv]; rfl
    clear hv
    go_enter Tryd.func10, Tryd.ntmps10
    go_wp2_with (go_at_call 14; refine HV.mono ?_; rintro e w1 ⟨rfl, hF⟩)
    go_ret
    exact ⟨ret_bool HN.out.symm, hF⟩
  | true =>
    have HN : Hid (nameF s = (nameL (runs s 0) && s.size != 0)) := by show nameF s = _; unfold nameF; rw [hv]; simp
    clear hv
    go_enter Tryd.func10, Tryd.ntmps10
    go_wp2_with (go_at_call 14; refine HV.mono ?_; rintro e w1 ⟨rfl, hF⟩)
    clear HV
    go_loopw [] (fun w' => ∃ (pos : Nat), w' = w1.iter s pos ∧ Hid (nameF s = (nameL (runs s pos) && s.size != 0))) (fun w' => s.size - w'.iterPos w1.heap.size)
    case atStart => exact ⟨0, rfl, HN⟩
    case round =>
      clear HN
      obtain ⟨pos, rfl, HC⟩ := hrel
      by_cases hp : pos < s.size
      · have hnx : ∀ ty, (Instr.next (.pointer (some ⟨w1.heap.size, 0, none⟩)) true ty).run Tryd.prog (w1.iter s pos) = _ := fun ty => run_next_any w1 s pos ty hp
        have hwd := width_pos s pos hp
        have HC2 := HC.out
        rw [runs_step s pos hp, nameL, List.all_cons] at HC2
        simp only at HC2
        obtain ⟨⟨r, n⟩, hd⟩ : ∃ d, Utf8.decode s pos = d := ⟨_, rfl⟩
        rw [hd] at hnx hwd HC2
        simp only at hnx hwd HC2
        have HF : Fr noB w (w1.iter s (pos + n)) := hF.alloc _
        have HS := start_any (r : Int)
        have HM := nmc_any (r : Int)
        cases hb : ((pos != 0 || startF r) && nmcF r) with
        | false =>
          rw [hb] at HC2
          have HX : Hid (nameF s = false) := by show nameF s = false; rw [HC2]; rfl
          clear HC HC2 hd
          by_cases h0 : pos = 0
          · subst h0
            rw [Nat.zero_add] at HF
            cases hst : startF (r : Int) with
            | false =>
              rw [hst] at HS
              clear hb hst
              go_wp2_with (first | (go_at_call 20; refine (HS _).mono ?_; rintro e w2 ⟨rfl, rfl⟩) | (go_at_call 21; refine (HM _).mono ?_; rintro e w2 ⟨rfl, rfl⟩))
              go_ret
              exact ⟨ret_bool HX.out.symm, HF⟩
            | true =>
              rw [hst] at HS hb
              have hm : nmcF (r : Int) = false := by simpa using hb
              rw [hm] at HM
              clear hb hst hm
              go_wp2_with (first | (go_at_call 20; refine (HS _).mono ?_; rintro e w2 ⟨rfl, rfl⟩) | (go_at_call 21; refine (HM _).mono ?_; rintro e w2 ⟨rfl, rfl⟩))
              go_ret
              exact ⟨ret_bool HX.out.symm, HF⟩
          · have h0' : ¬ (pos : Int) = 0 := by omega
            have hm : nmcF (r : Int) = false := by simpa [h0] using hb
            rw [hm] at HM
            clear hb hm
            go_wp2_with (first | (go_at_call 20; refine (HS _).mono ?_; rintro e w2 ⟨rfl, rfl⟩) | (go_at_call 21; refine (HM _).mono ?_; rintro e w2 ⟨rfl, rfl⟩))
            go_ret
            exact ⟨ret_bool HX.out.symm, HF⟩
        | true =>
          rw [hb] at HC2
          have HX : Hid (nameF s = (nameL (runs s (pos + n)) && s.size != 0)) := by show nameF s = _; rw [HC2]; rfl
          have hm : nmcF (r : Int) = true := by
            cases h : nmcF (r : Int) with
            | true => rfl
            | false => rw [h] at hb; simp at hb
          rw [hm] at HM
          clear HC HC2 hd
          by_cases h0 : pos = 0
          · subst h0
            rw [Nat.zero_add] at HX
            have hst : startF (r : Int) = true := by simpa [hm] using hb
            rw [hst] at HS
            clear hb hst hm
            go_wp2_with (first | (go_at_call 20; refine (HS _).mono ?_; rintro e w2 ⟨rfl, rfl⟩) | (go_at_call 21; refine (HM _).mono ?_; rintro e w2 ⟨rfl, rfl⟩))
            go_roundw
            case rel => exact ⟨_, rfl, HX⟩
            case measure => simp; omega
          · have h0' : ¬ (pos : Int) = 0 := by omega
            clear hb hm
            go_wp2_with (first | (go_at_call 20; refine (HS _).mono ?_; rintro e w2 ⟨rfl, rfl⟩) | (go_at_call 21; refine (HM _).mono ?_; rintro e w2 ⟨rfl, rfl⟩))
            go_roundw
            case rel => exact ⟨_, rfl, HX⟩
            case measure => simp; omega
      · have hnx : ∀ ty, (Instr.next (.pointer (some ⟨w1.heap.size, 0, none⟩)) true ty).run Tryd.prog (w1.iter s pos) = _ := fun ty => run_next_end w1 s pos ty hp
        have HX : Hid (nameF s = (s.size != 0)) := by
          show nameF s = _
          rw [HC.out, runs_end s pos hp]
          rfl
        clear HC
        go_wp2
        go_ret
        refine ⟨ret_bool ?_, hF.alloc _⟩
        rw [HX.out]
        exact some_bytes s
end Go.Proofs.YthdbjgkoofiilaaDoor
