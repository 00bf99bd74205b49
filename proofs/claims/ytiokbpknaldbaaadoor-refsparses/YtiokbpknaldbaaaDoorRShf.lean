/- Sheets, the last sheet that the reader reads. -/
import Derived.Test.YtiokbpknaldbaaaDoorRShe
namespace Go.Proofs.YtiokbpknaldbaaaDoor
open Go.RowKit Go.Shelf

def quoE (s : ByteArray) : Int := if shtF s = true then 0 else 111
theorem quote_two (s : ByteArray) (w : World) : Calls Tryd.prog 44 #[.string s] w fun e w' => e = .returned (.tuple #[.string (quoF s), .int .i64 (quoE s)]) ∧ Fr noB w w' := by
  have h := quote_any s w
  unfold quoV at h
  unfold quoE
  by_cases hs : shtF s = true
  · rw [if_pos hs] at h ⊢; exact h
  · rw [if_neg hs] at h ⊢
    rw [quoF_no s (by simpa using hs)]
    exact h
theorem emp_no (W : ByteArray) (h : 0 < W.size) : W.toList.isEmpty = false := by
  rw [ByteArray.toList_eq]
  have : W.data.toList.length = W.size := by simp
  cases hl : W.data.toList with
  | nil => rw [hl] at this; simp at this; omega
  | cons => rfl
theorem lst_ne (A B : ByteArray) (h : A ≠ B) : (A.toList == B.toList) = false := by
  rw [beq_eq_false_iff_ne]
  intro e
  apply h
  rw [ByteArray.toList_eq, ByteArray.toList_eq] at e
  exact ByteArray.ext (Array.toList_inj.1 e)
set_option maxRecDepth 100000 in
set_option maxHeartbeats 2000000 in
theorem sheet_nil (rb : Nat) (s t : ByteArray) (p : Nat) (w : World) (h : RdAt w rb s p) (hp : p ≤ s.size)
    (HN : Calls Tryd.prog 43 #[.pointer (some ⟨rb, 0, none⟩)] w fun e w' => e = .returned (.string t) ∧ RdAt w' rb s p ∧ Fr (oneB rb) w w') :
    Calls Tryd.prog 29 #[.pointer (some ⟨rb, 0, none⟩)] w fun e w' => e = .returned (.string ⟨#[]⟩) ∧ RdAt w' rb s p ∧ Fr (oneB rb) w w' := by
  have d1 := h.c1
  have hx : s.extract p p = ⟨#[]⟩ := by
    apply ByteArray.ext
    simp
  clear h
  go_enter Tryd.func29, Tryd.ntmps29
  go_wp2_with (go_at_call 43; refine HN.mono ?_; rintro e w1 ⟨rfl, hR1, hF1⟩; have k0 := hR1.c0; have k1 := hR1.c1; have HR1 : Hid _ := hR1; clear hR1)
  go_quiet (fail)
  go_wp2_with fail
  go_ret
  exact ⟨rfl, HR1.out.fr ((Fr.refl noB _).drewN _) id, hF1.drewN _⟩
set_option maxRecDepth 100000 in
set_option maxHeartbeats 2000000 in
theorem sheet_yes (rb : Nat) (s t : ByteArray) (p q : Nat) (w : World) (h : RdAt w rb s p) (hq : q ≤ s.size) (hpq : p < q)
    (HN : Calls Tryd.prog 43 #[.pointer (some ⟨rb, 0, none⟩)] w fun e w' => e = .returned (.string t) ∧ RdAt w' rb s q ∧ Fr (oneB rb) w w') (ht : t.size ≤ 64) (hW : quoF t = s.extract p q) :
    Calls Tryd.prog 29 #[.pointer (some ⟨rb, 0, none⟩)] w fun e w' => e = .returned (.string t) ∧ RdAt w' rb s q ∧ Fr (oneB rb) w w' := by
  have d1 := h.c1
  have HQ := quote_two t
  rw [hW] at HQ
  have hex : 0 < (s.extract p q).size := by simp; omega
  have hem := emp_no _ hex
  have HC := fun w => clone_any t w (by omega)
  have HH := hold_ok
  generalize quoE t = E at *
  generalize hX : s.extract p q = W at *
  have hws : ¬ W.size = 0 := by omega
  clear h hW hex
  go_enter Tryd.func29, Tryd.ntmps29
  go_wp2_with (go_at_call 43; refine HN.mono ?_; rintro e w1 ⟨rfl, hR1, hF1⟩; have k0 := hR1.c0; have k1 := hR1.c1; have HR1 : Hid _ := hR1; clear hR1)
  go_quiet (fail)
  obtain ⟨W1, hW1⟩ : ∃ W1, w1.drewN nq = W1 := ⟨_, rfl⟩
  have hF2 : Fr noB w1 W1 := by rw [← hW1]; exact (Fr.refl noB _).drewN _
  rw [hW1]
  clear hW1
  go_wp2_with (first | (go_at_call 44; refine (HQ _).mono ?_; rintro e w2 ⟨rfl, hF3⟩) | (go_at_call 30; refine (HH _ _ _).mono ?_; rintro e w3 ⟨rfl, rfl⟩) | (go_at_call 26; refine (HC _).mono ?_; rintro e w4 ⟨rfl, hF4⟩))
  go_ret
  exact ⟨rfl, ((HR1.out.fr hF2 id).fr hF3 id).fr hF4 id, ((hF1.trans hF2.weak).trans hF3.weak).trans hF4.weak⟩
set_option maxRecDepth 100000 in
set_option maxHeartbeats 2000000 in
theorem sheet_bad (rb : Nat) (s t : ByteArray) (p q : Nat) (w : World) (h : RdAt w rb s p) (hq : q ≤ s.size) (hpq : p < q)
    (HN : Calls Tryd.prog 43 #[.pointer (some ⟨rb, 0, none⟩)] w fun e w' => e = .returned (.string t) ∧ RdAt w' rb s q ∧ Fr (oneB rb) w w') (hW : quoF t ≠ s.extract p q) :
    Calls Tryd.prog 29 #[.pointer (some ⟨rb, 0, none⟩)] w fun e w' => e = thr p 111 ∧ Fr (oneB rb) w w' := by
  have d1 := h.c1
  have HQ := quote_two t
  have hne := lst_ne _ _ hW
  have hex : 0 < (s.extract p q).size := by simp; omega
  have hem := emp_no _ hex
  have HH := hold_no p 111
  generalize quoE t = E at *
  generalize hX : s.extract p q = W at *
  generalize quoF t = U at *
  have hws : ¬ W.size = 0 := by omega
  clear h hW hex
  go_enter Tryd.func29, Tryd.ntmps29
  go_wp2_with (go_at_call 43; refine HN.mono ?_; rintro e w1 ⟨rfl, hR1, hF1⟩; have k0 := hR1.c0; have k1 := hR1.c1; have HR1 : Hid _ := hR1; clear hR1)
  go_quiet (fail)
  obtain ⟨W1, hW1⟩ : ∃ W1, w1.drewN nq = W1 := ⟨_, rfl⟩
  have hF2 : Fr noB w1 W1 := by rw [← hW1]; exact (Fr.refl noB _).drewN _
  rw [hW1]
  clear hW1
  go_wp2_with (first | (go_at_call 44; refine (HQ _).mono ?_; rintro e w2 ⟨rfl, hF3⟩) | (go_at_call 30; refine (HH _).mono ?_; rintro e w3 ⟨rfl, rfl⟩; exact ⟨rfl, rfl, (hF1.trans hF2.weak).trans hF3.weak⟩))
set_option maxRecDepth 100000 in
theorem sheet_open (rb : Nat) (s : ByteArray) (p a : Nat) (c : Int) (w : World) (h : RdAt w rb s p)
    (HN : Calls Tryd.prog 43 #[.pointer (some ⟨rb, 0, none⟩)] w fun e w' => e = thr a c ∧ Fr (oneB rb) w w') :
    Calls Tryd.prog 29 #[.pointer (some ⟨rb, 0, none⟩)] w fun e w' => e = thr a c ∧ Fr (oneB rb) w w' := by
  have d1 := h.c1
  clear h
  go_enter Tryd.func29, Tryd.ntmps29
  go_wp2_with (go_at_call 43; refine HN.mono ?_; rintro e w1 ⟨rfl, hF1⟩; exact ⟨rfl, rfl, hF1⟩)

theorem ext_size (s : ByteArray) (p q : Nat) (hq : q ≤ s.size) : (s.extract p q).size = q - p := by simp; omega
theorem quo_plain {t : ByteArray} (h1 : shtF t = true) (h2 : wrdF t = true) : quoF t = t := by unfold quoF; rw [h1, h2]; rfl
theorem quo_quoted {t : ByteArray} (h1 : shtF t = true) (h2 : wrdF t = false) : quoF t = baL (39 :: (t.data.toList ++ [39])) := by unfold quoF; rw [h1, h2]; rfl
theorem quo_size {t : ByteArray} : (quoF t).size = if shtF t = true then (if wrdF t = true then t.size else t.size + 2) else 0 := by
  unfold quoF
  split
  · split
    · rfl
    · rw [baL_size]
      simp
  · rfl
theorem ext_list (s : ByteArray) (p q : Nat) : (s.extract p q).data.toList = (s.data.toList.drop p).take (q - p) := by
  rw [ByteArray.data_extract]
  simp [List.extract]
theorem ext_cons (s : ByteArray) (p q : Nat) (hpq : p < q) (hq : q ≤ s.size) : (s.extract p q).data.toList = (s[p]'(by omega)) :: (s.extract (p + 1) q).data.toList := by
  rw [ext_list, ext_list, List.drop_eq_getElem_cons (by simp; omega), show q - p = (q - (p + 1)) + 1 by omega, List.take_succ_cons]
  rfl
theorem ext_snoc (s : ByteArray) (p q : Nat) (hpq : p ≤ q) (hq : q < s.size) : (s.extract p (q + 1)).data.toList = (s.extract p q).data.toList ++ [s[q]'hq] := by
  rw [ext_list, ext_list, show q + 1 - p = (q - p) + 1 by omega, List.take_succ_eq_append_getElem (by simp; omega)]
  congr 2
  simp [List.getElem_drop, show p + (q - p) = q by omega]
  rfl
theorem byte_is {s : ByteArray} {c p : Nat} (h : isAt s c p = true) (hp : p < s.size) : s[p]'hp = UInt8.ofNat c := by
  simp [isAt] at h
  have h2 := h.2
  rw [← byt_at s p hp] at h2
  rw [← h2]
  exact UInt8.ofNat_toNat.symm
theorem quo_text (s : ByteArray) (p q : Nat) (h1 : isAt s 39 p = true) (h2 : isAt s 39 q = true) (hpq : p < q) : s.extract p (q + 1) = baL (39 :: ((s.extract (p + 1) q).data.toList ++ [39])) := by
  have hq := isAt_size h2
  have hp := isAt_size h1
  apply ByteArray.ext
  apply Array.toList_inj.1
  rw [baL_list, ext_cons s p (q + 1) (by omega) (by omega), ext_snoc s (p + 1) q (by omega) hq, byte_is h1, byte_is h2]
  rfl
theorem sheet_ok (rb : Nat) (s t : ByteArray) (p q : Nat) (w : World) (h : RdAt w rb s p) (hp : p ≤ s.size) (hz : s.size ≤ 140737488355328) (hs : shA s p = .ok (t, q)) :
    Calls Tryd.prog 29 #[.pointer (some ⟨rb, 0, none⟩)] w fun e w' => e = .returned (.string t) ∧ RdAt w' rb s q ∧ Fr (oneB rb) w w' := by
  unfold shA at hs
  split at hs
  · rename_i hi
    have hlt := isAt_size hi
    split at hs
    · rename_i hq
      split at hs
      · rename_i hc
        cases hs
        have hge := endK_ge nquK s (p + 1)
        refine sheet_yes rb s _ p _ w h (by omega) (by omega) (name_quo rb s p w h hp hz hi hq) (shtF_size hc.1).2 ?_
        rw [quo_quoted hc.1 hc.2]
        exact (quo_text s p _ hi (nqu_stop s (p + 1) hq) (by omega)).symm
      · cases hs
    · cases hs
  · rename_i hi
    have hi' : isAt s 39 p = false := by simpa using hi
    have hN := name_plain rb s p w h hp hz hi'
    have hge := endK_ge wrdK s p
    have hle := endK_le wrdK s p hp
    split at hs
    · rename_i he
      cases hs
      rw [he] at hN
      exact sheet_nil rb s _ p w h hp hN
    · split at hs
      · rename_i hc
        cases hs
        exact sheet_yes rb s _ p _ w h hle (by omega) hN (shtF_size hc.1).2 (quo_plain hc.1 hc.2)
      · cases hs
theorem sheet_no (rb : Nat) (s : ByteArray) (p a : Nat) (c : Int) (w : World) (h : RdAt w rb s p) (hp : p ≤ s.size) (hz : s.size ≤ 140737488355328) (hs : shA s p = .error (a, c)) :
    Calls Tryd.prog 29 #[.pointer (some ⟨rb, 0, none⟩)] w fun e w' => e = thr a c ∧ Fr (oneB rb) w w' := by
  unfold shA at hs
  split at hs
  · rename_i hi
    have hlt := isAt_size hi
    split at hs
    · rename_i hq
      split at hs
      · cases hs
      · rename_i hc
        cases hs
        have hge := endK_ge nquK s (p + 1)
        refine sheet_bad rb s _ p _ w h (by omega) (by omega) (name_quo rb s p w h hp hz hi hq) ?_
        intro e
        have e2 := congrArg ByteArray.size e
        rw [quo_size, ext_size s p _ (by omega), ext_size s (p + 1) _ (by omega)] at e2
        split at e2
        · rename_i h1
          split at e2
          · omega
          · rename_i h2
            exact hc ⟨h1, by simpa using h2⟩
        · omega
    · rename_i hq
      cases hs
      exact sheet_open rb s p _ _ w h (name_open rb s p w h hp hz hi hq)
  · rename_i hi
    have hi' : isAt s 39 p = false := by simpa using hi
    have hN := name_plain rb s p w h hp hz hi'
    have hge := endK_ge wrdK s p
    have hle := endK_le wrdK s p hp
    split at hs
    · cases hs
    · split at hs
      · cases hs
      · rename_i hc
        cases hs
        refine sheet_bad rb s _ p _ w h hle (by omega) hN ?_
        intro e
        have e2 := congrArg ByteArray.size e
        rw [quo_size, ext_size s p _ hle] at e2
        split at e2
        · rename_i h1
          split at e2
          · rename_i h2
            exact hc ⟨h1, h2⟩
          · omega
        · omega
#print axioms sheet_ok
#print axioms sheet_no
#print axioms sheet_nil
#print axioms sheet_yes
#print axioms sheet_bad
#print axioms sheet_open
end Go.Proofs.YtiokbpknaldbaaaDoor
