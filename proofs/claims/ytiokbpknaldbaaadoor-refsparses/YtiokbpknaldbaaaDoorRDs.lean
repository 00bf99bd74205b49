/- The document's reader: a sheet's name. -/
import Derived.Test.YtiokbpknaldbaaaDoorRDk
namespace Go.Proofs.YtiokbpknaldbaaaDoor
open Go.RowKit Go.Shelf

/-- Where the reader in a block is. -/
def posD (w : World) (pb : Nat) : Nat := match w.cell? ⟨pb, 1, none⟩ with
  | some (.int _ n) => n.toNat
  | _ => 0
theorem DAt.pos {w : World} {pb : Nat} {s : ByteArray} {p bd : Nat} {e : Int} (h : DAt w pb s p bd e) : posD w pb = p := by
  unfold posD
  rw [h.c1]
  simp
theorem ba_two (b : UInt8) : (⟨#[97]⟩ : ByteArray) ++ ⟨#[b]⟩ = ⟨#[97, b]⟩ := by
  apply ByteArray.ext
  simp [ByteArray.data_append]
theorem ext_one (s : ByteArray) (k : Nat) (h : k < s.size) : s.extract k (k + 1) = ⟨#[s[k]'h]⟩ := by
  have e := ext_cons s k (k + 1) (by omega) (by omega)
  have e2 : (s.extract (k + 1) (k + 1)).data.toList = [] := by
    rw [ext_list]; simp
  rw [e2] at e
  have e3 := baL_self (s.extract k (k + 1))
  rw [e] at e3
  rw [← e3]
  rfl
theorem wrd_two (b : UInt8) : wrdF ⟨#[97, b]⟩ = wrdK b.toNat := by
  have h0 : byt (⟨#[97, b]⟩ : ByteArray) 0 = 97 := rfl
  have h1 : byt (⟨#[97, b]⟩ : ByteArray) 1 = b.toNat := rfl
  have hs : (⟨#[97, b]⟩ : ByteArray).size = 2 := rfl
  unfold wrdF
  rw [endK_step wrdK _ 0 (by rw [hs]; omega) (by rw [h0]; decide), h0, hs]
  cases hw : wrdK b.toNat with
  | true =>
    rw [endK_step wrdK _ 1 (by rw [hs]; omega) (by rw [h1]; exact hw), endK_stop wrdK _ 2 (by rw [hs]; omega)]
    decide
  | false =>
    rw [endK_stop wrdK _ 1 (by rw [h1, hw]; simp)]
    decide
theorem wrd_a (s : ByteArray) (k : Nat) (h : k < s.size) : wrdF ((⟨#[97]⟩ : ByteArray) ++ s.extract k (k + 1)) = wrdK (byt s k) := by
  rw [ext_one s k h, ba_two, wrd_two, ← byt_at s k h]
set_option maxRecDepth 100000 in
set_option maxHeartbeats 4000000 in
theorem rsheet_quo (pb : Nat) (s : ByteArray) (p bd : Nat) (w : World) (h : DAt w pb s p bd 0) (hz : s.size ≤ 140737488355328) (hp : p ≤ s.size) (HTb : ∀ W, Fr (oneB pb) w W → Tabs W) (hi : isAt s 39 p = true) :
    Calls Tryd.prog 19 #[.pointer (some ⟨pb, 0, none⟩)] w fun r w' => (∀ t q, shA s p = .ok (t, q) → r = .returned (.string t) ∧ DAt w' pb s q bd 0 ∧ Fr (oneB pb) w w') ∧ (∀ a d, shA s p = .error (a, d) → ∃ T q, r = .returned (.string T) ∧ ¬ d = 0 ∧ q ≤ s.size ∧ DAt w' pb s q a d ∧ Fr (oneB pb) w w') := by
  have HT := take_ok pb s p bd 39 w h hz hp
  have hlt := isAt_size hi
  rw [hi, show past s 39 p = p + 1 by unfold past; rw [if_pos hi]] at HT
  have HS : Hid (shA s p = if endK nquK s (p + 1) < s.size then (if shtF (s.extract (p + 1) (endK nquK s (p + 1))) = true ∧ wrdF (s.extract (p + 1) (endK nquK s (p + 1))) = false then .ok (s.extract (p + 1) (endK nquK s (p + 1)), endK nquK s (p + 1) + 1) else .error (p, 111)) else .error (s.size, 110)) := by
    show shA s p = _
    conv => lhs; unfold shA
    rw [if_pos hi]
  obtain ⟨E, hE⟩ : ∃ E, endK nquK s (p + 1) = E := ⟨_, rfl⟩
  have HE : Hid (endK nquK s (p + 1) = E) := hE
  have d1 := h.c1
  clear h hi hE
  go_enter Tryd.func19, Tryd.ntmps19
  go_wp2_with (go_at_call 18; refine HT.mono ?_; rintro e w1 ⟨rfl, h1, hF1⟩)
  go_loopw [] (fun wr => ∃ k : Nat, DAt wr pb s k bd 0 ∧ k ≤ s.size ∧ p + 1 ≤ k ∧ Hid (endK nquK s k = E) ∧ Hid (Fr (oneB pb) w wr)) (fun wr => s.size - posD wr pb)
  case atStart => exact ⟨p + 1, h1, by omega, Nat.le_refl _, HE, hF1⟩
  case round =>
    obtain ⟨k, hD, hk, hk2, HK, HF⟩ := hrel
    have d0 := hD.c0; have d1 := hD.c1; have df := hD.f
    by_cases hkl : k < s.size
    · have hl : (k : Int) < (s.size : Int) := by omega
      have hb := byt_at s k hkl
      obtain ⟨b, hbb⟩ : ∃ b, byt s k = b := ⟨_, rfl⟩
      have hbl := byt_lt s k
      rw [hbb] at hb hbl
      have hx : ∀ hh, (s[k]'hh).toNat = b := fun _ => hb
      by_cases hq : b = 39
      · have HQ : Hid (E = k) := by
          show E = k
          rw [← HK.out]
          exact endK_stop nquK s k (fun e => by rw [hbb, hq] at e; simp [nquK] at e)
        subst hq
        have hkE := HQ.out
        subst hkE
        obtain ⟨N, hN⟩ : ∃ N, s.extract (p + 1) E = N := ⟨_, rfl⟩
        have hNs : N.size ≤ 140737488355328 := by rw [← hN]; simp; omega
        have HSN : Hid (∀ W, Tabs W → Calls Tryd.prog 35 #[.string N] W fun e w' => e = .returned (.bool (shtF N)) ∧ Fr noB W w') := fun W hW => rsheetName_any N W hNs hW
        have HPL := fun W => rplain_any N W hNs
        have HS2 := HS.out
        rw [HE.out, if_pos hkl, hN] at HS2
        have hng : ¬ (s.size : Int) ≤ (E : Int) := by omega
        have HD : Hid _ := hD
        have HTT : Hid _ := HTb
        clear hbb hb HS HE HK hD HTb HQ
        cases hsh : shtF N with
        | false =>
          rw [hsh] at HSN HS2
          rw [if_neg (by simp)] at HS2
          clear hsh HPL
          have HS3 : Hid _ := HS2
          clear HS2
          go_wp2_with fail
          go_quiet (fail)
          go_wp2_with fail
          go_quiet (fail)
          go_wp2_with fail
          go_quiet (fail)
          go_wp2_with (first
            | (go_at_call 35; refine (HSN.out _ (HTT.out _ ((HF.out.drewN _).setOne _ _))).mono ?_; rintro e w2 ⟨rfl, hF2⟩; have hG2 : Fr (oneB pb) w w2 := Fr.trans ((HF.out.drewN _).setOne _ _) hF2.weak; have hD2 : DAt w2 pb s (E + 1) bd 0 := DAt.fr (DAt.s1 (DAt.fr HD.out ((Fr.refl noB _).drewN _) id) (E + 1)) hF2 id)
            | (go_at_call 20; refine (fail_ok pb s (E + 1) bd p 111 _ hD2).mono ?_; rintro e w4 ⟨rfl, hD4, hF4⟩))
          refine bodyPost_ret (v := .string N) (by kernel_rfl) rfl ?_
          refine ⟨fun t q h => ?_, fun a d h => ?_⟩
          · rw [HS3.out] at h; cases h
          · rw [HS3.out] at h; cases h
            exact ⟨N, E + 1, rfl, by decide, by omega, hD4, hG2.trans hF4⟩
        | true =>
          rw [hsh] at HSN HS2
          cases hwd : wrdF N with
          | true =>
            rw [hwd] at HPL HS2
            rw [if_neg (by simp)] at HS2
            clear hsh hwd
            have HS3 : Hid _ := HS2
            clear HS2
            go_wp2_with fail
            go_quiet (fail)
            go_wp2_with fail
            go_quiet (fail)
            go_wp2_with fail
            go_quiet (fail)
            go_wp2_with (first
              | (go_at_call 35; refine (HSN.out _ (HTT.out _ ((HF.out.drewN _).setOne _ _))).mono ?_; rintro e w2 ⟨rfl, hF2⟩; have hG2 : Fr (oneB pb) w w2 := Fr.trans ((HF.out.drewN _).setOne _ _) hF2.weak; have hD2 : DAt w2 pb s (E + 1) bd 0 := DAt.fr (DAt.s1 (DAt.fr HD.out ((Fr.refl noB _).drewN _) id) (E + 1)) hF2 id)
              | (go_at_call 36; refine (HPL _).mono ?_; rintro e w3 ⟨rfl, rfl⟩)
              | (go_at_call 20; refine (fail_ok pb s (E + 1) bd p 111 _ hD2).mono ?_; rintro e w4 ⟨rfl, hD4, hF4⟩))
            refine bodyPost_ret (v := .string N) (by kernel_rfl) rfl ?_
            refine ⟨fun t q h => ?_, fun a d h => ?_⟩
            · rw [HS3.out] at h; cases h
            · rw [HS3.out] at h; cases h
              exact ⟨N, E + 1, rfl, by decide, by omega, hD4, hG2.trans hF4⟩
          | false =>
            rw [hwd] at HPL HS2
            rw [if_pos (by simp)] at HS2
            clear hsh hwd
            have HS3 : Hid _ := HS2
            clear HS2
            go_wp2_with fail
            go_quiet (fail)
            go_wp2_with fail
            go_quiet (fail)
            go_wp2_with fail
            go_quiet (fail)
            go_wp2_with (first
              | (go_at_call 35; refine (HSN.out _ (HTT.out _ ((HF.out.drewN _).setOne _ _))).mono ?_; rintro e w2 ⟨rfl, hF2⟩; have hG2 : Fr (oneB pb) w w2 := Fr.trans ((HF.out.drewN _).setOne _ _) hF2.weak; have hD2 : DAt w2 pb s (E + 1) bd 0 := DAt.fr (DAt.s1 (DAt.fr HD.out ((Fr.refl noB _).drewN _) id) (E + 1)) hF2 id)
              | (go_at_call 36; refine (HPL _).mono ?_; rintro e w3 ⟨rfl, rfl⟩))
            refine bodyPost_ret (v := .string N) (by kernel_rfl) rfl ?_
            refine ⟨fun t q h => ?_, fun a d h => ?_⟩
            · rw [HS3.out] at h; cases h
              exact ⟨rfl, hD2, hG2⟩
            · rw [HS3.out] at h; cases h
      · have HQ : Hid (endK nquK s (k + 1) = E) := by
          show _ = E
          rw [← HK.out]
          exact (endK_step nquK s k hkl (by rw [hbb]; simp [nquK, hq])).symm
        have hbi : ((b : Int) != 39) = true := by
          have : ¬ (b : Int) = 39 := by omega
          simpa using this
        have HD : Hid _ := hD
        clear hbb hb HS HE HK hD hq
        go_wp2_with fail
        go_quiet (fail)
        go_wp2_with fail
        go_roundw
        case rel => exact ⟨k + 1, DAt.s1 (DAt.fr HD.out ((Fr.refl noB _).drewN _) id) (k + 1), by omega, by omega, HQ, (HF.out.drewN _).setOne _ _⟩
        case measure =>
          have e : posD ((wr.drewN nq).setCell ⟨pb, 1, none⟩ (.int .i64 ((k : Int) + 1))) pb = k + 1 := (DAt.s1 (DAt.fr HD.out ((Fr.refl noB _).drewN _) id) (k + 1)).pos
          rw [e, HD.out.pos]
          omega
    · have hkl2 : decide ((k : Int) < (s.size : Int)) = false := decide_eq_false (by omega)
      have hge : (s.size : Int) ≤ (k : Int) := by omega
      have HS3 : Hid (shA s p = .error (s.size, 110)) := by
        show shA s p = _
        have e := HS.out
        rw [HE.out, if_neg] at e
        · exact e
        · rw [← HK.out, endK_stop nquK s k (fun e => hkl e.1)]
          exact hkl
      have HD : Hid _ := hD
      clear HS HE HK hD
      go_wp2_with fail
      go_quiet (fail)
      go_wp2_with fail
      go_quiet (fail)
      go_wp2_with (go_at_call 20; refine (fail_ok pb s k bd s.size 110 _ (DAt.fr HD.out ((Fr.refl noB _).drewN _) id)).mono ?_; rintro e w4 ⟨rfl, hD4, hF4⟩)
      refine bodyPost_ret (v := .string ⟨#[]⟩) (by kernel_rfl) rfl ?_
      refine ⟨fun t q h => ?_, fun a d h => ?_⟩
      · rw [HS3.out] at h; cases h
      · rw [HS3.out] at h; cases h
        exact ⟨_, k, rfl, by decide, hk, hD4, Fr.trans (HF.out.drewN _) hF4⟩
#print axioms rsheet_quo
set_option maxRecDepth 100000 in
set_option maxHeartbeats 8000000 in
theorem rsheet_pln (pb : Nat) (s : ByteArray) (p bd : Nat) (w : World) (h : DAt w pb s p bd 0) (hz : s.size ≤ 140737488355328) (hp : p ≤ s.size) (HTb : ∀ W, Fr (oneB pb) w W → Tabs W) (hi : isAt s 39 p = false) :
    Calls Tryd.prog 19 #[.pointer (some ⟨pb, 0, none⟩)] w fun r w' => (∀ t q, shA s p = .ok (t, q) → r = .returned (.string t) ∧ DAt w' pb s q bd 0 ∧ Fr (oneB pb) w w') ∧ (∀ a d, shA s p = .error (a, d) → ∃ T q, r = .returned (.string T) ∧ ¬ d = 0 ∧ q ≤ s.size ∧ DAt w' pb s q a d ∧ Fr (oneB pb) w w') := by
  have HT := take_ok pb s p bd 39 w h hz hp
  rw [hi, show past s 39 p = p by unfold past; rw [if_neg (by rw [hi]; simp)]] at HT
  have HS : Hid (shA s p = if endK wrdK s p = p then .ok (⟨#[]⟩, p) else if shtF (s.extract p (endK wrdK s p)) = true ∧ wrdF (s.extract p (endK wrdK s p)) = true then .ok (s.extract p (endK wrdK s p), endK wrdK s p) else .error (p, 111)) := by
    show shA s p = _
    conv => lhs; unfold shA
    rw [if_neg (by rw [hi]; simp)]
  obtain ⟨E, hE⟩ : ∃ E, endK wrdK s p = E := ⟨_, rfl⟩
  have HE : Hid (endK wrdK s p = E) := hE
  have d1 := h.c1
  clear h hi hE
  go_enter Tryd.func19, Tryd.ntmps19
  go_wp2_with (go_at_call 18; refine HT.mono ?_; rintro e w1 ⟨rfl, h1, hF1⟩)
  go_loopw [] (fun wr => ∃ k : Nat, DAt wr pb s k bd 0 ∧ k ≤ s.size ∧ p ≤ k ∧ Hid (endK wrdK s k = E) ∧ Hid (Fr (oneB pb) w wr)) (fun wr => s.size - posD wr pb)
  case atStart => exact ⟨p, h1, by omega, Nat.le_refl _, HE, hF1⟩
  case round =>
    obtain ⟨k, hD, hk, hk2, HK, HF⟩ := hrel
    have d0 := hD.c0; have d1 := hD.c1; have df := hD.f
    by_cases hkl : k < s.size
    · have hl : (k : Int) < (s.size : Int) := by omega
      have hx := wrd_a s k hkl
      obtain ⟨A, hA⟩ : ∃ A, (⟨#[97]⟩ : ByteArray) ++ s.extract k (k + 1) = A := ⟨_, rfl⟩
      have hAs : A.size = 2 := by rw [← hA, ByteArray.size_append, ext_size s k (k + 1) (by omega)]; show 1 + (k + 1 - k) = 2; omega
      have hcat : (⟨#[97]⟩ : ByteArray).size + (s.extract k (k + 1)).size ≤ 9223372036854775807 := by rw [ext_size s k (k + 1) (by omega)]; show 1 + (k + 1 - k) ≤ _; omega
      have HA := fun W => rplain_any A W (by omega)
      rw [hA] at hx
      rw [hx] at HA
      clear hx
      cases hw : wrdK (byt s k) with
      | false =>
        have HST : Hid (¬ (k < s.size ∧ wrdK (byt s k) = true)) := fun e => by rw [hw] at e; simp at e
        rw [hw] at HA
        clear hw
        have hkE : E = k := by rw [← HK.out]; exact endK_stop wrdK s k HST.out
        subst hkE
        have HD : Hid _ := hD
        have HTT : Hid _ := HTb
        have HS2 := HS.out
        rw [HE.out] at HS2
        by_cases hEp : E = p
        · subst hEp
          rw [if_pos rfl] at HS2
          have HS3 : Hid _ := HS2
          have hN0 : s.extract E E = ⟨#[]⟩ := by apply ba_nil; simp
          clear HS2 HS HE HK hD HTb
          go_wp2_with fail
          go_quiet ((go_at_call 36; exact Calls.quiet_of_same (HA _)))
          go_wp2_with fail
          go_quiet (fail)
          go_wp2_with fail
          refine bodyPost_ret (v := .string ⟨#[]⟩) (by kernel_rfl) rfl ?_
          refine ⟨fun t q h => ?_, fun a d h => ?_⟩
          · rw [HS3.out] at h; cases h
            exact ⟨rfl, (DAt.fr HD.out ((Fr.refl noB _).drewN _) id), (HF.out.drewN _)⟩
          · rw [HS3.out] at h; cases h
        · rw [if_neg hEp] at HS2
          obtain ⟨N, hN⟩ : ∃ N, s.extract p E = N := ⟨_, rfl⟩
          have hNs : N.size ≤ 140737488355328 := by rw [← hN]; simp; omega
          have hNe : N.toList.isEmpty = false := emp_no N (by rw [← hN, ext_size s p E (by omega)]; omega)
          have HSN : Hid (∀ W, Tabs W → Calls Tryd.prog 35 #[.string N] W fun e w' => e = .returned (.bool (shtF N)) ∧ Fr noB W w') := fun W hW => rsheetName_any N W hNs hW
          have HPL := fun W => rplain_any N W hNs
          rw [hN] at HS2
          clear HS HE HK hD HTb hEp
          cases hwd : wrdF N with
          | false =>
            rw [hwd] at HPL HS2
            rw [if_neg (by simp)] at HS2
            clear hwd HSN
            have HS3 : Hid _ := HS2
            clear HS2
            go_wp2_with fail
            go_quiet ((go_at_call 36; exact Calls.quiet_of_same (HA _)))
            go_wp2_with fail
            go_quiet (fail)
            go_wp2_with (first
              | (go_at_call 36; refine (HPL _).mono ?_; rintro e w3 ⟨rfl, rfl⟩)
              | (go_at_call 20; refine (fail_ok pb s E bd p 111 _ (DAt.fr HD.out ((Fr.refl noB _).drewN _) id)).mono ?_; rintro e w4 ⟨rfl, hD4, hF4⟩))
            refine bodyPost_ret (v := .string N) (by kernel_rfl) rfl ?_
            refine ⟨fun t q h => ?_, fun a d h => ?_⟩
            · rw [HS3.out] at h; cases h
            · rw [HS3.out] at h; cases h
              exact ⟨N, E, rfl, by decide, hk, hD4, Fr.trans (HF.out.drewN _) hF4⟩
          | true =>
            rw [hwd] at HPL HS2
            cases hsh : shtF N with
            | true =>
              rw [hsh] at HSN HS2
              rw [if_pos (by simp)] at HS2
              clear hsh hwd
              have HS3 : Hid _ := HS2
              clear HS2
              go_wp2_with fail
              go_quiet ((go_at_call 36; exact Calls.quiet_of_same (HA _)))
              go_wp2_with fail
              go_quiet (fail)
              go_wp2_with (first
                | (go_at_call 36; refine (HPL _).mono ?_; rintro e w3 ⟨rfl, rfl⟩)
                | (go_at_call 35; refine (HSN.out _ (HTT.out _ (HF.out.drewN _))).mono ?_; rintro e w2 ⟨rfl, hF2⟩; have hG2 : Fr (oneB pb) w w2 := Fr.trans (HF.out.drewN _) hF2.weak; have hD2 : DAt w2 pb s E bd 0 := DAt.fr (DAt.fr HD.out ((Fr.refl noB _).drewN _) id) hF2 id))
              refine bodyPost_ret (v := .string N) (by kernel_rfl) rfl ?_
              refine ⟨fun t q h => ?_, fun a d h => ?_⟩
              · rw [HS3.out] at h; cases h
                exact ⟨rfl, hD2, hG2⟩
              · rw [HS3.out] at h; cases h
            | false =>
              rw [hsh] at HSN HS2
              rw [if_neg (by simp)] at HS2
              clear hsh hwd
              have HS3 : Hid _ := HS2
              clear HS2
              go_wp2_with fail
              go_quiet ((go_at_call 36; exact Calls.quiet_of_same (HA _)))
              go_wp2_with fail
              go_quiet (fail)
              go_wp2_with (first
                | (go_at_call 36; refine (HPL _).mono ?_; rintro e w3 ⟨rfl, rfl⟩)
                | (go_at_call 35; refine (HSN.out _ (HTT.out _ (HF.out.drewN _))).mono ?_; rintro e w2 ⟨rfl, hF2⟩; have hG2 : Fr (oneB pb) w w2 := Fr.trans (HF.out.drewN _) hF2.weak; have hD2 : DAt w2 pb s E bd 0 := DAt.fr (DAt.fr HD.out ((Fr.refl noB _).drewN _) id) hF2 id)
                | (go_at_call 20; refine (fail_ok pb s E bd p 111 _ hD2).mono ?_; rintro e w4 ⟨rfl, hD4, hF4⟩))
              refine bodyPost_ret (v := .string N) (by kernel_rfl) rfl ?_
              refine ⟨fun t q h => ?_, fun a d h => ?_⟩
              · rw [HS3.out] at h; cases h
              · rw [HS3.out] at h; cases h
                exact ⟨N, E, rfl, by decide, hk, hD4, Fr.trans hG2 hF4⟩
      | true =>
        have HQ : Hid (endK wrdK s (k + 1) = E) := by
          show _ = E
          rw [← HK.out]
          exact (endK_step wrdK s k hkl hw).symm
        rw [hw] at HA
        have HD : Hid _ := hD
        clear hw HS HE HK hD
        go_wp2_with fail
        go_quiet ((go_at_call 36; exact Calls.quiet_of_same (HA _)))
        go_wp2_with fail
        go_roundw
        case rel => exact ⟨k + 1, DAt.s1 (DAt.fr HD.out ((Fr.refl noB _).drewN _) id) (k + 1), by omega, by omega, HQ, (HF.out.drewN _).setOne _ _⟩
        case measure =>
          have e : posD ((wr.drewN nq).setCell ⟨pb, 1, none⟩ (.int .i64 ((k : Int) + 1))) pb = k + 1 := (DAt.s1 (DAt.fr HD.out ((Fr.refl noB _).drewN _) id) (k + 1)).pos
          rw [e, HD.out.pos]
          omega
    · have hkl2 : decide ((k : Int) < (s.size : Int)) = false := decide_eq_false (by omega)
      have HST : Hid (¬ (k < s.size ∧ wrdK (byt s k) = true)) := fun e => hkl e.1
      have hkE : E = k := by rw [← HK.out]; exact endK_stop wrdK s k HST.out
      subst hkE
      have HD : Hid _ := hD
      have HTT : Hid _ := HTb
      have HS2 := HS.out
      rw [HE.out] at HS2
      by_cases hEp : E = p
      · subst hEp
        rw [if_pos rfl] at HS2
        have HS3 : Hid _ := HS2
        have hN0 : s.extract E E = ⟨#[]⟩ := by apply ba_nil; simp
        clear HS2 HS HE HK hD HTb
        go_wp2_with fail
        go_quiet (fail)
        go_wp2_with fail
        go_quiet (fail)
        go_wp2_with fail
        refine bodyPost_ret (v := .string ⟨#[]⟩) (by kernel_rfl) rfl ?_
        refine ⟨fun t q h => ?_, fun a d h => ?_⟩
        · rw [HS3.out] at h; cases h
          exact ⟨rfl, (DAt.fr HD.out ((Fr.refl noB _).drewN _) id), (HF.out.drewN _)⟩
        · rw [HS3.out] at h; cases h
      · rw [if_neg hEp] at HS2
        obtain ⟨N, hN⟩ : ∃ N, s.extract p E = N := ⟨_, rfl⟩
        have hNs : N.size ≤ 140737488355328 := by rw [← hN]; simp; omega
        have hNe : N.toList.isEmpty = false := emp_no N (by rw [← hN, ext_size s p E (by omega)]; omega)
        have HSN : Hid (∀ W, Tabs W → Calls Tryd.prog 35 #[.string N] W fun e w' => e = .returned (.bool (shtF N)) ∧ Fr noB W w') := fun W hW => rsheetName_any N W hNs hW
        have HPL := fun W => rplain_any N W hNs
        rw [hN] at HS2
        clear HS HE HK hD HTb hEp
        cases hwd : wrdF N with
        | false =>
          rw [hwd] at HPL HS2
          rw [if_neg (by simp)] at HS2
          clear hwd HSN
          have HS3 : Hid _ := HS2
          clear HS2
          go_wp2_with fail
          go_quiet (fail)
          go_wp2_with fail
          go_quiet (fail)
          go_wp2_with (first
            | (go_at_call 36; refine (HPL _).mono ?_; rintro e w3 ⟨rfl, rfl⟩)
            | (go_at_call 20; refine (fail_ok pb s E bd p 111 _ (DAt.fr HD.out ((Fr.refl noB _).drewN _) id)).mono ?_; rintro e w4 ⟨rfl, hD4, hF4⟩))
          refine bodyPost_ret (v := .string N) (by kernel_rfl) rfl ?_
          refine ⟨fun t q h => ?_, fun a d h => ?_⟩
          · rw [HS3.out] at h; cases h
          · rw [HS3.out] at h; cases h
            exact ⟨N, E, rfl, by decide, hk, hD4, Fr.trans (HF.out.drewN _) hF4⟩
        | true =>
          rw [hwd] at HPL HS2
          cases hsh : shtF N with
          | true =>
            rw [hsh] at HSN HS2
            rw [if_pos (by simp)] at HS2
            clear hsh hwd
            have HS3 : Hid _ := HS2
            clear HS2
            go_wp2_with fail
            go_quiet (fail)
            go_wp2_with fail
            go_quiet (fail)
            go_wp2_with (first
              | (go_at_call 36; refine (HPL _).mono ?_; rintro e w3 ⟨rfl, rfl⟩)
              | (go_at_call 35; refine (HSN.out _ (HTT.out _ (HF.out.drewN _))).mono ?_; rintro e w2 ⟨rfl, hF2⟩; have hG2 : Fr (oneB pb) w w2 := Fr.trans (HF.out.drewN _) hF2.weak; have hD2 : DAt w2 pb s E bd 0 := DAt.fr (DAt.fr HD.out ((Fr.refl noB _).drewN _) id) hF2 id))
            refine bodyPost_ret (v := .string N) (by kernel_rfl) rfl ?_
            refine ⟨fun t q h => ?_, fun a d h => ?_⟩
            · rw [HS3.out] at h; cases h
              exact ⟨rfl, hD2, hG2⟩
            · rw [HS3.out] at h; cases h
          | false =>
            rw [hsh] at HSN HS2
            rw [if_neg (by simp)] at HS2
            clear hsh hwd
            have HS3 : Hid _ := HS2
            clear HS2
            go_wp2_with fail
            go_quiet (fail)
            go_wp2_with fail
            go_quiet (fail)
            go_wp2_with (first
              | (go_at_call 36; refine (HPL _).mono ?_; rintro e w3 ⟨rfl, rfl⟩)
              | (go_at_call 35; refine (HSN.out _ (HTT.out _ (HF.out.drewN _))).mono ?_; rintro e w2 ⟨rfl, hF2⟩; have hG2 : Fr (oneB pb) w w2 := Fr.trans (HF.out.drewN _) hF2.weak; have hD2 : DAt w2 pb s E bd 0 := DAt.fr (DAt.fr HD.out ((Fr.refl noB _).drewN _) id) hF2 id)
              | (go_at_call 20; refine (fail_ok pb s E bd p 111 _ hD2).mono ?_; rintro e w4 ⟨rfl, hD4, hF4⟩))
            refine bodyPost_ret (v := .string N) (by kernel_rfl) rfl ?_
            refine ⟨fun t q h => ?_, fun a d h => ?_⟩
            · rw [HS3.out] at h; cases h
            · rw [HS3.out] at h; cases h
              exact ⟨N, E, rfl, by decide, hk, hD4, Fr.trans hG2 hF4⟩
#print axioms rsheet_pln
theorem rsheet_any (pb : Nat) (s : ByteArray) (p bd : Nat) (w : World) (h : DAt w pb s p bd 0) (hz : s.size ≤ 140737488355328) (hp : p ≤ s.size) (HTb : ∀ W, Fr (oneB pb) w W → Tabs W) :
    Calls Tryd.prog 19 #[.pointer (some ⟨pb, 0, none⟩)] w fun r w' => (∀ t q, shA s p = .ok (t, q) → r = .returned (.string t) ∧ DAt w' pb s q bd 0 ∧ Fr (oneB pb) w w') ∧ (∀ a d, shA s p = .error (a, d) → ∃ T q, r = .returned (.string T) ∧ ¬ d = 0 ∧ q ≤ s.size ∧ DAt w' pb s q a d ∧ Fr (oneB pb) w w') := by
  cases hi : isAt s 39 p with
  | true => exact rsheet_quo pb s p bd w h hz hp HTb hi
  | false => exact rsheet_pln pb s p bd w h hz hp HTb hi
end Go.Proofs.YtiokbpknaldbaaaDoor
