/- The document's reader: a row's number. -/
import Derived.Test.YtiokbpknaldbaaaDoorRDs
import Derived.Test.YtiokbpknaldbaaaDoorRDm
namespace Go.Proofs.YtiokbpknaldbaaaDoor
open Go.RowKit Go.Shelf

theorem digs_run (s : ByteArray) (p : Nat) (hp : p ≤ s.size) : digsL (s.extract p (endK digK s p)).data.toList := by
  intro c hc
  obtain ⟨i, hi, hci⟩ := List.mem_iff_getElem.1 hc
  have hle := endK_le digK s p hp
  have hsz : (s.extract p (endK digK s p)).data.toList.length = endK digK s p - p := by
    rw [Array.length_toList]
    exact ext_size s p (endK digK s p) hle
  have h1 := endK_all digK s p (p + i) (by omega) (by omega)
  have h2 := ext_byt s p (endK digK s p) i hle (by omega)
  rw [← h2] at h1
  have h3 : byt (s.extract p (endK digK s p)) i = c.toNat := by
    rw [← byt_at (s.extract p (endK digK s p)) i (by rw [ext_size s p _ hle]; omega)]
    rw [← hci]
    rfl
  rw [h3] at h1
  simpa [digK] using h1
theorem roA_is (s : ByteArray) (p : Nat) (hp : p ≤ s.size) : roA s p = if endK digK s p = p ∨ byt s p = 48 ∨ 1048576 < foldD (s.extract p (endK digK s p)).data.toList 0 then .error (p, 110) else .ok (foldD (s.extract p (endK digK s p)).data.toList 0 - 1, endK digK s p) := by
  have hle := endK_le digK s p hp
  have hge := endK_ge digK s p
  have hsz := ext_size s p (endK digK s p) hle
  unfold roA
  rw [rowF_fold _ (digs_run s p hp), hsz]
  by_cases h0 : endK digK s p = p
  · rw [if_pos (Or.inl (by omega)), if_pos (Or.inl h0)]
  · have hb : byt (s.extract p (endK digK s p)) 0 = byt s p := by
      have := ext_byt s p (endK digK s p) 0 hle (by omega)
      simpa using this
    rw [hb]
    by_cases h1 : byt s p = 48 ∨ 1048576 < foldD (s.extract p (endK digK s p)).data.toList 0
    · rw [if_pos (Or.inr h1), if_pos (Or.inr h1)]
    · rw [if_neg (fun h => h.elim (by omega) h1), if_neg (fun h => h.elim h0 h1)]
theorem fold_one (s : ByteArray) (p : Nat) (hp : p ≤ s.size) (h0 : ¬ endK digK s p = p) (hb : ¬ byt s p = 48) : 1 ≤ foldD (s.extract p (endK digK s p)).data.toList 0 := by
  have hle := endK_le digK s p hp
  have hge := endK_ge digK s p
  have hd := digs_run s p hp
  have e := ext_cons s p (endK digK s p) (by omega) hle
  rw [e] at hd ⊢
  have hc := hd _ (List.mem_cons_self ..)
  rw [foldD]
  refine foldD_ge _ _ ?_
  have : (s[p]'(by omega)).toNat = byt s p := byt_at s p (by omega)
  omega
set_option maxRecDepth 100000 in
set_option maxHeartbeats 8000000 in
theorem rrowD_any (pb : Nat) (s : ByteArray) (p bd : Nat) (w : World) (h : DAt w pb s p bd 0) (hz : s.size ≤ 140737488355328) (hp : p ≤ s.size) :
    Calls Tryd.prog 38 #[.pointer (some ⟨pb, 0, none⟩)] w fun r w' => (∀ n q, roA s p = .ok (n, q) → r = .returned (.int .i64 (n : Int)) ∧ DAt w' pb s q bd 0 ∧ Fr (oneB pb) w w') ∧ (∀ a d, roA s p = .error (a, d) → ∃ v q, r = .returned (.int .i64 v) ∧ ¬ d = 0 ∧ q ≤ s.size ∧ DAt w' pb s q a d ∧ Fr (oneB pb) w w') := by
  have HS : Hid _ := roA_is s p hp
  have H1 : Hid _ := fold_one s p hp
  obtain ⟨E, hE⟩ : ∃ E, endK digK s p = E := ⟨_, rfl⟩
  have HE : Hid (endK digK s p = E) := hE
  have hEs : E ≤ s.size := by rw [← hE]; exact endK_le digK s p hp
  have hpE : p ≤ E := by rw [← hE]; exact endK_ge digK s p
  obtain ⟨R, hR⟩ : ∃ R, foldD (s.extract p E).data.toList 0 = R := ⟨_, rfl⟩
  have HR : Hid (foldD (s.extract p E).data.toList 0 = R) := hR
  have d1 := h.c1
  have HH : Hid _ := h
  clear h hE hR
  go_enter Tryd.func38, Tryd.ntmps38
  go_wp2_with fail
  go_loopw [4] (fun nv wr => ∃ k a : Nat, nv = .int .i64 (a : Int) ∧ DAt wr pb s k bd 0 ∧ k ≤ E ∧ p ≤ k ∧ a ≤ 1048577 ∧ Hid (endK digK s k = E) ∧ Hid (foldD (s.extract k E).data.toList a = R) ∧ Hid (Fr (oneB pb) w wr)) (fun _ wr => s.size - posD wr pb)
  case atStart => exact ⟨p, 0, rfl, HH.out, hpE, Nat.le_refl _, by omega, HE, HR, Fr.refl _ _⟩
  case round =>
    obtain ⟨k, a, rfl, hD, hk, hk2, ha, HK, HA, HF⟩ := hrel
    have d0 := hD.c0; have d1 := hD.c1; have d3 := hD.c3; have df := hD.f
    have HD : Hid _ := hD
    clear hD
    by_cases hgo : k < s.size ∧ digK (byt s k) = true
    · obtain ⟨hkl, hdg⟩ := hgo
      have hl : (k : Int) < (s.size : Int) := by omega
      have hst := endK_step digK s k hkl hdg
      have hb := byt_at s k hkl
      have hkE : k < E := by
        have e := HK.out
        rw [hst] at e
        have := endK_ge digK s (k + 1)
        omega
      have HA2 := HA.out
      rw [ext_cons s k E hkE hEs, foldD] at HA2
      obtain ⟨b, hbb⟩ : ∃ b, byt s k = b := ⟨_, rfl⟩
      have hbl := byt_lt s k
      rw [hbb] at hb hbl hdg
      rw [hb] at HA2
      have hx : ∀ hh, (s[k]'hh).toNat = b := fun _ => hb
      have hdd : 48 ≤ b ∧ b ≤ 57 := by simpa [digK] using hdg
      obtain ⟨y, hy⟩ : ∃ y, 10 * a + (b - 48) = y := ⟨_, rfl⟩
      rw [hy] at HA2
      obtain ⟨z, hzz⟩ : ∃ z, min y 1048577 = z := ⟨_, rfl⟩
      rw [hzz] at HA2
      have HA3 : Hid (foldD (s.extract (k + 1) E).data.toList z = R) := HA2
      have HK3 : Hid (endK digK s (k + 1) = E) := hst.symm.trans HK.out
      have g1 : (48 : Int) ≤ (b : Int) := by omega
      have g2 : (b : Int) ≤ 57 := by omega
      have hy1 : (10 : Int) * (a : Int) + ((b : Int) - 48) = (y : Int) := by omega
      have hz1 : min (y : Int) 1048577 = (z : Int) := by omega
      have hzb : z ≤ 1048577 := by omega
      clear HA HA2 HK hst hb hbb hdg HS H1 HE HR hdd hzz hy
      go_wp2_with fail
      go_quiet (fail)
      go_wp2_with fail
      go_quiet (fail)
      go_wp2_with fail
      go_roundw
      case rel => exact ⟨k + 1, z, rfl, DAt.s1 (DAt.fr HD.out ((Fr.refl noB _).drewN _) id) (k + 1), by omega, by omega, hzb, HK3, HA3, (HF.out.drewN _).setOne _ _⟩
      case measure =>
        have e : ∀ m, posD ((wr.drewN m).setCell ⟨pb, 1, none⟩ (.int .i64 ((k : Int) + 1))) pb = k + 1 := fun m => (DAt.s1 (DAt.fr HD.out ((Fr.refl noB _).drewN m) id) (k + 1)).pos
        rw [e, HD.out.pos]
        omega
    · have hkE : E = k := by rw [← HK.out]; exact endK_stop digK s k hgo
      have haR : a = R := by
        have e := HA.out
        rw [hkE] at e
        have e2 : (s.extract k k).data.toList = [] := by rw [ext_list]; simp
        rw [e2, foldD] at e
        exact e
      have HX : (¬ k < s.size ∧ decide ((k : Int) < (s.size : Int)) = false) ∨ ((k : Int) < (s.size : Int) ∧ ∃ b : Nat, (∀ hh, (s[k]'hh).toNat = b) ∧ b < 256 ∧ decide ((48 : Int) ≤ (b : Int)) = false) ∨ ((k : Int) < (s.size : Int) ∧ ∃ b : Nat, (∀ hh, (s[k]'hh).toNat = b) ∧ b < 256 ∧ (48 : Int) ≤ (b : Int) ∧ ¬ (b : Int) ≤ 57) := by
        by_cases hkl : k < s.size
        · right
          have hb := byt_at s k hkl
          have hnd : ¬ (48 ≤ byt s k ∧ byt s k ≤ 57) := fun e => hgo ⟨hkl, by simpa [digK] using e⟩
          by_cases h48 : 48 ≤ byt s k
          · exact Or.inr ⟨by omega, byt s k, fun _ => hb, byt_lt s k, by omega, by omega⟩
          · exact Or.inl ⟨by omega, byt s k, fun _ => hb, byt_lt s k, decide_eq_false (by omega)⟩
        · exact Or.inl ⟨hkl, decide_eq_false (by omega)⟩
      have HS2 := HS.out
      rw [HE.out, HR.out, ← haR] at HS2
      have H12 := H1.out
      rw [HE.out, HR.out, ← haR] at H12
      subst hkE
      clear HS H1 HE HR HA HK haR hgo HH
      by_cases hEp : E = p
      · subst hEp
        rw [if_pos (Or.inl rfl)] at HS2
        have HS3 : Hid _ := HS2
        clear HS2 H12
        rcases HX with ⟨hkl, hkl2⟩ | ⟨hl, b, hx, hbl, h48⟩ | ⟨hl, b, hx, hbl, h48, h57⟩
        all_goals
          go_wp2_with fail
          go_quiet (fail)
          go_wp2_with (go_at_call 20; refine (fail_ok pb s E bd E 110 _ (DAt.fr HD.out ((Fr.refl noB _).drewN _) id)).mono ?_; rintro e w4 ⟨rfl, hD4, hF4⟩)
          refine bodyPost_ret (v := .int .i64 ((a : Int) - 1)) (by kernel_rfl) rfl ?_
          refine ⟨fun n q h => ?_, fun a2 d h => ?_⟩
          · rw [HS3.out] at h; cases h
          · rw [HS3.out] at h; cases h
            exact ⟨_, E, rfl, by decide, hEs, hD4, Fr.trans (HF.out.drewN _) hF4⟩
      · have hEi : ¬ (E : Int) = (p : Int) := by omega
        have hpl : (p : Int) < (s.size : Int) := by omega
        have hpb := byt_at s p (by omega)
        by_cases h48p : byt s p = 48
        · rw [if_pos (Or.inr (Or.inl h48p))] at HS2
          have HS3 : Hid _ := HS2
          rw [h48p] at hpb
          have hxp : ∀ hh, (s[p]'hh).toNat = 48 := fun _ => hpb
          clear HS2 H12 hpb h48p hEp
          rcases HX with ⟨hkl, hkl2⟩ | ⟨hl, b, hx, hbl, h48⟩ | ⟨hl, b, hx, hbl, h48, h57⟩
          all_goals
            go_wp2_with fail
            go_quiet (fail)
            go_wp2_with (go_at_call 20; refine (fail_ok pb s E bd p 110 _ (DAt.fr HD.out ((Fr.refl noB _).drewN _) id)).mono ?_; rintro e w4 ⟨rfl, hD4, hF4⟩)
            refine bodyPost_ret (v := .int .i64 ((a : Int) - 1)) (by kernel_rfl) rfl ?_
            refine ⟨fun n q h => ?_, fun a2 d h => ?_⟩
            · rw [HS3.out] at h; cases h
            · rw [HS3.out] at h; cases h
              exact ⟨_, E, rfl, by decide, hEs, hD4, Fr.trans (HF.out.drewN _) hF4⟩
        · have h1 := H12 hEp h48p
          obtain ⟨c, hc⟩ : ∃ c, byt s p = c := ⟨_, rfl⟩
          rw [hc] at hpb h48p
          have hcl : c < 256 := by rw [← hc]; exact byt_lt s p
          have hxp : ∀ hh, (s[p]'hh).toNat = c := fun _ => hpb
          have hci : ((c : Int) == 48) = false := by
            have : ¬ (c : Int) = 48 := by omega
            simpa using this
          rw [hc] at HS2
          by_cases hbig : 1048576 < a
          · rw [if_pos (Or.inr (Or.inr hbig))] at HS2
            have HS3 : Hid _ := HS2
            have hbi : (1048576 : Int) < (a : Int) := by omega
            clear HS2 H12 hpb hc h48p hEp hbig
            rcases HX with ⟨hkl, hkl2⟩ | ⟨hl, b, hx, hbl, h48⟩ | ⟨hl, b, hx, hbl, h48, h57⟩
            all_goals
              go_wp2_with fail
              go_quiet (fail)
              go_wp2_with (go_at_call 20; refine (fail_ok pb s E bd p 110 _ (DAt.fr HD.out ((Fr.refl noB _).drewN _) id)).mono ?_; rintro e w4 ⟨rfl, hD4, hF4⟩)
              refine bodyPost_ret (v := .int .i64 ((a : Int) - 1)) (by kernel_rfl) rfl ?_
              refine ⟨fun n q h => ?_, fun a2 d h => ?_⟩
              · rw [HS3.out] at h; cases h
              · rw [HS3.out] at h; cases h
                exact ⟨_, E, rfl, by decide, hEs, hD4, Fr.trans (HF.out.drewN _) hF4⟩
          · rw [if_neg (fun e => e.elim hEp (fun e => e.elim h48p hbig))] at HS2
            have HS3 : Hid _ := HS2
            have hbi : decide ((1048576 : Int) < (a : Int)) = false := decide_eq_false (by omega)
            clear HS2 H12 hpb hc h48p hEp hbig
            rcases HX with ⟨hkl, hkl2⟩ | ⟨hl, b, hx, hbl, h48⟩ | ⟨hl, b, hx, hbl, h48, h57⟩
            all_goals
              go_wp2_with fail
              go_quiet (fail)
              go_wp2_with fail
              refine bodyPost_ret (v := .int .i64 ((a : Int) - 1)) (by kernel_rfl) rfl ?_
              refine ⟨fun n q h => ?_, fun a2 d h => ?_⟩
              · rw [HS3.out] at h; cases h
                exact ⟨by rw [show ((a - 1 : Nat) : Int) = (a : Int) - 1 by omega], (DAt.fr HD.out ((Fr.refl noB _).drewN _) id), (HF.out.drewN _)⟩
              · rw [HS3.out] at h; cases h
#print axioms rrowD_any
set_option maxRecDepth 100000 in
set_option maxHeartbeats 2000000 in
theorem rrowD_e (pb : Nat) (s : ByteArray) (p bd : Nat) (e : Int) (w : World) (h : DAt w pb s p bd e) (he : ¬ e = 0) :
    Calls Tryd.prog 38 #[.pointer (some ⟨pb, 0, none⟩)] w fun r w' => r = .returned (.int .i64 (-1)) ∧ DAt w' pb s p bd e ∧ Fr (oneB pb) w w' := by
  have d1 := h.c1
  have he2 : (e == 0) = false := by simpa using he
  have HH : Hid _ := h
  clear h
  go_enter Tryd.func38, Tryd.ntmps38
  go_wp2_with fail
  go_loopw [4] (fun nv wr => nv = .int .i64 0 ∧ DAt wr pb s p bd e ∧ Hid (Fr (oneB pb) w wr)) (fun _ _ => 0)
  case atStart => exact ⟨rfl, HH.out, Fr.refl _ _⟩
  case round =>
    obtain ⟨rfl, hD, HF⟩ := hrel
    have d0 := hD.c0; have d1 := hD.c1; have d3 := hD.c3
    have HD : Hid _ := hD
    clear hD
    go_wp2_with fail
    go_quiet (fail)
    go_wp2_with fail
    exact bodyPost_ret (v := .int .i64 (-1)) (by kernel_rfl) rfl ⟨rfl, (DAt.fr HD.out ((Fr.refl noB _).drewN _) id), (HF.out.drewN _)⟩
#print axioms rrowD_e
end Go.Proofs.YtiokbpknaldbaaaDoor
