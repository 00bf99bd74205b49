/- Numbers of references: the document's side: number. -/
import Derived.Test.YtpefadblmgcpcaaDoorCNbR
import Derived.Laws.Runes
namespace Go.Proofs.YtpefadblmgcpcaaDoor
open Go.RowKit Go.Shelf

set_option maxRecDepth 100000 in
set_option maxHeartbeats 4000000 in
theorem number_any (S : ByteArray) (w : World) (hs : S.size ≤ 1048576) : Calls Tryd.prog 66 #[.string S] w fun e w' => e = .returned (.tuple #[.string (nbF S).1, .int .i64 (nbF S).2.1, .bool (nbF S).2.2]) ∧ Fr noB w w' := by
  obtain ⟨R, hR⟩ : ∃ R, nbF S = R := ⟨_, rfl⟩
  rw [hR]
  unfold nbF at hR
  have hsb := some_bytes S
  by_cases h0 : S.size = 0
  · have hb : basF S = (10, 0) := by unfold basF; rw [if_neg (by omega)]
    rw [hb] at hR
    simp only at hR
    obtain ⟨U, hU⟩ : ∃ U, scanF S 10 0 0 = U := ⟨_, rfl⟩
    rw [hU] at hR
    have HR : Hid _ := hR
    have hemp : S.toList.isEmpty = true := by rw [h0] at hsb; simpa using hsb
    clear hR hb hsb
    have HN : Hid (scanF S 10 0 0 = U) := hU
    clear hU
    go_enter Tryd.func66, Tryd.ntmps66
    go_wp2_with fail
    go_loopw [6, 7] (fun av nv wr => ∃ (k : Nat) (n : Int), av = .int .i64 (k : Int) ∧ nv = .int .i64 n ∧ k ≤ S.size ∧ 0 ≤ k ∧ 0 ≤ n ∧ n ≤ 1114112 ∧ Fr noB w wr ∧ Hid (scanF S 10 k n = U)) (fun av _ _ => S.size - (intOf av).toNat)
    case atStart => exact ⟨0, 0, rfl, rfl, by omega, Nat.le_refl _, by omega, by omega, Fr.refl _ _, HN⟩
    case round =>
      clear HN
      obtain ⟨k, n, rfl, rfl, hk, hka, hn0, hn1, hF, HC⟩ := hrel
      have hlt : ¬ k < S.size := by omega
      have HX : Hid (U = (k, n)) := by show U = _; rw [← HC.out, scanF_stop S 10 k n (fun h => hlt h.1)]
      have HRR := HR.out
      rw [HX.out] at HRR
      simp only at HRR
      have HY : Hid (R = (⟨#[]⟩, 0, false)) := by show R = _; rw [← HRR, if_pos (Or.inr (Or.inl hlt))]
      have hkz : ¬ (k : Int) < (S.size : Int) := by omega
      clear HRR HC
      have hk0 : k = 0 := by omega
      subst hk0
      go_wp2_with fail
      go_ret3
      rw [HY.out]
      exact ⟨rfl, hF⟩
  · have hemp : S.toList.isEmpty = false := by
      have : (S.size != 0) = true := by simpa using h0
      rw [this] at hsb
      simpa using hsb
    have hg0 : S.get! 0 = S[0]'(by omega) := by simp [ByteArray.get!, getElem!_pos, show 0 < S.size by omega]; rfl
    have hpos : 0 < S.size := by omega
    by_cases h120 : (S[0]'(by omega)).toNat = 120
    · have hb : basF S = (16, 1) := by unfold basF; rw [if_pos ⟨h0, by rw [hg0]; exact h120⟩]
      rw [hb] at hR
      simp only at hR
      obtain ⟨U, hU⟩ : ∃ U, scanF S 16 1 0 = U := ⟨_, rfl⟩
      rw [hU] at hR
      have HR : Hid _ := hR
      have h120z : (((S[0]'(by omega)).toNat : Nat) : Int) = 120 := by omega
      clear hR hb hsb hg0 h120
      have HN : Hid (scanF S 16 1 0 = U) := hU
      clear hU
      go_enter Tryd.func66, Tryd.ntmps66
      go_wp2_with fail
      go_loopw [6, 7] (fun av nv wr => ∃ (k : Nat) (n : Int), av = .int .i64 (k : Int) ∧ nv = .int .i64 n ∧ k ≤ S.size ∧ 1 ≤ k ∧ 0 ≤ n ∧ n ≤ 1114112 ∧ Fr noB w wr ∧ Hid (scanF S 16 k n = U)) (fun av _ _ => S.size - (intOf av).toNat)
      case atStart => exact ⟨1, 0, rfl, rfl, by omega, Nat.le_refl _, by omega, by omega, Fr.refl _ _, HN⟩
      case round =>
        clear HN
        obtain ⟨k, n, rfl, rfl, hk, hka, hn0, hn1, hF, HC⟩ := hrel
        by_cases hlt : k < S.size
        · have hgk : S.get! k = S[k] := by simp [ByteArray.get!, getElem!_pos, hlt]; rfl
          have hx256 : S[k].toNat < 256 := S[k].toNat_lt
          have HDG := fun w => digit_any S[k].toNat 16 hx256 (by omega) w
          have hdl := digF_le S[k].toNat 16 (by omega)
          by_cases hd : 0 ≤ digF S[k].toNat 16
          · have HC2 := HC.out
            rw [scanF_step S 16 k n ⟨hlt, by rw [hgk]; exact hd⟩, hgk] at HC2
            obtain ⟨v, hv⟩ : ∃ v, digF S[k].toNat 16 = v := ⟨_, rfl⟩
            rw [hv] at HDG hdl hd HC2
            have HX : Hid (scanF S 16 (k + 1) (min (n * 16 + v) 1114112) = U) := HC2
            clear HC HC2 hv hgk
            go_wp2_with (go_at_call 73; with_reducible refine (HDG _).mono ?_; rintro e w3 ⟨rfl, rfl⟩)
            go_roundw
            case rel => exact ⟨k + 1, _, by go_num, rfl, by omega, by omega, by omega, by omega, hF, HX⟩
            case measure => simp [intOf]; omega
          · have HX : Hid (U = (k, n)) := by
              show U = _
              rw [← HC.out, scanF_stop S 16 k n (fun h => hd (by rw [← hgk]; exact h.2))]
            have hv1 : digF S[k].toNat 16 = -1 := by unfold digF at hd ⊢; have := worthF_bounds ((S[k].toNat : Nat) : Int); split <;> rename_i h' <;> simp only [h', if_true, if_false] at hd <;> omega
            rw [hv1] at HDG
            have HRR := HR.out
            rw [HX.out] at HRR
            simp only at HRR
            have HCH := rchar_any n
            by_cases hkA : k = 1
            · subst hkA
              have HY : Hid (R = (⟨#[]⟩, 0, false)) := by show R = _; rw [← HRR, if_pos (Or.inl rfl)]
              clear HRR HC hv1 hd hdl hgk hx256
              go_wp2_with (go_at_call 73; with_reducible refine (HDG _).mono ?_; rintro e w3 ⟨rfl, rfl⟩)
              go_ret3
              rw [HY.out]
              exact ⟨rfl, hF⟩
            · have hkAz : ¬ (k : Int) = 1 := by omega
              have hkAb : ((k : Int) == 1) = false := by simpa using hkAz
              by_cases h59 : S[k].toNat = 59
              · have h59z : ((S[k].toNat : Nat) : Int) = 59 := by omega
                have h59b : (((S[k].toNat : Nat) : Int) != 59) = false := by rw [h59z]; rfl
                rw [h59z] at HDG
                have hnw : IntKind.i32.wrap n = n := by rw [IntKind.wrap_i32]; omega
                cases hch : charF n with
                | false =>
                  have HY : Hid (R = (⟨#[]⟩, 0, false)) := by show R = _; rw [← HRR, if_pos (Or.inr (Or.inr (Or.inr hch)))]
                  rw [hch] at HCH
                  clear HRR HC hv1 hd hdl hgk hx256 hch
                  go_wp2_with (first | (go_at_call 73; with_reducible refine (HDG _).mono ?_; rintro e w3 ⟨rfl, rfl⟩) | (go_at_call 35; with_reducible refine (HCH _).mono ?_; rintro e w4 ⟨rfl, hF4⟩))
                  go_ret3
                  rw [HY.out]
                  exact ⟨rfl, hF.trans hF4⟩
                | true =>
                  have HY : Hid (R = (Utf8.encode n, (k : Int) + 1, true)) := by
                    show R = _
                    rw [← HRR, if_neg]
                    rintro (h | h | h | h)
                    · exact hkA h
                    · exact h hlt
                    · rw [hgk] at h; exact h h59
                    · rw [hch] at h; cases h
                  rw [hch] at HCH
                  clear HRR HC hv1 hd hdl hgk hx256 hch
                  go_wp2_with (first | (go_at_call 73; with_reducible refine (HDG _).mono ?_; rintro e w3 ⟨rfl, rfl⟩) | (go_at_call 35; with_reducible refine (HCH _).mono ?_; rintro e w4 ⟨rfl, hF4⟩))
                  go_ret3
                  rw [HY.out]
                  exact ⟨rfl, hF.trans hF4⟩
              · have h59z : ¬ ((S[k].toNat : Nat) : Int) = 59 := by omega
                have h59b : (((S[k].toNat : Nat) : Int) != 59) = true := by simpa using h59z
                have HY : Hid (R = (⟨#[]⟩, 0, false)) := by show R = _; rw [← HRR, if_pos (Or.inr (Or.inr (Or.inl (by rw [hgk]; exact h59))))]
                clear HRR HC hv1 hd hdl hgk hx256 h59
                go_wp2_with (go_at_call 73; with_reducible refine (HDG _).mono ?_; rintro e w3 ⟨rfl, rfl⟩)
                go_ret3
                rw [HY.out]
                exact ⟨rfl, hF⟩
        · have HX : Hid (U = (k, n)) := by show U = _; rw [← HC.out, scanF_stop S 16 k n (fun h => hlt h.1)]
          have HRR := HR.out
          rw [HX.out] at HRR
          simp only at HRR
          have HY : Hid (R = (⟨#[]⟩, 0, false)) := by show R = _; rw [← HRR, if_pos (Or.inr (Or.inl hlt))]
          have hkz : ¬ (k : Int) < (S.size : Int) := by omega
          clear HRR HC
          by_cases hkA : k = 1
          · subst hkA
            go_wp2_with fail
            go_ret3
            rw [HY.out]
            exact ⟨rfl, hF⟩
          · have hkAz : ¬ (k : Int) = 1 := by omega
            have hkAb : ((k : Int) == 1) = false := by simpa using hkAz
            go_wp2_with fail
            go_ret3
            rw [HY.out]
            exact ⟨rfl, hF⟩
    · have hb : basF S = (10, 0) := by unfold basF; rw [if_neg (fun h => h120 (by rw [← hg0]; exact h.2))]
      rw [hb] at hR
      simp only at hR
      obtain ⟨U, hU⟩ : ∃ U, scanF S 10 0 0 = U := ⟨_, rfl⟩
      rw [hU] at hR
      have HR : Hid _ := hR
      have h120z : ¬ (((S[0]'(by omega)).toNat : Nat) : Int) = 120 := by omega
      have h120b : ((((S[0]'(by omega)).toNat : Nat) : Int) == 120) = false := by simpa using h120z
      clear hR hb hsb hg0 h120
      have HN : Hid (scanF S 10 0 0 = U) := hU
      clear hU
      go_enter Tryd.func66, Tryd.ntmps66
      go_wp2_with fail
      go_loopw [6, 7] (fun av nv wr => ∃ (k : Nat) (n : Int), av = .int .i64 (k : Int) ∧ nv = .int .i64 n ∧ k ≤ S.size ∧ 0 ≤ k ∧ 0 ≤ n ∧ n ≤ 1114112 ∧ Fr noB w wr ∧ Hid (scanF S 10 k n = U)) (fun av _ _ => S.size - (intOf av).toNat)
      case atStart => exact ⟨0, 0, rfl, rfl, by omega, Nat.le_refl _, by omega, by omega, Fr.refl _ _, HN⟩
      case round =>
        clear HN
        obtain ⟨k, n, rfl, rfl, hk, hka, hn0, hn1, hF, HC⟩ := hrel
        by_cases hlt : k < S.size
        · have hgk : S.get! k = S[k] := by simp [ByteArray.get!, getElem!_pos, hlt]; rfl
          have hx256 : S[k].toNat < 256 := S[k].toNat_lt
          have HDG := fun w => digit_any S[k].toNat 10 hx256 (by omega) w
          have hdl := digF_le S[k].toNat 10 (by omega)
          by_cases hd : 0 ≤ digF S[k].toNat 10
          · have HC2 := HC.out
            rw [scanF_step S 10 k n ⟨hlt, by rw [hgk]; exact hd⟩, hgk] at HC2
            obtain ⟨v, hv⟩ : ∃ v, digF S[k].toNat 10 = v := ⟨_, rfl⟩
            rw [hv] at HDG hdl hd HC2
            have HX : Hid (scanF S 10 (k + 1) (min (n * 10 + v) 1114112) = U) := HC2
            clear HC HC2 hv hgk
            go_wp2_with (go_at_call 73; with_reducible refine (HDG _).mono ?_; rintro e w3 ⟨rfl, rfl⟩)
            go_roundw
            case rel => exact ⟨k + 1, _, by go_num, rfl, by omega, by omega, by omega, by omega, hF, HX⟩
            case measure => simp [intOf]; omega
          · have HX : Hid (U = (k, n)) := by
              show U = _
              rw [← HC.out, scanF_stop S 10 k n (fun h => hd (by rw [← hgk]; exact h.2))]
            have hv1 : digF S[k].toNat 10 = -1 := by unfold digF at hd ⊢; have := worthF_bounds ((S[k].toNat : Nat) : Int); split <;> rename_i h' <;> simp only [h', if_true, if_false] at hd <;> omega
            rw [hv1] at HDG
            have HRR := HR.out
            rw [HX.out] at HRR
            simp only at HRR
            have HCH := rchar_any n
            by_cases hkA : k = 0
            · subst hkA
              have HY : Hid (R = (⟨#[]⟩, 0, false)) := by show R = _; rw [← HRR, if_pos (Or.inl rfl)]
              clear HRR HC hv1 hd hdl hgk hx256
              go_wp2_with (go_at_call 73; with_reducible refine (HDG _).mono ?_; rintro e w3 ⟨rfl, rfl⟩)
              go_ret3
              rw [HY.out]
              exact ⟨rfl, hF⟩
            · have hkAz : ¬ (k : Int) = 0 := by omega
              have hkAb : ((k : Int) == 0) = false := by simpa using hkAz
              by_cases h59 : S[k].toNat = 59
              · have h59z : ((S[k].toNat : Nat) : Int) = 59 := by omega
                have h59b : (((S[k].toNat : Nat) : Int) != 59) = false := by rw [h59z]; rfl
                rw [h59z] at HDG
                have hnw : IntKind.i32.wrap n = n := by rw [IntKind.wrap_i32]; omega
                cases hch : charF n with
                | false =>
                  have HY : Hid (R = (⟨#[]⟩, 0, false)) := by show R = _; rw [← HRR, if_pos (Or.inr (Or.inr (Or.inr hch)))]
                  rw [hch] at HCH
                  clear HRR HC hv1 hd hdl hgk hx256 hch
                  go_wp2_with (first | (go_at_call 73; with_reducible refine (HDG _).mono ?_; rintro e w3 ⟨rfl, rfl⟩) | (go_at_call 35; with_reducible refine (HCH _).mono ?_; rintro e w4 ⟨rfl, hF4⟩))
                  go_ret3
                  rw [HY.out]
                  exact ⟨rfl, hF.trans hF4⟩
                | true =>
                  have HY : Hid (R = (Utf8.encode n, (k : Int) + 1, true)) := by
                    show R = _
                    rw [← HRR, if_neg]
                    rintro (h | h | h | h)
                    · exact hkA h
                    · exact h hlt
                    · rw [hgk] at h; exact h h59
                    · rw [hch] at h; cases h
                  rw [hch] at HCH
                  clear HRR HC hv1 hd hdl hgk hx256 hch
                  go_wp2_with (first | (go_at_call 73; with_reducible refine (HDG _).mono ?_; rintro e w3 ⟨rfl, rfl⟩) | (go_at_call 35; with_reducible refine (HCH _).mono ?_; rintro e w4 ⟨rfl, hF4⟩))
                  go_ret3
                  rw [HY.out]
                  exact ⟨rfl, hF.trans hF4⟩
              · have h59z : ¬ ((S[k].toNat : Nat) : Int) = 59 := by omega
                have h59b : (((S[k].toNat : Nat) : Int) != 59) = true := by simpa using h59z
                have HY : Hid (R = (⟨#[]⟩, 0, false)) := by show R = _; rw [← HRR, if_pos (Or.inr (Or.inr (Or.inl (by rw [hgk]; exact h59))))]
                clear HRR HC hv1 hd hdl hgk hx256 h59
                go_wp2_with (go_at_call 73; with_reducible refine (HDG _).mono ?_; rintro e w3 ⟨rfl, rfl⟩)
                go_ret3
                rw [HY.out]
                exact ⟨rfl, hF⟩
        · have HX : Hid (U = (k, n)) := by show U = _; rw [← HC.out, scanF_stop S 10 k n (fun h => hlt h.1)]
          have HRR := HR.out
          rw [HX.out] at HRR
          simp only at HRR
          have HY : Hid (R = (⟨#[]⟩, 0, false)) := by show R = _; rw [← HRR, if_pos (Or.inr (Or.inl hlt))]
          have hkz : ¬ (k : Int) < (S.size : Int) := by omega
          clear HRR HC
          by_cases hkA : k = 0
          · exact absurd hlt (by omega)
          · have hkAz : ¬ (k : Int) = 0 := by omega
            have hkAb : ((k : Int) == 0) = false := by simpa using hkAz
            go_wp2_with fail
            go_ret3
            rw [HY.out]
            exact ⟨rfl, hF⟩
#print axioms number_any
end Go.Proofs.YtpefadblmgcpcaaDoor
