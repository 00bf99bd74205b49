/- Places, Count and Cut: the document's side. -/
import Derived.Test.YtpefadblmgcpcaaDoorCNmR
import Derived.Deep.DeepCutAuto
namespace Go.Proofs.YtpefadblmgcpcaaDoor
open Go.RowKit Go.Shelf

set_option maxRecDepth 100000 in
set_option maxHeartbeats 2000000 in
theorem rplaces_any (s : ByteArray) (w : World) (hs : s.size ≤ 1048576) (hT : Tabs w) : Calls Tryd.prog 30 #[.string s] w fun e w' => ∃ so sc, e = .returned (.slice so (plcL (runs s 0) ++ [s.size]).length sc) ∧ w'.ownsRow w.heap.size 3 1 (.slice so (plcL (runs s 0) ++ [s.size]).length sc) (plcL (runs s 0) ++ [s.size]).length (nV .i64 (plcL (runs s 0) ++ [s.size])) ∧ Fr noB w w' := by
  obtain ⟨i0, hi, hz0, hz1, hz2⟩ := info_parts info64
  have HT : Hid (Tabs w) := hT
  clear hT
  obtain ⟨R, hR⟩ : ∃ R, plcL (runs s 0) ++ [s.size] = R := ⟨_, rfl⟩
  have HR : Hid (plcL (runs s 0) ++ [s.size] = R) := hR
  rw [hR]
  clear hR
  go_enter Tryd.func30, Tryd.ntmps30
  go_wp2
  go_loopw [3, 4] (fun lv iv wr => ∃ (pos : Nat) (D : List Nat) (so : Option Addr) (sc : Nat), lv = .slice so D.length sc ∧ iv = .int .i64 (pos : Int) ∧ wr.ownsRow w.heap.size 3 1 (.slice so D.length sc) D.length (nV .i64 D) ∧ Fr noB w wr ∧ pos ≤ s.size ∧ D.length ≤ pos ∧ Hid (D ++ (plcL (runs s pos) ++ [s.size]) = R)) (fun _ iv _ => s.size - (intOf iv).toNat)
  case atStart => exact ⟨0, [], none, 0, rfl, rfl, World.ownsRow_nil _ _ _ _, Fr.refl _ _, Nat.zero_le _, Nat.le_refl _, HR⟩
  case round =>
    clear HR
    obtain ⟨pos, D, so, sc, rfl, rfl, hO, hF, hps, hDl, HC⟩ := hrel
    have HO : Hid (wr.ownsRow w.heap.size 3 1 (.slice so D.length sc) D.length (nV .i64 D)) := hO
    have hO1 := hO.alloc (.cells #[.int .i64 (pos : Int)] 3 (0, 0))
    by_cases hp : pos < s.size
    · have hwd := width_pos s pos hp
      have hwf := width_fits s pos hp
      have HD := fun wz hz => dec_any s pos hp wz (HT.out.keep hz)
      have HC2 := HC.out
      rw [runs_step s pos hp] at HC2
      simp only [plcL, List.map_cons] at HC2
      obtain ⟨⟨r, n⟩, hd⟩ : ∃ d, Utf8.decode s pos = d := ⟨_, rfl⟩
      rw [hd] at HD hwd hwf HC2
      simp only at HD hwd hwf HC2
      have HX : Hid ((D ++ [pos]) ++ (plcL (runs s (pos + n)) ++ [s.size]) = R) := by show _ = R; rw [← HC2, List.append_assoc]; rfl
      clear hd HC HC2 hO
      go_wp2_with (at_builtin; refine wpList_append_own _ rfl _ _ 40 rfl w.heap.size 3 i0 (.int .i64 0) 1 8 Tryd.underlying40 hi hz0 hz1 hz2 rfl (by decide) _ D.length (nV .i64 D) rfl (HO.out.alloc _) ⟨wr.heap.size, 0, none⟩ 1 1 [.int .i64 (pos : Int)] rfl rfl (one_src wr _ _) (by intro u hu; simp at hu; subst hu; rfl) (by unfold maxLen; omega) (by omega) (by have := hF.size; simp; omega) ?_)
      intro v' w2 hown hg _
      have hF2 : Fr noB w w2 := (hF.alloc (.cells #[.int .i64 (pos : Int)] 3 (0, 0))).grown hg (fun k hk => Or.inr (hO1.lt k hk).1)
      rw [nV_app] at hown
      obtain ⟨so', sc', rfl⟩ := own_form hown
      have HO2 : Hid (w2.ownsRow w.heap.size 3 1 (.slice so' (D ++ [pos]).length sc') (D ++ [pos]).length (nV .i64 (D ++ [pos]))) := by show w2.ownsRow _ _ _ _ _ _; simpa using hown
      have HD2 := HD w2 hF2
      clear HD HO hO1 hg hown
      go_wp2_with (go_at_call 34; refine HD2.mono ?_; rintro e w3 ⟨rfl, hF3⟩)
      go_roundw
      case rel => exact ⟨pos + n, D ++ [pos], so', sc', by simp, by go_num, own_keep HO2.out hF3, hF2.trans hF3, hwf, by simp; omega, HX⟩
      case measure => simp [intOf]; omega
    · have hpe : pos = s.size := by omega
      have HX : Hid (D ++ [pos] = R) := by
        have := HC.out
        rw [runs_end s pos hp] at this
        rw [hpe]
        exact this
      clear HC hpe hO
      go_wp2_with (at_builtin; refine wpList_append_own _ rfl _ _ 40 rfl w.heap.size 3 i0 (.int .i64 0) 1 8 Tryd.underlying40 hi hz0 hz1 hz2 rfl (by decide) _ D.length (nV .i64 D) rfl (HO.out.alloc _) ⟨wr.heap.size, 0, none⟩ 1 1 [.int .i64 (pos : Int)] rfl rfl (one_src wr _ _) (by intro u hu; simp at hu; subst hu; rfl) (by unfold maxLen; omega) (by omega) (by have := hF.size; simp; omega) ?_)
      intro v' w2 hown hg _
      have hF2 : Fr noB w w2 := (hF.alloc (.cells #[.int .i64 (pos : Int)] 3 (0, 0))).grown hg (fun k hk => Or.inr (hO1.lt k hk).1)
      rw [nV_app] at hown
      obtain ⟨so', sc', rfl⟩ := own_form hown
      clear HO hO1 hg
      go_wp2
      go_ret
      obtain rfl := HX.out
      exact ⟨so', sc', by simp, by simpa using hown, hF2⟩
set_option maxRecDepth 100000 in
set_option maxHeartbeats 1000000 in
theorem rcount_any (s : ByteArray) (w : World) (hs : s.size ≤ 1048576) (hT : Tabs w) : Calls Tryd.prog 22 #[.string s] w fun e w' => e = .returned (.int .i64 ((runs s 0).length : Int)) ∧ Fr noB w w' := by
  have HR := rrunes_any s w hs hT
  have e : (runeL (runs s 0)).length = (runs s 0).length := by simp [runeL]
  rw [e] at HR
  clear e
  go_enter Tryd.func22, Tryd.ntmps22
  go_wp2_with (go_at_call 29; refine HR.mono ?_; rintro e w1 ⟨so, sc, rfl, hO, hF⟩)
  go_ret
  exact ⟨rfl, hF⟩
theorem nV_at (k : IntKind) (R : List Nat) (i x : Nat) (h : R[i]? = some x) : (nV k R)[i]? = some (.int k (x : Int)) := by simp [nV, h]
/-- The i-th place. -/
theorem place_nth (s : ByteArray) (i : Nat) (h : i < (plcL (runs s 0) ++ [s.size]).length) : (plcL (runs s 0) ++ [s.size])[i] = plL s.size i (runs s 0) := by
  generalize runs s 0 = l at *
  induction l generalizing i with
  | nil =>
    rw [plL_nil]
    simp [plcL] at h ⊢
  | cons x t ih =>
    cases i with
    | zero => rfl
    | succ i => exact ih i (by simpa [plcL] using h)
set_option maxRecDepth 100000 in
set_option maxHeartbeats 1000000 in
theorem rcut_any (s : ByteArray) (a n : Int) (w : World) (hs : s.size ≤ 1048576) (ha : -9223372036854775808 ≤ a ∧ a ≤ 9223372036854775807) (hn : -9223372036854775808 ≤ n ∧ n ≤ 9223372036854775807) (hT : Tabs w) :
    Calls Tryd.prog 24 #[.string s, .int .i64 a, .int .i64 n] w fun e w' => e = .returned (.string (cutF s a n)) ∧ Fr noB w w' := by
  have HP := rplaces_any s w hs hT
  have hlen : (plcL (runs s 0) ++ [s.size]).length = (runs s 0).length + 1 := by simp [plcL]
  have hnth := place_nth s
  have hrl := runs_len s s.size 0 (by omega)
  obtain ⟨c, hc⟩ : ∃ c, (runs s 0).length = c := ⟨_, rfl⟩
  obtain ⟨A, hA⟩ : ∃ A, min (max a 0) (c : Int) = ((A : Nat) : Int) := ⟨(min (max a 0) (c : Int)).toNat, by omega⟩
  obtain ⟨B, hB⟩ : ∃ B, min (max n 0) ((c : Int) - A) = ((B : Nat) : Int) := ⟨(min (max n 0) ((c : Int) - A)).toNat, by omega⟩
  have hcb : c ≤ 1048576 := by omega
  have hAc : A ≤ c := by omega
  have hBc : A + B ≤ c := by omega
  have eA : placeF s a = plL s.size A (runs s 0) := by
    unfold placeF
    by_cases h : a.toNat ≤ c
    · rw [show a.toNat = A by omega]
    · rw [plL_all _ _ _ (by omega), plL_all _ _ _ (by omega)]
  have eB : plL s.size n.toNat (runs s (placeF s a)) = plL s.size (A + B) (runs s 0) := by
    rw [eA, plL_add, runs_drop s A 0 (Nat.zero_le _)]
    have hl : (runs s (plL s.size A (runs s 0))).length = c - A := by rw [← runs_drop s A 0 (Nat.zero_le _), List.length_drop, hc]
    by_cases h : n.toNat ≤ c - A
    · rw [show n.toNat = B by omega]
    · rw [plL_all _ _ _ (by omega), plL_all _ _ _ (by omega)]
  have HE : Hid (cutF s a n = s.extract (plL s.size A (runs s 0)) (plL s.size (A + B) (runs s 0))) := by
    show cutF s a n = _
    unfold cutF
    rw [eB, eA]
  have l1 := (plL_le s A 0 (Nat.zero_le _)).2
  have l2 := (plL_le s (A + B) 0 (Nat.zero_le _)).2
  have l3 : plL s.size A (runs s 0) ≤ plL s.size (A + B) (runs s 0) := by
    rw [plL_add, runs_drop s A 0 (Nat.zero_le _)]
    exact (plL_le s B _ l1).1
  have g1 : (plcL (runs s 0) ++ [s.size])[A]? = some (plL s.size A (runs s 0)) := by rw [List.getElem?_eq_getElem (by omega), hnth A (by omega)]
  have g2 : (plcL (runs s 0) ++ [s.size])[A + B]? = some (plL s.size (A + B) (runs s 0)) := by rw [List.getElem?_eq_getElem (by omega), hnth (A + B) (by omega)]
  clear hnth
  rw [HE.out]
  generalize plL s.size A (runs s 0) = PA at *
  generalize plL s.size (A + B) (runs s 0) = PB at *
  generalize plcL (runs s 0) ++ [s.size] = R at *
  have hR : R.length = c + 1 := by omega
  have HC : Hid (∀ (wz : World) (so : Option Addr) (sc : Nat), wz.ownsRow w.heap.size 3 1 (.slice so R.length sc) R.length (nV .i64 R) → ∃ g, so = some ⟨g, 0, none⟩ ∧ wz.cell? ⟨g, A, none⟩ = some (.int .i64 (PA : Int)) ∧ wz.cell? ⟨g, A + B, none⟩ = some (.int .i64 (PB : Int))) := by
    intro wz so sc hO
    obtain ⟨g, e1, _, hcell⟩ := own_cells hO (by omega)
    refine ⟨g, e1, ?_, ?_⟩
    · exact hcell A _ (nV_at .i64 R A PA g1)
    · exact hcell (A + B) _ (nV_at .i64 R (A + B) PB g2)
  have HR : Hid (R.length = c + 1) := hR
  have HA : Hid (min (max a 0) (c : Int) = ((A : Nat) : Int)) := hA
  have HB : Hid (min (max n 0) ((c : Int) - A) = ((B : Nat) : Int)) := hB
  rw [hR] at HP
  clear hA hB eA eB hlen hc HE g1 g2 hR hT
  go_enter Tryd.func24, Tryd.ntmps24
  go_upto_region 2 with (go_at_call 30; refine HP.mono ?_; rintro e w1 ⟨so, sc, rfl, hO, hF⟩)
  go_cut [1] (fun v wc => v = .int .i64 (A : Int) ∧ wc = w1)
  case first =>
    go_wp2_with fail
    all_goals go_meet
    all_goals exact ⟨by congr 1 <;> (have := HA.out; omega), rfl⟩
  obtain ⟨rfl, hwc⟩ := hcut
  have hwc' := hwc.symm
  subst hwc'
  go_upto_region 3 with fail
  go_cut [2] (fun v wc => v = .int .i64 (B : Int) ∧ wc = w1)
  case first =>
    go_wp2_with fail
    all_goals go_meet
    all_goals exact ⟨by congr 1 <;> (have := HB.out; omega), rfl⟩
  obtain ⟨rfl, hwc⟩ := hcut
  have hwc' := hwc.symm
  subst hwc'
  obtain ⟨g, rfl, hc1, hc2⟩ := HC.out _ _ _ (by rw [HR.out]; exact hO)
  have k1 : (A : Int) < (c : Int) + 1 := by omega
  have k2 : (A : Int) + (B : Int) < (c : Int) + 1 := by omega
  have k3 : (0 : Int) ≤ (A : Int) + (B : Int) := by omega
  have k4 : (PA : Int) ≤ (PB : Int) := by omega
  have k5 : (PB : Int) ≤ (s.size : Int) := by omega
  have k6 : A < c + 1 := by omega
  have k7 : A + B < c + 1 := by omega
  have hd1 : w1.drew.cell? ⟨g, A, none⟩ = some (.int .i64 (PA : Int)) := hc1
  have hd2 : w1.drew.cell? ⟨g, A + B, none⟩ = some (.int .i64 (PB : Int)) := hc2
  clear HP HC HR HA HB hO hrl
  go_wp2_with fail
  go_region
  go_wp2
  go_ret
  exact ⟨rfl, hF.drewN 1⟩
#print axioms rcut_any
end Go.Proofs.YtpefadblmgcpcaaDoor
