/- Places: the document's side. -/
import Derived.Test.YthdbjgkoofiilaaDoorCDecS
import Derived.Deep.DeepCutAuto
namespace Go.Proofs.YthdbjgkoofiilaaDoor
open Go.RowKit Go.Shelf

set_option maxRecDepth 100000 in
set_option maxHeartbeats 2000000 in
theorem rplaces_any (s : ByteArray) (w : World) (hs : s.size ≤ 1048576) (hT : Tabs w) : Calls Tryd.prog 6 #[.string s] w fun e w' => ∃ so sc, e = .returned (.slice so (plcL (runs s 0) ++ [s.size]).length sc) ∧ w'.ownsRow w.heap.size 3 1 (.slice so (plcL (runs s 0) ++ [s.size]).length sc) (plcL (runs s 0) ++ [s.size]).length (nV .i64 (plcL (runs s 0) ++ [s.size])) ∧ Fr noB w w' := by
  obtain ⟨i0, hi, hz0, hz1, hz2⟩ := info_parts info64
  have HT : Hid (Tabs w) := hT
  clear hT
  obtain ⟨R, hR⟩ : ∃ R, plcL (runs s 0) ++ [s.size] = R := ⟨_, rfl⟩
  have HR : Hid (plcL (runs s 0) ++ [s.size] = R) := hR
  rw [hR]
  clear hR
  go_enter Tryd.func6, Tryd.ntmps6
  go_wp2
  go_loopw [3, 4] (fun lv iv wr => ∃ (pos : Nat) (D : List Nat) (so : Option Addr) (sc : Nat), lv = .slice so D.length sc ∧ iv = .int .i64 (pos : Int) ∧ wr.ownsRow w.heap.size 3 1 (.slice so D.length sc) D.length (nV .i64 D) ∧ Fr noB w wr ∧ pos ≤ s.size ∧ D.length ≤ pos ∧ Hid (D ++ (plcL (runs s pos) ++ [s.size]) = R)) (fun _ iv _ => s.size - (intOf iv).toNat)
  case atStart => exact ⟨0, [], none, 0, rfl, rfl, World.ownsRow_nil _ _ _ _, Fr.refl _ _, Nat.zero_le _, Nat.le_refl _, HR⟩
  case round =>
    clear HR
    obtain ⟨pos, D, so, sc, rfl, rfl, hO, hF, hps, hDl, HC⟩ := hrel
    have HO : Hid (wr.ownsRow w.heap.size 3 1 (.slice so D.length sc) D.length (nV .i64 D)) := hO
    have hO1 := hO.alloc (.cells #[.int .i64 (pos : Int)] 3 (0, 0))
    by_cases hp : pos < s.size
    · have hwd := width_pos s pos hp
      have hwf := width_fits s pos hp
      have HD := fun wz hz => dec_any s pos hp wz (HT.out.keep hz)
      have HC2 := HC.out
      rw [runs_step s pos hp] at HC2
      simp only [plcL, List.map_cons] at HC2
      obtain ⟨⟨r, n⟩, hd⟩ : ∃ d, Utf8.decode s pos = d := ⟨_, rfl⟩
      rw [hd] at HD hwd hwf HC2
      simp only at HD hwd hwf HC2
      have HX : Hid ((D ++ [pos]) ++ (plcL (runs s (pos + n)) ++ [s.size]) = R) := by show _ = R; rw [← HC2, List.append_assoc]; rfl
      clear hd HC HC2 hO
      go_wp2_with (at_builtin; refine wpList_append_own _ rfl _ _ 25 rfl w.heap.size 3 i0 (.int .i64 0) 1 8 Tryd.underlying25 hi hz0 hz1 hz2 rfl (by decide) _ D.length (nV .i64 D) rfl (HO.out.alloc _) ⟨wr.heap.size, 0, none⟩ 1 1 [.int .i64 (pos : Int)] rfl rfl (one_src wr _ _) (by intro u hu; simp at hu; subst hu; rfl) (by unfold maxLen; omega) (by omega) (by have := hF.size; simp; omega) ?_)
      intro v' w2 hown hg _
      have hF2 : Fr noB w w2 := (hF.alloc (.cells #[.int .i64 (pos : Int)] 3 (0, 0))).grown hg (fun k hk => Or.inr (hO1.lt k hk).1)
      rw [nV_app] at hown
      obtain ⟨so', sc', rfl⟩ := own_form hown
      have HO2 : Hid (w2.ownsRow w.heap.size 3 1 (.slice so' (D ++ [pos]).length sc') (D ++ [pos]).length (nV .i64 (D ++ [pos]))) := by show w2.ownsRow _ _ _ _ _ _; simpa using hown
      have HD2 := HD w2 hF2
      clear HD HO hO1 hg hown
      go_wp2_with (go_at_call 11; refine HD2.mono ?_; rintro e w3 ⟨rfl, hF3⟩)
      go_roundw
      case rel => exact ⟨pos + n, D ++ [pos], so', sc', by simp, by go_num, own_keep HO2.out hF3, hF2.trans hF3, hwf, by simp; omega, HX⟩
      case measure => simp [intOf]; omega
    · have hpe : pos = s.size := by omega
      have HX : Hid (D ++ [pos] = R) := by
        have := HC.out
        rw [runs_end s pos hp] at this
        rw [hpe]
        exact this
      clear HC hpe hO
      go_wp2_with (at_builtin; refine wpList_append_own _ rfl _ _ 25 rfl w.heap.size 3 i0 (.int .i64 0) 1 8 Tryd.underlying25 hi hz0 hz1 hz2 rfl (by decide) _ D.length (nV .i64 D) rfl (HO.out.alloc _) ⟨wr.heap.size, 0, none⟩ 1 1 [.int .i64 (pos : Int)] rfl rfl (one_src wr _ _) (by intro u hu; simp at hu; subst hu; rfl) (by unfold maxLen; omega) (by omega) (by have := hF.size; simp; omega) ?_)
      intro v' w2 hown hg _
      have hF2 : Fr noB w w2 := (hF.alloc (.cells #[.int .i64 (pos : Int)] 3 (0, 0))).grown hg (fun k hk => Or.inr (hO1.lt k hk).1)
      rw [nV_app] at hown
      obtain ⟨so', sc', rfl⟩ := own_form hown
      clear HO hO1 hg
      go_wp2
      go_ret
      obtain rfl := HX.out
      exact ⟨so', sc', by simp, by simpa using hown, hF2⟩
theorem own_cells {base e n : Nat} {so : Option Addr} {sc : Nat} {xs : List Value} {w : World} (h : w.ownsRow base e 1 (.slice so n sc) n xs) (h0 : 0 < n) : ∃ g, so = some ⟨g, 0, none⟩ ∧ base ≤ g ∧ ∀ j u, xs[j]? = some u → w.cell? ⟨g, j, none⟩ = some u := by
  rcases h.2 with ⟨hv, hz⟩ | ⟨g, cap, cur, hv, hb, _⟩
  · omega
  · cases hv
    refine ⟨g, rfl, hb, fun j u hj => ?_⟩
    have := h.cells (g := g) rfl j u hj
    rwa [add_none, Nat.zero_add] at this
theorem nV_at (k : IntKind) (R : List Nat) (i x : Nat) (h : R[i]? = some x) : (nV k R)[i]? = some (.int k (x : Int)) := by simp [nV, h]
end Go.Proofs.YthdbjgkoofiilaaDoor
