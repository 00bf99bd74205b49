/- Lines: the document's side. -/
import Derived.Test.YtpefadblmgcpcaaDoorCLin
namespace Go.Proofs.YtpefadblmgcpcaaDoor
open Go.RowKit Go.Shelf

theorem conv_own {base n : Nat} {v : Value} {w : World} (D : List UInt8) (hn : n = D.length) (h : w.ownsRow base 5 1 v n (Lib.byteCells D)) : (convert 54 9 v).run Tryd.prog w = .ok (.string ⟨D.toArray⟩) w := by
  subst hn
  rcases h.2 with ⟨hv, hz⟩ | ⟨g, cap, cur, hv, hb, _⟩
  · have hD : D = [] := List.eq_nil_of_length_eq_zero hz
    subst hD
    rw [hv, run_convert_bytes_string w 54 9 5 none _ 0 Tryd.underlying54 Tryd.underlying5 Tryd.underlying9]
    simp [Conv.bytesToString]
    rfl
  · have hc := h.cells (g := g) (by rw [hv]; rfl)
    rw [hv]
    refine run_convert_bytes_back (P := Tryd.prog) w 54 9 5 ⟨g, 0, none⟩ cap D Tryd.underlying54 Tryd.underlying5 Tryd.underlying9 (fun j hj => hc j _ ?_)
    simp [Lib.byteCells, hj]
theorem app_one (D : List UInt8) (x : UInt8) : Lib.byteCells D ++ [Value.int .u8 ((x.toNat : Nat) : Int)] = Lib.byteCells (D ++ [x]) := by simp [Lib.byteCells]
set_option maxRecDepth 100000 in
set_option maxHeartbeats 2000000 in
theorem rlines_any (s : ByteArray) (w : World) (hs : s.size ≤ 1048576) : Calls Tryd.prog 20 #[.string s] w fun e w' => e = .returned (.string ⟨(fromB s (gLin s) 0).toArray⟩) ∧ Fr noB w w' := by
  obtain ⟨i0, hi, hz0, hz1, hz2⟩ := info_parts byteInfo
  obtain ⟨R, hR⟩ : ∃ R, fromB s (gLin s) 0 = R := ⟨_, rfl⟩
  rw [hR]
  have HR : Hid (fromB s (gLin s) 0 = R) := hR
  clear hR
  go_enter Tryd.func20, Tryd.ntmps20
  go_wp2
  go_loopw [3, 4] (fun lv iv wr => ∃ (k : Nat) (D : List UInt8) (so : Option Addr) (sc : Nat), lv = .slice so D.length sc ∧ iv = .int .i64 (k : Int) ∧ wr.ownsRow w.heap.size 5 1 (.slice so D.length sc) D.length (Lib.byteCells D) ∧ Fr noB w wr ∧ k ≤ s.size ∧ D.length ≤ k ∧ Hid (D ++ fromB s (gLin s) k = R)) (fun _ iv _ => s.size - (intOf iv).toNat)
  case atStart => exact ⟨0, [], none, 0, rfl, rfl, World.ownsRow_nil _ _ _ _, Fr.refl _ _, Nat.zero_le _, Nat.le_refl _, HR⟩
  case round =>
    clear HR
    obtain ⟨k, D, so, sc, rfl, rfl, hO, hF, hks, hDl, HC⟩ := hrel
    by_cases hk : k < s.size
    · have hgk : s.get! k = s[k] := by simp [ByteArray.get!, getElem!_pos, hk]; rfl
      have HC2 := HC.out
      rw [fromB_step s _ k hk] at HC2
      have HO : Hid (wr.ownsRow w.heap.size 5 1 (.slice so D.length sc) D.length (Lib.byteCells D)) := hO
      clear hO HC
      have hgl : gLin s k = if s[k].toNat = 13 then (if k + 1 < s.size ∧ (s.get! (k + 1)).toNat = 10 then [] else [10]) else [s[k]] := by unfold gLin; rw [hgk]
      rw [hgl] at HC2
      clear hgl hgk
      by_cases h13 : s[k].toNat = 13
      · rw [if_pos h13] at HC2
        have h13z : (s[k].toNat : Int) = 13 := by omega
        by_cases hk1 : k + 1 < s.size
        · have hgk1 : s.get! (k + 1) = s[k + 1] := by simp [ByteArray.get!, getElem!_pos, hk1]; rfl
          rw [hgk1] at HC2
          clear hgk1
          by_cases h10 : s[k + 1].toNat = 10
          · rw [if_pos ⟨hk1, h10⟩] at HC2
            have HX : Hid (D ++ fromB s (gLin s) (k + 1) = R) := HC2
            have h10z : (s[k + 1].toNat : Int) = 10 := by omega
            clear HC2 h13 h10
            go_wp2
            go_roundw
            case rel => exact ⟨k + 1, D, so, sc, rfl, by go_num, HO.out, hF, by omega, by omega, HX⟩
            case measure => simp [intOf]; omega
          · rw [if_neg (fun h => h10 h.2)] at HC2
            have HX : Hid ((D ++ [10]) ++ fromB s (gLin s) (k + 1) = R) := by show _ = R; rw [← HC2, List.append_assoc]
            have h10z : ¬ (s[k + 1].toNat : Int) = 10 := by omega
            have h10b : (((s[k + 1].toNat : Nat) : Int) != 10) = true := by simpa using h10z
            clear HC2 h13 h10
            go_wp2_with (at_builtin; refine wpList_append_own _ rfl _ _ 54 rfl w.heap.size 5 i0 (.int .u8 0) 1 1 Tryd.underlying54 hi hz0 hz1 hz2 rfl (by decide) _ D.length (Lib.byteCells D) rfl (HO.out.alloc _) ⟨wr.heap.size, 0, none⟩ 1 1 [.int .u8 10] rfl rfl (one_src wr _ _) (by intro u hu; simp at hu; subst hu; rfl) (by unfold maxLen; omega) (by omega) (by have := hF.size; simp; omega) ?_)
            intro v' w2 hown hg _
            have hO1 := HO.out.alloc (.cells #[.int .u8 10] 5 (0, 0))
            have hF2 : Fr noB w w2 := (hF.alloc (.cells #[.int .u8 10] 5 (0, 0))).grown hg (fun k hk => Or.inr (hO1.lt k hk).1)
            rw [show Lib.byteCells D ++ [Value.int .u8 10] = Lib.byteCells (D ++ [10]) from by simp [Lib.byteCells]] at hown
            obtain ⟨so', sc', rfl⟩ := own_form hown
            clear HO hO1 hg
            go_wp2
            go_roundw
            case rel => exact ⟨k + 1, D ++ [10], so', sc', by simp, by go_num, by simpa using hown, hF2, by omega, by simp; omega, HX⟩
            case measure => simp [intOf]; omega
        · rw [if_neg (fun h => hk1 h.1)] at HC2
          have HX : Hid ((D ++ [10]) ++ fromB s (gLin s) (k + 1) = R) := by show _ = R; rw [← HC2, List.append_assoc]
          have hk1z : ¬ (k : Int) + 1 < (s.size : Int) := by omega
          clear HC2 h13
          go_wp2_with (at_builtin; refine wpList_append_own _ rfl _ _ 54 rfl w.heap.size 5 i0 (.int .u8 0) 1 1 Tryd.underlying54 hi hz0 hz1 hz2 rfl (by decide) _ D.length (Lib.byteCells D) rfl (HO.out.alloc _) ⟨wr.heap.size, 0, none⟩ 1 1 [.int .u8 10] rfl rfl (one_src wr _ _) (by intro u hu; simp at hu; subst hu; rfl) (by unfold maxLen; omega) (by omega) (by have := hF.size; simp; omega) ?_)
          intro v' w2 hown hg _
          have hO1 := HO.out.alloc (.cells #[.int .u8 10] 5 (0, 0))
          have hF2 : Fr noB w w2 := (hF.alloc (.cells #[.int .u8 10] 5 (0, 0))).grown hg (fun k hk => Or.inr (hO1.lt k hk).1)
          rw [show Lib.byteCells D ++ [Value.int .u8 10] = Lib.byteCells (D ++ [10]) from by simp [Lib.byteCells]] at hown
          obtain ⟨so', sc', rfl⟩ := own_form hown
          clear HO hO1 hg
          go_wp2
          go_roundw
          case rel => exact ⟨k + 1, D ++ [10], so', sc', by simp, by go_num, by simpa using hown, hF2, by omega, by simp; omega, HX⟩
          case measure => simp [intOf]; omega
      · rw [if_neg h13] at HC2
        have h13z : ¬ (s[k].toNat : Int) = 13 := by omega
        have HX : Hid ((D ++ [s[k]]) ++ fromB s (gLin s) (k + 1) = R) := by show _ = R; rw [← HC2, List.append_assoc]
        clear HC2 h13
        go_wp2_with (at_builtin; refine wpList_append_own _ rfl _ _ 54 rfl w.heap.size 5 i0 (.int .u8 0) 1 1 Tryd.underlying54 hi hz0 hz1 hz2 rfl (by decide) _ D.length (Lib.byteCells D) rfl (HO.out.alloc _) ⟨wr.heap.size, 0, none⟩ 1 1 [.int .u8 ((s[k].toNat : Nat) : Int)] rfl rfl (one_src wr _ _) (by intro u hu; simp at hu; subst hu; rfl) (by unfold maxLen; omega) (by omega) (by have := hF.size; simp; omega) ?_)
        intro v' w2 hown hg _
        have hO1 := HO.out.alloc (.cells #[.int .u8 ((s[k].toNat : Nat) : Int)] 5 (0, 0))
        have hF2 : Fr noB w w2 := (hF.alloc (.cells #[.int .u8 ((s[k].toNat : Nat) : Int)] 5 (0, 0))).grown hg (fun k hk => Or.inr (hO1.lt k hk).1)
        rw [show Lib.byteCells D ++ [Value.int .u8 ((s[k].toNat : Nat) : Int)] = Lib.byteCells (D ++ [s[k]]) from app_one D _] at hown
        obtain ⟨so', sc', rfl⟩ := own_form hown
        clear HO hO1 hg
        go_wp2
        go_roundw
        case rel => exact ⟨k + 1, D ++ [s[k]], so', sc', by simp, by go_num, by simpa using hown, hF2, by omega, by simp; omega, HX⟩
        case measure => simp [intOf]; omega
    · have HX : Hid (D = R) := by
        have := HC.out
        rw [fromB_end s _ k hk, List.append_nil] at this
        exact this
      have hcv := conv_own D rfl hO
      clear HC
      go_wp2
      go_ret
      rw [← HX.out]
      exact ⟨rfl, hF⟩
#print axioms rlines_any
end Go.Proofs.YtpefadblmgcpcaaDoor
