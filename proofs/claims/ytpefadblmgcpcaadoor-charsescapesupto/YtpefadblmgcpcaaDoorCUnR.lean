/- Unescape: the document's side. -/
import Derived.Test.YtpefadblmgcpcaaDoorCRfR
namespace Go.Proofs.YtpefadblmgcpcaaDoor
open Go.RowKit Go.Shelf

/-- What the document makes of the bytes from i on: text, place, error. -/
def unR (s : ByteArray) : Nat → Nat → List UInt8 → List UInt8 × Nat × Int
  | 0, _, acc => (acc, 0, 0)
  | f + 1, i, acc =>
    if i < s.size then
      (if (s.get! i).toNat = 38 then
        (if (rf0 (s.extract (i + 1) s.size)).2.2 = true then unR s f (i + ((rf0 (s.extract (i + 1) s.size)).2.1 + 1).toNat) (acc ++ (rf0 (s.extract (i + 1) s.size)).1.data.toList) else ([], i, 51))
       else unR s f (i + 1) (acc ++ [s.get! i]))
    else (acc, 0, 0)
theorem nbF_text (T : ByteArray) : (nbF T).1.size ≤ 4 := by
  unfold nbF
  generalize scanF T (basF T).1 (basF T).2 0 = x
  generalize basF T = y
  split
  · exact Nat.zero_le 4
  · exact encode_size_le x.2
theorem rf0_bound (S : ByteArray) : (rf0 S).2.2 = true → 1 ≤ (rf0 S).2.1 ∧ (rf0 S).2.1 ≤ (S.size : Int) ∧ (rf0 S).1.size ≤ 4 := by
  have bgs : ∀ l, bg S l = true → l.length ≤ S.size := by
    intro l h
    unfold bg at h
    simp only [Bool.and_eq_true, decide_eq_true_eq] at h
    exact h.1
  intro h
  unfold rf0 at h ⊢
  split
  · rename_i e; have := bgs _ e; simp at this; exact ⟨by decide, by simp only; omega, by decide⟩
  rename_i e; rw [if_neg e] at h
  unfold rf1 at h ⊢
  split
  · rename_i e; have := bgs _ e; simp at this; exact ⟨by decide, by simp only; omega, by decide⟩
  rename_i e; rw [if_neg e] at h
  unfold rf2 at h ⊢
  split
  · rename_i e; have := bgs _ e; simp at this; exact ⟨by decide, by simp only; omega, by decide⟩
  rename_i e; rw [if_neg e] at h
  unfold rf3 at h ⊢
  split
  · rename_i e; have := bgs _ e; simp at this; exact ⟨by decide, by simp only; omega, by decide⟩
  rename_i e; rw [if_neg e] at h
  unfold rf4 at h ⊢
  split
  · rename_i e; have := bgs _ e; simp at this; exact ⟨by decide, by simp only; omega, by decide⟩
  rename_i e; rw [if_neg e] at h
  unfold rf5 at h ⊢
  split
  · rename_i e
    rw [if_pos e] at h
    simp only at h ⊢
    have h1 := nbF_bound (S.extract 1 S.size)
    have h2 : (S.extract 1 S.size).size = S.size - 1 := by simp
    have h3 : (nbF (S.extract 1 S.size)).1.size ≤ 4 := nbF_text (S.extract 1 S.size)
    omega
  · rename_i e; rw [if_neg e] at h; cases h
set_option maxRecDepth 100000 in
set_option maxHeartbeats 2000000 in
theorem runescape_any (s : ByteArray) (w : World) (hs : s.size ≤ 1048576) (hT : Tabs w) (U : List UInt8 × Nat × Int) (hU : (if (validF s).2 then unR s (s.size + 1) 0 [] else ([], (validF s).1, 50)) = U) : Calls Tryd.prog 18 #[.string s] w fun e w' => e = .returned (.tuple #[.string ⟨U.1.toArray⟩, .int .i64 (U.2.1 : Int), .int .i64 U.2.2]) ∧ Fr noB w w' := by
  have HV := rvalid_any s w hs hT
  clear hT
  obtain ⟨⟨va, vo⟩, hv⟩ : ∃ d, validF s = d := ⟨_, rfl⟩
  rw [hv] at HV hU
  simp only at HV hU
  clear hv
  cases vo with
  | false =>
    have HX : Hid (U = ([], va, 50)) := hU.symm
    clear hU
    go_enter Tryd.func18, Tryd.ntmps18
    go_wp2_with (go_at_call 9; with_reducible refine HV.mono ?_; rintro e w1 ⟨rfl, hF⟩)
    go_ret3
    rw [HX.out]
    exact ⟨rfl, hF⟩
  | true =>
    obtain ⟨i0, hi, hz0, hz1, hz2⟩ := info_parts byteInfo
    have HN : Hid (unR s (s.size + 1) 0 [] = U) := hU
    clear hU
    go_enter Tryd.func18, Tryd.ntmps18
    go_wp2_with (go_at_call 9; with_reducible refine HV.mono ?_; rintro e w1 ⟨rfl, hF⟩)
    clear HV
    go_loopw [7, 8] (fun lv iv wr => ∃ (k f : Nat) (D : List UInt8) (so : Option Addr) (sc : Nat), lv = .slice so D.length sc ∧ iv = .int .i64 (k : Int) ∧ wr.ownsRow w.heap.size 5 1 (.slice so D.length sc) D.length (Lib.byteCells D) ∧ Fr noB w wr ∧ k ≤ s.size ∧ D.length ≤ 4 * k ∧ s.size < k + f ∧ Hid (unR s f k D = U)) (fun _ iv _ => s.size - (intOf iv).toNat)
    case atStart => exact ⟨0, s.size + 1, [], none, 0, rfl, rfl, World.ownsRow_nil _ _ _ _, hF, Nat.zero_le _, Nat.le_refl _, by omega, HN⟩
    case round =>
      clear HN
      obtain ⟨k, f, D, so, sc, rfl, rfl, hO, hF2, hks, hDl, hfu, HC⟩ := hrel
      obtain ⟨f', rfl⟩ : ∃ f', f = f' + 1 := ⟨f - 1, by omega⟩
      have HC2 := HC.out
      rw [unR] at HC2
      have HO : Hid (wr.ownsRow w.heap.size 5 1 (.slice so D.length sc) D.length (Lib.byteCells D)) := hO
      by_cases hk : k < s.size
      · have hgk : s.get! k = s[k] := by simp [ByteArray.get!, getElem!_pos, hk]; rfl
        rw [if_pos hk, hgk] at HC2
        clear hO HC hgk
        by_cases h38 : s[k].toNat = 38
        · have h38z : ((s[k].toNat : Nat) : Int) = 38 := by omega
          rw [if_pos h38] at HC2
          have HRF := rref_any (s.extract (k + 1) s.size) wr (by simp; omega)
          have hrb := rf0_bound (s.extract (k + 1) s.size)
          have hsz : (s.extract (k + 1) s.size).size = s.size - (k + 1) := by simp
          rw [hsz] at hrb
          obtain ⟨⟨r1, r2, r3⟩, hr⟩ : ∃ x, rf0 (s.extract (k + 1) s.size) = x := ⟨_, rfl⟩
          rw [hr] at HRF hrb HC2
          simp only at HRF hrb HC2
          have hk1 : (k : Int) + 1 ≤ (s.size : Int) := by omega
          clear hsz hr h38
          cases r3 with
          | false =>
            have HX : Hid (U = ([], k, 51)) := by show U = _; rw [← HC2, if_neg (by decide)]
            clear HC2 hrb
            go_wp2_with (go_at_call 50; with_reducible refine HRF.mono ?_; rintro e w3 ⟨rfl, hF3⟩)
            go_ret3
            rw [HX.out]
            exact ⟨rfl, hF2.trans hF3⟩
          | true =>
            obtain ⟨b1, b2, b3⟩ := hrb rfl
            obtain ⟨q, hq⟩ : ∃ q : Nat, r2 = (q : Int) := ⟨r2.toNat, by omega⟩
            subst hq
            rw [if_pos rfl, show k + (((q : Nat) : Int) + 1).toNat = k + (q + 1) by omega] at HC2
            have HX : Hid (unR s f' (k + (q + 1)) (D ++ r1.data.toList) = U) := HC2
            have hq1 : 1 ≤ q := by omega
            have hq2 : k + (q + 1) ≤ s.size := by omega
            clear HC2 hrb
            go_wp2_with (first
              | (go_at_call 50; with_reducible refine HRF.mono ?_; rintro e w3 ⟨rfl, hF3⟩)
              | (at_builtin; refine Lib.wpList_append_own_string _ rfl _ _ 54 9 rfl w.heap.size 5 i0 Tryd.underlying54 Tryd.underlying9 hi hz0 hz1 hz2 _ _ _ rfl (own_keep HO.out hF3) r1 rfl (by unfold maxLen; omega) (by omega) (by have := hF2.size; have := hF3.size; omega) ?_))
            intro v' w4 hown hg _
            have hF4 : Fr noB w w4 := (hF2.trans hF3).grown hg (fun k hk => Or.inr ((own_keep HO.out hF3).lt k hk).1)
            rw [Lib.strCells_eq, ← Lib.byteCells_append] at hown
            have htl : r1.data.toList.length = r1.size := by simp
            obtain ⟨so', sc', rfl⟩ := own_form hown
            obtain ⟨tl, hTT⟩ : ∃ tl, r1.data.toList = tl := ⟨_, rfl⟩
            rw [hTT] at hown HX htl
            have hts : r1.size = tl.length := htl.symm
            rw [hts] at hown b3
            clear HRF HO hg hTT htl
            rw [hts]
            clear hts
            go_wp2
            go_roundw
            case rel => exact ⟨k + (q + 1), f', D ++ tl, so', sc', by simp, by go_num, by simpa using hown, hF4, by omega, by simp; omega, by omega, HX⟩
            case measure => simp [intOf]; omega
        · have h38z : ¬ ((s[k].toNat : Nat) : Int) = 38 := by omega
          rw [if_neg h38] at HC2
          have HX : Hid (unR s f' (k + 1) (D ++ [s[k]]) = U) := HC2
          clear HC2 h38
          go_wp2_with (at_builtin; refine wpList_append_own _ rfl _ _ 54 rfl w.heap.size 5 i0 (.int .u8 0) 1 1 Tryd.underlying54 hi hz0 hz1 hz2 rfl (by decide) _ D.length (Lib.byteCells D) rfl (HO.out.alloc _) ⟨wr.heap.size, 0, none⟩ 1 1 [.int .u8 ((s[k].toNat : Nat) : Int)] rfl rfl (one_src wr _ _) (by intro u hu; simp at hu; subst hu; rfl) (by unfold maxLen; omega) (by omega) (by have := hF2.size; simp; omega) ?_)
          intro v' w2 hown hg _
          have hO1 := HO.out.alloc (.cells #[.int .u8 ((s[k].toNat : Nat) : Int)] 5 (0, 0))
          have hF3 : Fr noB w w2 := (hF2.alloc (.cells #[.int .u8 ((s[k].toNat : Nat) : Int)] 5 (0, 0))).grown hg (fun k hk => Or.inr (hO1.lt k hk).1)
          rw [app_one] at hown
          obtain ⟨so', sc', rfl⟩ := own_form hown
          clear HO hO1 hg
          go_wp2
          go_roundw
          case rel => exact ⟨k + 1, f', D ++ [s[k]], so', sc', by simp, by go_num, by simpa using hown, hF3, by omega, by simp; omega, by omega, HX⟩
          case measure => simp [intOf]; omega
      · have HX : Hid (U = (D, 0, 0)) := by show U = _; rw [← HC2, if_neg hk]
        have hcv := conv_own D rfl hO
        clear HC HC2
        go_wp2
        go_ret3
        rw [HX.out]
        exact ⟨rfl, hF2⟩
#print axioms runescape_any
end Go.Proofs.YtpefadblmgcpcaaDoor
