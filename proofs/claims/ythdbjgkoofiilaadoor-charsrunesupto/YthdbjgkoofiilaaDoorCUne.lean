/- Unescape: the program's contract. -/
import Derived.Test.YthdbjgkoofiilaaDoorCBld
import Derived.Test.YthdbjgkoofiilaaDoorCCut
import Derived.Test.YthdbjgkoofiilaaDoorCAsc
namespace Go.Proofs.YthdbjgkoofiilaaDoor
open Go.RowKit Go.Shelf

/-- The bytes from a up to b. -/
def cutB (s : ByteArray) (a b : Nat) : List UInt8 := (s.extract a b).data.toList
/-- What stands behind a sign, up to the first ; or all of it. -/
def insF (s : ByteArray) (p : Nat) : ByteArray := (s.extract (p + 1) s.size).extract 0 (idxF (s.extract (p + 1) s.size) 59).toNat
/-- What the program makes of the characters from some place on: text, place, error. -/
def unL (s : ByteArray) : List (Nat × Nat × Nat) → Nat → List UInt8 → List UInt8 × Nat × Int
  | [], d, acc => (acc ++ cutB s d s.size, 0, 0)
  | x :: t, d, acc =>
    if x.2.1 = 38 then
      (if idxF (s.extract (x.1 + 1) s.size) 59 = -1 ∨ (refF (insF s x.1)).2 = false then ([], x.1, 51)
       else unL s t (x.1 + 1 + (insF s x.1).size + 1) (acc ++ cutB s d x.1 ++ Lib.encodeRune (refF (insF s x.1)).1))
    else unL s t d acc
def unF (s : ByteArray) : List UInt8 × Nat × Int := if (validF s).2 then unL s (runs s 0) 0 [] else ([], (validF s).1, 50)

/-- Where the program stands. -/
structure UnAt (s : ByteArray) (pos d : Nat) (acc : List UInt8) : Prop where
  dle : d ≤ s.size
  ale : acc.length ≤ d
  ple : pos ≤ s.size
  no : ∀ q, pos ≤ q → q < d → (s.get! q).toNat ≠ 38

set_option maxRecDepth 100000 in
set_option maxHeartbeats 400000 in
theorem unescape_any (s : ByteArray) (w : World) (hs : s.size ≤ 140737488355328) : Calls Tryd.prog 8 #[.string s] w fun e w' => e = .returned (.tuple #[.string ⟨(unF s).1.toArray⟩, .int .i64 ((unF s).2.1 : Int), .int .i64 (unF s).2.2]) ∧ Fr noB w w' := by
  have HV := valid_any s w
  obtain ⟨⟨va, vo⟩, hv⟩ : ∃ d, validF s = d := ⟨_, rfl⟩
  rw [hv] at HV
  simp only at HV
  cases vo with
  | false =>
    have HN : Hid (unF s = ([], va, 50)) := by show unF s = _; unfold unF; rw [hv]; rfl
    clear hv
    go_enter Tryd.func8, Tryd.ntmps8
    go_wp2_with (go_at_call 14; refine HV.mono ?_; rintro e w1 ⟨rfl, hF⟩)
    go_ret3
    rw [HN.out]
    exact ⟨rfl, hF⟩
  | true =>
    have HN : Hid (unL s (runs s 0) 0 [] = unF s) := by show _ = unF s; unfold unF; rw [hv]; rfl
    clear hv
    go_enter Tryd.func8, Tryd.ntmps8
    go_wp2_with (go_at_call 14; refine HV.mono ?_; rintro e w1 ⟨rfl, hF⟩)
    clear HV
    go_loopw [8] (fun dv wr => ∃ (pos d : Nat) (acc : List UInt8), dv = .int .i64 (d : Int) ∧ Bld w1.heap.size w1.heap.size (Lib.byteCells acc) wr ∧ wr.heap[w1.heap.size + 1]? = some (.stringIter s pos) ∧ Below w1.heap.size w1 wr ∧ Hid (unL s (runs s pos) d acc = unF s) ∧ UnAt s pos d acc) (fun _ wr => s.size - wr.iterPos (w1.heap.size + 1))
    case atStart =>
      refine ⟨0, 0, [], rfl, (Lib.IsBuilderF.of (Lib.fresh_isBuilder 45 5 w1)).alloc _, ?_, ((Below.refl _ w1).alloc (Nat.le_refl _) _).alloc (by simp) _, HN, Nat.zero_le _, Nat.le_refl _, Nat.zero_le _, fun q _ h => absurd h (Nat.not_lt_zero _)⟩
      have := World.iter_heap (w1.alloc (.cells #[.pointer none, .slice none 0 0] 45)) s 0
      simpa using this
    case round =>
      clear HN
      obtain ⟨pos, d, acc, rfl, hI, hit, hbw, HC, hU⟩ := hrel
      have hsz : w1.heap.size + 1 < wr.heap.size := (Array.getElem?_eq_some_iff.1 hit).1
      have hd := hU.dle
      have hal := hU.ale
      have HU : Hid (UnAt s pos d acc) := hU
      clear hU
      by_cases hp : pos < s.size
      · have hnx : ∀ ty, (Instr.next (.pointer (some ⟨w1.heap.size + 1, 0, none⟩)) true ty).run Tryd.prog wr = _ := fun ty => Lib.run_next_any_at wr (w1.heap.size + 1) s pos ty hit hp
        have hwd := width_pos s pos hp
        have hwf := width_fits s pos hp
        have HC2 := HC.out
        rw [runs_step s pos hp, unL] at HC2
        simp only at HC2
        have hlow := dec_low s pos
        have hI2 := hI.iterAt hit (pos + (Utf8.decode s pos).2)
        have hit2 := Lib.iterAt_heap wr (w1.heap.size + 1) s pos (pos + (Utf8.decode s pos).2) hit
        have hbw2 := Lib.below_iterAt hbw (k := w1.heap.size + 1) (by omega) s (pos + (Utf8.decode s pos).2)
        have hsz2 : w1.heap.size ≤ (wr.iterAt (w1.heap.size + 1) s (pos + (Utf8.decode s pos).2)).heap.size := by rw [Lib.iterAt_size]; omega
        obtain ⟨⟨r, n⟩, hdd⟩ : ∃ x, Utf8.decode s pos = x := ⟨_, rfl⟩
        rw [hdd] at hnx hwd hwf HC2 hlow hI2 hit2 hbw2 hsz2
        simp only at hnx hwd hwf HC2 hlow hI2 hit2 hbw2 hsz2
        generalize hW2 : wr.iterAt (w1.heap.size + 1) s (pos + n) = W2 at *
        have hm2 : s.size - W2.iterPos (w1.heap.size + 1) < s.size - wr.iterPos (w1.heap.size + 1) := by
          simp only [World.iterPos, hit2, hit]
          omega
        clear hI hit hbw hW2 hsz
        by_cases hr : r = 38
        · subst hr
          obtain ⟨hlo, hget, rfl⟩ := hlow (by omega)
          have hdp : d ≤ pos := by
            rcases Nat.lt_or_ge pos d with h | h
            · exact absurd hget.symm (HU.out.no pos (Nat.le_refl _) h)
            · exact h
          rw [if_pos rfl] at HC2
          clear hlow hdd hlo hget
          have hS : (s.extract (pos + 1) s.size).size = s.size - (pos + 1) := by simp
          rcases idxF_cases (s.extract (pos + 1) s.size) 59 with ⟨hix, _⟩ | ⟨i, hix, hil, hi59, hino⟩
          · have HX : Hid (unF s = ([], pos, 51)) := by show unF s = _; rw [← HC2, if_pos (Or.inl hix)]
            clear HC HC2
            have HK := cut_miss (s.extract (pos + 1) s.size) 59 W2 hix
            clear hix hS
            have HRF := referred_any (s.extract (pos + 1) s.size)
            go_wp2_with (first | (go_at_call 15; with_reducible refine HK.mono ?_; rintro e w3 ⟨rfl, hF3⟩) | (go_at_call 16; with_reducible refine (HRF _).mono ?_; rintro e w4 ⟨rfl, hF4⟩))
            go_ret3
            rw [HX.out]
            exact ⟨rfl, ((hF.then (Fr.ofBelow hbw2) (fun _ h => Or.inl h)).trans hF3).trans hF4⟩
          · have hins : insF s pos = (s.extract (pos + 1) s.size).extract 0 i := by unfold insF; rw [hix]; rfl
            have hisz : ((s.extract (pos + 1) s.size).extract 0 i).size = i := by simp; omega
            have HK := cut_hit (s.extract (pos + 1) s.size) 59 i W2 hix hil (by omega)
            have HRF := referred_any ((s.extract (pos + 1) s.size).extract 0 i)
            have hrn := refF_no ((s.extract (pos + 1) s.size).extract 0 i)
            have hrb := refF_bounds ((s.extract (pos + 1) s.size).extract 0 i)
            have hne : ¬ idxF (s.extract (pos + 1) s.size) 59 = -1 := by omega
            have hgetS : ∀ q, q < i → (s.get! (pos + 1 + q)).toNat = (((s.extract (pos + 1) s.size).extract 0 i).get! q).toNat := fun q hq => by
              rw [ext_get _ 0 i q (by omega) (by omega), ext_get s (pos + 1) s.size (0 + q) (Nat.le_refl _) (by omega), Nat.zero_add]
            have hget59 : (s.get! (pos + 1 + i)).toNat = 59 := by
              rw [← ext_get s (pos + 1) s.size i (Nat.le_refl _) (by omega), hi59]; rfl
            rw [hins, hisz] at HC2
            obtain ⟨⟨rr, rok⟩, href⟩ : ∃ x, refF ((s.extract (pos + 1) s.size).extract 0 i) = x := ⟨_, rfl⟩
            rw [href] at HRF hrn hrb HC2
            simp only at HRF hrn hrb HC2
            have hi2 : pos + 1 + i + 1 ≤ s.size := by omega
            cases rok with
            | false =>
              have HX : Hid (unF s = ([], pos, 51)) := by show unF s = _; rw [← HC2, if_pos (Or.inr rfl)]
              clear HC HC2 hrn hgetS hix hne hi59 hino hins href hS hil
              go_wp2_with (first | (go_at_call 15; with_reducible refine HK.mono ?_; rintro e w3 ⟨rfl, hF3⟩) | (go_at_call 16; with_reducible refine (HRF _).mono ?_; rintro e w4 ⟨rfl, hF4⟩))
              go_ret3
              rw [HX.out]
              exact ⟨rfl, ((hF.then (Fr.ofBelow hbw2) (fun _ h => Or.inl h)).trans hF3).trans hF4⟩
            | true =>
              obtain ⟨hr2, hrno⟩ := hrn rfl
              rw [if_neg (by rintro (h | h); exact hne h; cases h)] at HC2
              have HX : Hid (unL s (runs s (pos + 1)) (pos + 1 + i + 1) (acc ++ cutB s d pos ++ Lib.encodeRune rr) = unF s) := HC2
              have hcl : (cutB s d pos).length = pos - d := by unfold cutB; simp; omega
              have hel := (Lib.runeCells_le rr).2
              rw [Lib.runeCells_length] at hel
              rw [hisz] at hr2 hrno
              have HU2 : Hid (UnAt s (pos + 1) (pos + 1 + i + 1) (acc ++ cutB s d pos ++ Lib.encodeRune rr)) := by
                refine ⟨hi2, ?_, by omega, fun q h1 h2 => ?_⟩
                · simp only [List.length_append, hcl]; omega
                · by_cases hq : q = pos + 1 + i
                  · rw [hq, hget59]; decide
                  · have := hgetS (q - (pos + 1)) (by omega)
                    rw [show pos + 1 + (q - (pos + 1)) = q by omega] at this
                    rw [this]
                    exact hrno _ (by omega)
              clear HC HC2 hrno hgetS hix hne hi59 hino hins href hS hil HU hget59
              have HSZ : Hid (((s.extract (pos + 1) s.size).extract 0 i).size = i) := hisz
              clear hisz
              have hdpz : (d : Int) ≤ (pos : Int) := by omega
              go_wp2_with (first | (go_at_call 15; with_reducible refine HK.mono ?_; rintro e w3 ⟨rfl, hF3⟩) | (go_at_call 16; with_reducible refine (HRF _).mono ?_; rintro e w4 ⟨rfl, hF4⟩))
              have hF24 : Fr noB W2 w4 := hF3.trans hF4
              have hI4 := Bld.keep hI2 hF24
              have hsz4 : w1.heap.size ≤ w4.heap.size := Nat.le_trans hsz2 hF24.size
              have hes : (s.extract d pos).size = pos - d := by simp; omega
              have HW := writeString_any w1.heap.size w1.heap.size _ (s.extract d pos) w4 hI4 (by rw [Lib.byteCells_length, hes]; omega) hsz4
              rw [Lib.strCells_eq, ← Lib.byteCells_append, show (s.extract d pos).data.toList = cutB s d pos from rfl] at HW
              have hbw4 := fr_below hbw2 hsz2 hF24
              have hit4 : w4.heap[w1.heap.size + 1]? = some (.stringIter s (pos + 1)) := hF24.obj hit2 id
              clear hes hI4 hI2 hnx hrn
              with_reducible refine HW.mono ?_
              rintro e w5 ⟨rfl, hB5, hb5, hk5⟩
              have hsz5 : w1.heap.size ≤ w5.heap.size := Nat.le_trans hsz4 hb5.size
              have HR := writeRune_any w1.heap.size w1.heap.size _ rr (by omega) (by omega) w5 (Or.inr hB5) (by rw [Lib.byteCells_length, List.length_append, hcl]; omega) hsz5
              rw [← Lib.byteCells_encodeRune, ← Lib.byteCells_append] at HR
              have hit5 := hk5.iter hit4 (by omega)
              clear HW HRF HK hB5
              go_wp2_with (go_at_call 18; with_reducible refine HR.mono ?_; rintro e w6 ⟨⟨v6, rfl⟩, hB6, hb6, hk6⟩)
              have hit6 := hk6.iter hit5 (by omega)
              go_roundw
              case rel => exact ⟨_, pos + 1 + i + 1, _, by congr 1; omega, Or.inr hB6, hit6, (hbw4.trans hb5).trans hb6, HX, HU2.out⟩
              case measure =>
                have e1 : w6.iterPos (w1.heap.size + 1) = W2.iterPos (w1.heap.size + 1) := by simp only [World.iterPos, hit6, hit2]
                rw [e1]
                exact hm2
        · rw [if_neg hr] at HC2
          have HX : Hid (unL s (runs s (pos + n)) d acc = unF s) := HC2
          have hr' : ¬ (r : Int) = 38 := by omega
          have HU2 : Hid (UnAt s (pos + n) d acc) := ⟨hd, hal, hwf, fun q h1 h2 => HU.out.no q (by omega) h2⟩
          clear HC HC2 hlow hdd HU
          go_wp2
          go_roundw
          case rel => exact ⟨_, _, _, rfl, hI2, hit2, hbw2, HX, HU2.out⟩
          case measure => exact hm2
      · have hnx : ∀ ty, (Instr.next (.pointer (some ⟨w1.heap.size + 1, 0, none⟩)) true ty).run Tryd.prog wr = _ := fun ty => Lib.run_next_end_at wr (w1.heap.size + 1) s pos ty hit hp
        have HX : Hid (unF s = (acc ++ cutB s d s.size, 0, 0)) := by
          have := HC.out
          rw [runs_end s pos hp] at this
          exact this.symm
        have hes : (s.extract d s.size).size = s.size - d := by simp
        have HW := writeString_any w1.heap.size w1.heap.size _ (s.extract d s.size) wr hI (by rw [Lib.byteCells_length, hes]; omega) (by omega)
        rw [Lib.strCells_eq, ← Lib.byteCells_append, show (s.extract d s.size).data.toList = cutB s d s.size from rfl] at HW
        clear HC hes HU
        go_wp2_with (go_at_call 17; refine HW.mono ?_; rintro e w3 ⟨rfl, hB3, hb3, hk3⟩)
        have HS := bldString_any w1.heap.size w1.heap.size _ w3 (Or.inr hB3) (by have := hb3.size; omega)
        go_wp2_with (go_at_call 19; refine HS.mono ?_; rintro e w4 ⟨rfl, hb4⟩)
        go_ret3
        rw [HX.out]
        exact ⟨rfl, hF.then (Fr.ofBelow ((hbw.trans hb3).trans hb4)) (fun _ h => Or.inl h)⟩
#print axioms unescape_any
end Go.Proofs.YthdbjgkoofiilaaDoor
