/- chars.rewritten with the two closures that it is handed. -/
import Derived.Test.YtpefadblmgcpcaaDoorCUne
namespace Go.Proofs.YtpefadblmgcpcaaDoor
open Go.RowKit Go.Shelf

/-- A text with other texts for some of its signs. -/
def rwL (s : ByteArray) (o : Nat → Nat → Option ByteArray) : List (Nat × Nat × Nat) → Nat → List UInt8 → List UInt8
  | [], d, acc => acc ++ cutB s d s.size
  | x :: t, d, acc => match o x.1 x.2.1 with
    | some txt => rwL s o t (x.1 + 1) (acc ++ cutB s d x.1 ++ txt.data.toList)
    | none => rwL s o t d acc
def rwF (s : ByteArray) (o : Nat → Nat → Option ByteArray) : List UInt8 := rwL s o (runs s 0) 0 []
/-- What a closure answers. -/
def otT (x : Option ByteArray) : ByteArray := match x with
  | some t => t
  | none => ⟨#[]⟩
set_option maxRecDepth 100000 in
set_option maxHeartbeats 2000000 in
theorem rewritten_lines (s : ByteArray) (cap : Value) (o : Nat → Nat → Option ByteArray) (w : World) (hs : s.size ≤ 1048576) (h6 : ∀ p r t, o p r = some t → t.size ≤ 6)
    (HO : ∀ (W : World) (p r : Nat), Fr noB w W → p < s.size → Calls Tryd.prog 51 #[.int .i64 (p : Int), .int .i32 (r : Int), cap] W fun e W' => e = .returned (.tuple #[.string (otT (o p r)), .bool (o p r).isSome]) ∧ Fr noB W W') :
    Calls Tryd.prog 42 #[.string s, .func (.func 51) #[] #[cap]] w fun e w' => e = .returned (.string ⟨(rwF s o).toArray⟩) ∧ Fr noB w w' := by
  have HN : Hid (rwL s o (runs s 0) 0 [] = rwF s o) := rfl
  have H6 : Hid (∀ p r t, o p r = some t → t.size ≤ 6) := h6
  have HOO : Hid (∀ (W : World) (p r : Nat), Fr noB w W → p < s.size → Calls Tryd.prog 51 #[.int .i64 (p : Int), .int .i32 (r : Int), cap] W fun e W' => e = .returned (.tuple #[.string (otT (o p r)), .bool (o p r).isSome]) ∧ Fr noB W W') := HO
  clear h6 HO
  go_enter Tryd.func42, Tryd.ntmps42
  go_wp2
  go_loopw [6] (fun dv wr => ∃ (pos d : Nat) (acc : List UInt8), dv = .int .i64 (d : Int) ∧ Bld w.heap.size w.heap.size (Lib.byteCells acc) wr ∧ wr.heap[w.heap.size + 1]? = some (.stringIter s pos) ∧ Below w.heap.size w wr ∧ Hid (rwL s o (runs s pos) d acc = rwF s o) ∧ d ≤ pos ∧ pos ≤ s.size ∧ acc.length ≤ 7 * d) (fun _ wr => s.size - wr.iterPos (w.heap.size + 1))
  case atStart =>
    refine ⟨0, 0, [], rfl, (Lib.IsBuilderF.of (Lib.fresh_isBuilder 58 5 w)).alloc _, ?_, ((Below.refl _ w).alloc (Nat.le_refl _) _).alloc (by simp) _, HN, Nat.le_refl _, Nat.zero_le _, by simp⟩
    have := World.iter_heap (w.alloc (.cells #[.pointer none, .slice none 0 0] 58)) s 0
    simpa using this
  case round =>
    clear HN
    obtain ⟨pos, d, acc, rfl, hI, hit, hbw, HC, hd, hps, hal⟩ := hrel
    have hsz : w.heap.size + 1 < wr.heap.size := (Array.getElem?_eq_some_iff.1 hit).1
    by_cases hp : pos < s.size
    · have hnx : ∀ ty, (Instr.next (.pointer (some ⟨w.heap.size + 1, 0, none⟩)) true ty).run Tryd.prog wr = _ := fun ty => Lib.run_next_any_at wr (w.heap.size + 1) s pos ty hit hp
      have hwd := width_pos s pos hp
      have hwf := width_fits s pos hp
      have HC2 := HC.out
      rw [runs_step s pos hp, rwL] at HC2
      simp only at HC2
      have hI2 := hI.iterAt hit (pos + (Utf8.decode s pos).2)
      have hit2 := Lib.iterAt_heap wr (w.heap.size + 1) s pos (pos + (Utf8.decode s pos).2) hit
      have hbw2 := Lib.below_iterAt hbw (k := w.heap.size + 1) (by omega) s (pos + (Utf8.decode s pos).2)
      have hsz2 : w.heap.size ≤ (wr.iterAt (w.heap.size + 1) s (pos + (Utf8.decode s pos).2)).heap.size := by rw [Lib.iterAt_size]; omega
      obtain ⟨⟨r, n⟩, hdd⟩ : ∃ x, Utf8.decode s pos = x := ⟨_, rfl⟩
      rw [hdd] at hnx hwd hwf HC2 hI2 hit2 hbw2 hsz2
      simp only at hnx hwd hwf HC2 hI2 hit2 hbw2 hsz2
      generalize hW2 : wr.iterAt (w.heap.size + 1) s (pos + n) = W2 at *
      have hm2 : s.size - W2.iterPos (w.heap.size + 1) < s.size - wr.iterPos (w.heap.size + 1) := by
        simp only [World.iterPos, hit2, hit]
        omega
      have HMM : Hid (s.size - W2.iterPos (w.heap.size + 1) < s.size - wr.iterPos (w.heap.size + 1)) := hm2
      have hFw : Fr noB w W2 := Fr.ofBelow hbw2
      have HK := HOO.out W2 pos r hFw hp
      have h6 := H6.out pos r
      clear hI hit hbw hW2 hsz HC hm2 hdd hFw
      cases ho : o pos r with
      | none =>
        rw [ho] at HC2 HK
        have HX : Hid (rwL s o (runs s (pos + n)) d acc = rwF s o) := HC2
        simp only [otT, Option.isSome] at HK
        clear HC2 ho h6
        go_wp2_with (go_at_call 51; with_reducible refine HK.mono ?_; rintro e w3 ⟨rfl, hF3⟩)
        have hit3 := hF3.obj hit2 id
        go_roundw
        case rel => exact ⟨pos + n, d, acc, rfl, Bld.keep hI2 hF3, hit3, fr_below hbw2 hsz2 hF3, HX, by omega, hwf, by omega⟩
        case measure =>
          have e3 := HMM.out
          simp only [World.iterPos, hit2, hit3] at e3 ⊢
          exact e3
      | some t =>
        rw [ho] at HC2 HK
        have ht6 := h6 t ho
        have HX : Hid (rwL s o (runs s (pos + n)) (pos + 1) (acc ++ cutB s d pos ++ t.data.toList) = rwF s o) := HC2
        simp only [otT, Option.isSome] at HK
        clear HC2 ho h6
        have hdz : (d : Int) ≤ (pos : Int) := by omega
        go_wp2_with (go_at_call 51; with_reducible refine HK.mono ?_; rintro e w3 ⟨rfl, hF3⟩)
        have hit3 := hF3.obj hit2 id
        have hI3 := Bld.keep hI2 hF3
        have hb3 := fr_below hbw2 hsz2 hF3
        have hsz3 : w.heap.size ≤ w3.heap.size := Nat.le_trans hsz2 hF3.size
        have hcl : (cutB s d pos).length = pos - d := by unfold cutB; simp; omega
        have HW := writeString_any w.heap.size w.heap.size _ (s.extract d pos) w3 hI3 (by rw [Lib.byteCells_length, show (s.extract d pos).size = pos - d from hcl]; omega) hsz3
        rw [Lib.strCells_eq, ← Lib.byteCells_append, show (s.extract d pos).data.toList = cutB s d pos from rfl] at HW
        clear hI2 hI3 HK hnx
        with_reducible refine HW.mono ?_
        rintro e w4 ⟨rfl, hB4, hb4, hk4⟩
        have hsz4 : w.heap.size ≤ w4.heap.size := Nat.le_trans hsz3 hb4.size
        have HW2 := writeString_any w.heap.size w.heap.size _ t w4 (Or.inr hB4) (by rw [Lib.byteCells_length, List.length_append, hcl]; omega) hsz4
        rw [Lib.strCells_eq, ← Lib.byteCells_append] at HW2
        have hit4 := hk4.iter hit3 (by omega)
        obtain ⟨tl, htl⟩ : ∃ tl, t.data.toList = tl := ⟨_, rfl⟩
        have htl6 : tl.length ≤ 6 := by rw [← htl]; simpa using ht6
        rw [htl] at HW2 HX
        clear HW hB4 htl
        go_wp2_with (go_at_call 47; with_reducible refine HW2.mono ?_; rintro e w5 ⟨rfl, hB5, hb5, hk5⟩)
        have hit5 := hk5.iter hit4 (by omega)
        go_roundw
        case rel => exact ⟨pos + n, pos + 1, acc ++ cutB s d pos ++ tl, by go_num, Or.inr hB5, hit5, (hb3.trans hb4).trans hb5, HX, by omega, hwf, by simp only [List.length_append, hcl]; omega⟩
        case measure =>
          have e3 := HMM.out
          simp only [World.iterPos, hit2, hit5] at e3 ⊢
          exact e3
    · have hnx : ∀ ty, (Instr.next (.pointer (some ⟨w.heap.size + 1, 0, none⟩)) true ty).run Tryd.prog wr = _ := fun ty => Lib.run_next_end_at wr (w.heap.size + 1) s pos ty hit hp
      have HX : Hid (rwF s o = acc ++ cutB s d s.size) := by
        have := HC.out
        rw [runs_end s pos hp] at this
        exact this.symm
      have hes : (s.extract d s.size).size = s.size - d := by simp
      have HW := writeString_any w.heap.size w.heap.size _ (s.extract d s.size) wr hI (by rw [Lib.byteCells_length, hes]; omega) (by omega)
      rw [Lib.strCells_eq, ← Lib.byteCells_append, show (s.extract d s.size).data.toList = cutB s d s.size from rfl] at HW
      clear HC hes
      go_wp2_with (go_at_call 47; with_reducible refine HW.mono ?_; rintro e w3 ⟨rfl, hB3, hb3, hk3⟩)
      have HS := bldString_any w.heap.size w.heap.size _ w3 (Or.inr hB3) (by have := hb3.size; omega)
      go_wp2_with (go_at_call 49; refine HS.mono ?_; rintro e w4 ⟨rfl, hb4⟩)
      go_ret
      rw [HX.out]
      exact ⟨rfl, Fr.ofBelow ((hbw.trans hb3).trans hb4)⟩
set_option maxRecDepth 100000 in
set_option maxHeartbeats 2000000 in
theorem rewritten_escape (s : ByteArray) (cap : Value) (o : Nat → Nat → Option ByteArray) (w : World) (hs : s.size ≤ 1048576) (h6 : ∀ p r t, o p r = some t → t.size ≤ 6)
    (HO : ∀ (W : World) (p r : Nat), Fr noB w W → p < s.size → Calls Tryd.prog 43 #[.int .i64 (p : Int), .int .i32 (r : Int), cap] W fun e W' => e = .returned (.tuple #[.string (otT (o p r)), .bool (o p r).isSome]) ∧ Fr noB W W') :
    Calls Tryd.prog 42 #[.string s, .func (.func 43) #[] #[cap]] w fun e w' => e = .returned (.string ⟨(rwF s o).toArray⟩) ∧ Fr noB w w' := by
  have HN : Hid (rwL s o (runs s 0) 0 [] = rwF s o) := rfl
  have H6 : Hid (∀ p r t, o p r = some t → t.size ≤ 6) := h6
  have HOO : Hid (∀ (W : World) (p r : Nat), Fr noB w W → p < s.size → Calls Tryd.prog 43 #[.int .i64 (p : Int), .int .i32 (r : Int), cap] W fun e W' => e = .returned (.tuple #[.string (otT (o p r)), .bool (o p r).isSome]) ∧ Fr noB W W') := HO
  clear h6 HO
  go_enter Tryd.func42, Tryd.ntmps42
  go_wp2
  go_loopw [6] (fun dv wr => ∃ (pos d : Nat) (acc : List UInt8), dv = .int .i64 (d : Int) ∧ Bld w.heap.size w.heap.size (Lib.byteCells acc) wr ∧ wr.heap[w.heap.size + 1]? = some (.stringIter s pos) ∧ Below w.heap.size w wr ∧ Hid (rwL s o (runs s pos) d acc = rwF s o) ∧ d ≤ pos ∧ pos ≤ s.size ∧ acc.length ≤ 7 * d) (fun _ wr => s.size - wr.iterPos (w.heap.size + 1))
  case atStart =>
    refine ⟨0, 0, [], rfl, (Lib.IsBuilderF.of (Lib.fresh_isBuilder 58 5 w)).alloc _, ?_, ((Below.refl _ w).alloc (Nat.le_refl _) _).alloc (by simp) _, HN, Nat.le_refl _, Nat.zero_le _, by simp⟩
    have := World.iter_heap (w.alloc (.cells #[.pointer none, .slice none 0 0] 58)) s 0
    simpa using this
  case round =>
    clear HN
    obtain ⟨pos, d, acc, rfl, hI, hit, hbw, HC, hd, hps, hal⟩ := hrel
    have hsz : w.heap.size + 1 < wr.heap.size := (Array.getElem?_eq_some_iff.1 hit).1
    by_cases hp : pos < s.size
    · have hnx : ∀ ty, (Instr.next (.pointer (some ⟨w.heap.size + 1, 0, none⟩)) true ty).run Tryd.prog wr = _ := fun ty => Lib.run_next_any_at wr (w.heap.size + 1) s pos ty hit hp
      have hwd := width_pos s pos hp
      have hwf := width_fits s pos hp
      have HC2 := HC.out
      rw [runs_step s pos hp, rwL] at HC2
      simp only at HC2
      have hI2 := hI.iterAt hit (pos + (Utf8.decode s pos).2)
      have hit2 := Lib.iterAt_heap wr (w.heap.size + 1) s pos (pos + (Utf8.decode s pos).2) hit
      have hbw2 := Lib.below_iterAt hbw (k := w.heap.size + 1) (by omega) s (pos + (Utf8.decode s pos).2)
      have hsz2 : w.heap.size ≤ (wr.iterAt (w.heap.size + 1) s (pos + (Utf8.decode s pos).2)).heap.size := by rw [Lib.iterAt_size]; omega
      obtain ⟨⟨r, n⟩, hdd⟩ : ∃ x, Utf8.decode s pos = x := ⟨_, rfl⟩
      rw [hdd] at hnx hwd hwf HC2 hI2 hit2 hbw2 hsz2
      simp only at hnx hwd hwf HC2 hI2 hit2 hbw2 hsz2
      generalize hW2 : wr.iterAt (w.heap.size + 1) s (pos + n) = W2 at *
      have hm2 : s.size - W2.iterPos (w.heap.size + 1) < s.size - wr.iterPos (w.heap.size + 1) := by
        simp only [World.iterPos, hit2, hit]
        omega
      have HMM : Hid (s.size - W2.iterPos (w.heap.size + 1) < s.size - wr.iterPos (w.heap.size + 1)) := hm2
      have hFw : Fr noB w W2 := Fr.ofBelow hbw2
      have HK := HOO.out W2 pos r hFw hp
      have h6 := H6.out pos r
      clear hI hit hbw hW2 hsz HC hm2 hdd hFw
      cases ho : o pos r with
      | none =>
        rw [ho] at HC2 HK
        have HX : Hid (rwL s o (runs s (pos + n)) d acc = rwF s o) := HC2
        simp only [otT, Option.isSome] at HK
        clear HC2 ho h6
        go_wp2_with (go_at_call 43; with_reducible refine HK.mono ?_; rintro e w3 ⟨rfl, hF3⟩)
        have hit3 := hF3.obj hit2 id
        go_roundw
        case rel => exact ⟨pos + n, d, acc, rfl, Bld.keep hI2 hF3, hit3, fr_below hbw2 hsz2 hF3, HX, by omega, hwf, by omega⟩
        case measure =>
          have e3 := HMM.out
          simp only [World.iterPos, hit2, hit3] at e3 ⊢
          exact e3
      | some t =>
        rw [ho] at HC2 HK
        have ht6 := h6 t ho
        have HX : Hid (rwL s o (runs s (pos + n)) (pos + 1) (acc ++ cutB s d pos ++ t.data.toList) = rwF s o) := HC2
        simp only [otT, Option.isSome] at HK
        clear HC2 ho h6
        have hdz : (d : Int) ≤ (pos : Int) := by omega
        go_wp2_with (go_at_call 43; with_reducible refine HK.mono ?_; rintro e w3 ⟨rfl, hF3⟩)
        have hit3 := hF3.obj hit2 id
        have hI3 := Bld.keep hI2 hF3
        have hb3 := fr_below hbw2 hsz2 hF3
        have hsz3 : w.heap.size ≤ w3.heap.size := Nat.le_trans hsz2 hF3.size
        have hcl : (cutB s d pos).length = pos - d := by unfold cutB; simp; omega
        have HW := writeString_any w.heap.size w.heap.size _ (s.extract d pos) w3 hI3 (by rw [Lib.byteCells_length, show (s.extract d pos).size = pos - d from hcl]; omega) hsz3
        rw [Lib.strCells_eq, ← Lib.byteCells_append, show (s.extract d pos).data.toList = cutB s d pos from rfl] at HW
        clear hI2 hI3 HK hnx
        with_reducible refine HW.mono ?_
        rintro e w4 ⟨rfl, hB4, hb4, hk4⟩
        have hsz4 : w.heap.size ≤ w4.heap.size := Nat.le_trans hsz3 hb4.size
        have HW2 := writeString_any w.heap.size w.heap.size _ t w4 (Or.inr hB4) (by rw [Lib.byteCells_length, List.length_append, hcl]; omega) hsz4
        rw [Lib.strCells_eq, ← Lib.byteCells_append] at HW2
        have hit4 := hk4.iter hit3 (by omega)
        obtain ⟨tl, htl⟩ : ∃ tl, t.data.toList = tl := ⟨_, rfl⟩
        have htl6 : tl.length ≤ 6 := by rw [← htl]; simpa using ht6
        rw [htl] at HW2 HX
        clear HW hB4 htl
        go_wp2_with (go_at_call 47; with_reducible refine HW2.mono ?_; rintro e w5 ⟨rfl, hB5, hb5, hk5⟩)
        have hit5 := hk5.iter hit4 (by omega)
        go_roundw
        case rel => exact ⟨pos + n, pos + 1, acc ++ cutB s d pos ++ tl, by go_num, Or.inr hB5, hit5, (hb3.trans hb4).trans hb5, HX, by omega, hwf, by simp only [List.length_append, hcl]; omega⟩
        case measure =>
          have e3 := HMM.out
          simp only [World.iterPos, hit2, hit5] at e3 ⊢
          exact e3
    · have hnx : ∀ ty, (Instr.next (.pointer (some ⟨w.heap.size + 1, 0, none⟩)) true ty).run Tryd.prog wr = _ := fun ty => Lib.run_next_end_at wr (w.heap.size + 1) s pos ty hit hp
      have HX : Hid (rwF s o = acc ++ cutB s d s.size) := by
        have := HC.out
        rw [runs_end s pos hp] at this
        exact this.symm
      have hes : (s.extract d s.size).size = s.size - d := by simp
      have HW := writeString_any w.heap.size w.heap.size _ (s.extract d s.size) wr hI (by rw [Lib.byteCells_length, hes]; omega) (by omega)
      rw [Lib.strCells_eq, ← Lib.byteCells_append, show (s.extract d s.size).data.toList = cutB s d s.size from rfl] at HW
      clear HC hes
      go_wp2_with (go_at_call 47; with_reducible refine HW.mono ?_; rintro e w3 ⟨rfl, hB3, hb3, hk3⟩)
      have HS := bldString_any w.heap.size w.heap.size _ w3 (Or.inr hB3) (by have := hb3.size; omega)
      go_wp2_with (go_at_call 49; refine HS.mono ?_; rintro e w4 ⟨rfl, hb4⟩)
      go_ret
      rw [HX.out]
      exact ⟨rfl, Fr.ofBelow ((hbw.trans hb3).trans hb4)⟩
#print axioms rewritten_escape
end Go.Proofs.YtpefadblmgcpcaaDoor
