/- Cut: the program's contract. -/
import Derived.Test.YtpefadblmgcpcaaDoorCTxM
import Derived.Test.YtpefadblmgcpcaaDoorCBld
namespace Go.Proofs.YtpefadblmgcpcaaDoor
open Go.RowKit Go.Shelf

theorem clone_any (s : ByteArray) (w : World) (hs : s.size ≤ 140737488355328) : Calls Tryd.prog 37 #[.string s] w fun e w' => e = .returned (.string s) ∧ Fr noB w w' := by
  have HI : Calls Tryd.prog 61 #[.string s] w fun e w' => e = .returned (.string s) ∧ Below w.heap.size w w' := Any.stringslite_Clone Tryd.lays316 s w (by omega)
  go_enter Tryd.func37, Tryd.ntmps37
  go_wp2_with (go_at_call 61; refine HI.mono ?_; rintro e w1 ⟨rfl, hF⟩)
  go_ret
  exact ⟨rfl, Fr.ofBelow hF⟩
set_option maxRecDepth 100000 in
set_option maxHeartbeats 4000000 in
theorem place_any (s : ByteArray) (n : Int) (w : World) (hn : -9223372036854775808 ≤ n ∧ n ≤ 9223372036854775807) : Calls Tryd.prog 53 #[.string s, .int .i64 n] w fun e w' => e = .returned (.int .i64 ((placeF s n : Nat) : Int)) ∧ Fr noB w w' := by
  obtain ⟨R, hR⟩ : ∃ R, placeF s n = R := ⟨_, rfl⟩
  rw [hR]
  have HR : Hid (plL s.size n.toNat (runs s 0) = R) := hR
  clear hR
  go_enter Tryd.func53, Tryd.ntmps53
  go_wp2
  go_loopw [1] (fun nv w' => ∃ (pos : Nat) (m : Int), w' = w.iter s pos ∧ nv = .int .i64 m ∧ -9223372036854775808 ≤ m ∧ m ≤ 9223372036854775807 ∧ pos ≤ s.size ∧ Hid (plL s.size m.toNat (runs s pos) = R)) (fun _ w' => s.size - w'.iterPos w.heap.size)
  case atStart => exact ⟨0, n, rfl, rfl, by omega, by omega, Nat.zero_le _, HR⟩
  case round =>
    clear HR
    obtain ⟨pos, m, rfl, rfl, hm1, hm2, hps, HC⟩ := hrel
    by_cases hp : pos < s.size
    · have hnx : ∀ ty, (Instr.next (.pointer (some ⟨w.heap.size, 0, none⟩)) true ty).run Tryd.prog (w.iter s pos) = _ := fun ty => run_next_any w s pos ty hp
      have hwd := width_pos s pos hp
      have hwf := width_fits s pos hp
      by_cases h0 : m ≤ 0
      · have HX : Hid (R = pos) := by show R = pos; rw [← HC.out, show m.toNat = 0 by omega, plL_zero s pos hps]
        clear HC
        go_wp2
        go_ret
        exact ⟨ret_int (by rw [HX.out]), (Fr.refl noB w).alloc _⟩
      · have HX : Hid (plL s.size (m - 1).toNat (runs s (pos + (Utf8.decode s pos).2)) = R) := by
          show _ = R
          rw [← HC.out, show m.toNat = (m - 1).toNat + 1 by omega, plL_step s _ pos hp]
        clear HC
        go_wp2
        go_roundw
        case rel => exact ⟨_, _, rfl, rfl, by omega, by omega, hwf, HX⟩
        case measure => simp; omega
    · have hnx : ∀ ty, (Instr.next (.pointer (some ⟨w.heap.size, 0, none⟩)) true ty).run Tryd.prog (w.iter s pos) = _ := fun ty => run_next_end w s pos ty hp
      have HX : Hid (R = s.size) := by show R = s.size; rw [← HC.out, runs_end s pos hp, plL_nil]
      clear HC
      go_wp2
      go_ret
      exact ⟨ret_int (by rw [HX.out]), (Fr.refl noB w).alloc _⟩
/-- n characters from a number on. -/
def cutF (s : ByteArray) (a n : Int) : ByteArray := s.extract (placeF s a) (plL s.size n.toNat (runs s (placeF s a)))
theorem placeF_le (s : ByteArray) (n : Int) : placeF s n ≤ s.size := (plL_le s n.toNat 0 (Nat.zero_le _)).2
theorem ext_ext (s : ByteArray) (a b : Nat) : (s.extract a s.size).extract 0 b = s.extract a (min (a + b) s.size) := by
  apply ByteArray.ext
  simp only [ByteArray.data_extract]
  apply Array.ext'
  simp
set_option maxRecDepth 100000 in
set_option maxHeartbeats 1000000 in
theorem cutc_any (s : ByteArray) (a n : Int) (w : World) (hs : s.size ≤ 140737488355328) (ha : -9223372036854775808 ≤ a ∧ a ≤ 9223372036854775807) (hn : -9223372036854775808 ≤ n ∧ n ≤ 9223372036854775807) :
    Calls Tryd.prog 23 #[.string s, .int .i64 a, .int .i64 n] w fun e w' => e = .returned (.string (cutF s a n)) ∧ Fr noB w w' := by
  have H1 := fun w => place_any s a w ha
  have hA := placeF_le s a
  have hT := tail_place s (placeF s a) n.toNat hA
  have hTL := (plL_le s n.toNat (placeF s a) hA).2
  have HE : Hid (cutF s a n = s.extract (placeF s a) (plL s.size n.toNat (runs s (placeF s a)))) := rfl
  generalize placeF s a = A at *
  have H2 := fun w => place_any (s.extract A s.size) n w hn
  have hB := placeF_le (s.extract A s.size) n
  have hz := tail_size s A
  have HE2 : Hid (cutF s a n = (s.extract A s.size).extract 0 (placeF (s.extract A s.size) n)) := by
    show cutF s a n = _
    rw [HE.out, ext_ext, ← hT]
    congr 1
    unfold placeF at hB ⊢
    omega
  generalize placeF (s.extract A s.size) n = B at *
  have hB2 : (B : Int) ≤ ((s.extract A s.size).size : Int) := by omega
  have H3 := fun w => clone_any ((s.extract A s.size).extract 0 B) w (by simp; omega)
  rw [HE2.out]
  clear hT hTL HE HE2
  have hA2 : (A : Int) ≤ (s.size : Int) := by omega
  have hBz : (B : Int) ≤ (s.size : Int) - (A : Int) := by omega
  have hBn : B ≤ s.size - A := by omega
  go_enter Tryd.func23, Tryd.ntmps23
  go_wp2_with (first
    | (go_at_call 53; (first | with_reducible refine (H1 _).mono ?_ | with_reducible refine (H2 _).mono ?_); rintro e w1 ⟨rfl, hF1⟩)
    | (go_at_call 37; refine (H3 _).mono ?_; rintro e w3 ⟨rfl, hF3⟩))
  rename_i wa hFa
  go_ret
  exact ⟨rfl, (hFa.trans hF1).trans hF3⟩
#print axioms cutc_any
end Go.Proofs.YtpefadblmgcpcaaDoor
