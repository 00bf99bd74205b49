/- CharsParts: the law's walk. -/
import Derived.Test.YtpefadblmgcpcabCLiv
import Derived.Test.YtpefadblmgcpcabCTxt
namespace Go.Proofs.Ytpefadblmgcpcab
open Go.RowKit

theorem ext_glue (s : ByteArray) (a : Nat) (h : a ≤ s.size) : s.extract 0 a ++ s.extract a s.size = s := by
  apply ByteArray.ext
  simp only [ByteArray.data_append, ByteArray.data_extract]
  apply Array.ext'
  simp
  rw [Nat.max_eq_right h]
  exact List.take_of_length_le (by simp)
set_option maxRecDepth 100000 in
set_option maxHeartbeats 1000000 in
theorem parts_walk (s : ByteArray) (k : Int) (w : World) (hs : s.size ≤ 140737488355328) (hk : -9223372036854775808 ≤ k ∧ k ≤ 9223372036854775807) :
    Calls Try.prog 3 #[.string s, .int .i64 k] w fun e w' => e = .returned (.bool true) ∧ Below w.heap.size w w' := by
  have H0 := live_true
  by_cases h0 : k < 0
  · go_enter Try.func3, Try.ntmps3
    go_wp2_with (go_at_call 4; refine (H0 _).mono ?_; rintro e w0 ⟨rfl, hF0⟩)
    go_ret
    exact ⟨rfl, hF0.below (Nat.le_refl _) (fun _ h => h.elim)⟩
  · have hlen := runs_len s s.size 0 (by omega)
    have H1 := fun w => cutc_any s 0 k w hs (by omega) hk
    have H2 := fun w => cutc_any s k ((runs s 0).length : Int) w hs hk (by omega)
    have H3 := fun w => count_any s w hs
    have hA := placeF_le s k
    have e1 : cutF s 0 k = s.extract 0 (placeF s k) := by
      have e0 : placeF s 0 = 0 := plL_zero s 0 (Nat.zero_le _)
      unfold cutF
      rw [e0]
      rfl
    have ed := runs_drop s k.toNat 0 (Nat.zero_le _)
    have eh := head_runs s k.toNat 0 (Nat.zero_le _)
    have et := tail_runs s (placeF s k) s.size 0 (by omega)
    rw [Nat.add_zero] at et
    have hl1 : (runs (s.extract 0 (placeF s k)) 0).length = min k.toNat (runs s 0).length := by
      show (runs (s.extract 0 (plL s.size k.toNat (runs s 0))) 0).length = _
      rw [eh, List.length_take]
    have hl2 : (runs (s.extract (placeF s k) s.size) 0).length = (runs s 0).length - k.toNat := by
      have : (runs s (placeF s k)).length = (runs (s.extract (placeF s k) s.size) 0).length := by rw [et, List.length_map]
      rw [← this]
      show (runs s (plL s.size k.toNat (runs s 0))).length = _
      rw [← ed, List.length_drop]
    have e2 : cutF s k ((runs s 0).length : Int) = s.extract (placeF s k) s.size := by
      unfold cutF
      rw [plL_all]
      show (runs s (plL s.size k.toNat (runs s 0))).length ≤ _
      rw [← ed, List.length_drop]
      simp
    have hglue := ext_glue s (placeF s k) hA
    rw [e1] at H1
    rw [e2] at H2
    have hz1 : (s.extract 0 (placeF s k)).size ≤ s.size := by simp; omega
    have hz2 : (s.extract (placeF s k) s.size).size ≤ s.size := by simp
    generalize s.extract 0 (placeF s k) = X at *
    generalize s.extract (placeF s k) s.size = Y at *
    have H4 := fun w => count_any X w (by omega)
    have H5 := fun w => count_any Y w (by omega)
    have hadd : (runs s 0).length = (runs X 0).length + (runs Y 0).length := by omega
    have hle : ((runs X 0).length : Int) ≤ k := by omega
    rw [hadd] at H2 H3 hlen
    simp only [Int.natCast_add] at H2 H3
    generalize (runs X 0).length = cx at *
    generalize (runs Y 0).length = cy at *
    have hz : X.size + Y.size ≤ 140737488355328 := by
      have := congrArg ByteArray.size hglue
      rw [ByteArray.size_append] at this
      omega
    have heq : ((X ++ Y).toList == s.toList) = true := by rw [hglue]; simp
    clear e1 e2 ed eh et hl1 hl2 hglue hadd hA hz1 hz2
    go_enter Try.func3, Try.ntmps3
    go_wp2_with (first
      | (go_at_call 4; refine (H0 _).mono ?_; rintro e w0 ⟨rfl, hF0⟩)
      | (go_at_call 5; (first | with_reducible refine (H1 _).mono ?_ | with_reducible refine (H2 _).mono ?_); rintro e w1 ⟨rfl, hF1⟩)
      | (go_at_call 6; (first | with_reducible refine (H3 _).mono ?_ | with_reducible refine (H4 _).mono ?_ | with_reducible refine (H5 _).mono ?_); rintro e w2 ⟨rfl, hF2⟩))
    go_ret
    refine ⟨rfl, Fr.below (S := noB) ?_ (Nat.le_refl _) (fun _ h => h.elim)⟩
    repeat first | assumption | refine Fr.trans ?_ (by assumption)
end Go.Proofs.Ytpefadblmgcpcab
