/- FormatFloat with the format e and the fewest digits: its contract. -/
import Derived.Test.YtnklmcmdlobicaaGreatDoorNFto
import Derived.Laws.IdiomStrings
namespace Go.Proofs.YtnklmcmdlobicaaGreatDoor
open Go.RowKit Ieee Go.Shelf

/-- Bytes as a text. -/
def baOf (L : List Nat) : ByteArray := ⟨(L.map UInt8.ofNat).toArray⟩
/-- What has been gathered, turned into a text. -/
theorem Own.text {w0 w : World} {base : Nat} {v0 v : Value} {X : List Nat} (h : Own w0 base v0 X w v) (hX : ∀ x ∈ X, x < 256) (hl : X ≠ []) : (convert 71 9 v).run Tryz.prog w = .ok (.string (baOf X)) w := by
  rcases h.row.2 with ⟨_, h0⟩ | ⟨g, cap, cur, hv, hg, hrow, _, _, _, hct⟩
  · exact absurd (List.eq_nil_of_length_eq_zero h0) hl
  · rw [hv]
    have hc := run_convert_bytes_back (P := Tryz.prog) w 71 9 5 ⟨g, 0, none⟩ cap (X.map UInt8.ofNat) Tryz.underlying71 Tryz.underlying5 Tryz.underlying9 (by
      intro j hj
      rw [List.length_map] at hj
      rw [add_none, Nat.zero_add]
      refine cellOf hrow ?_
      rw [Nat.mul_one] at hct
      have h1 : (cur.toList.take X.length)[j]? = (byteVals X)[j]? := by rw [hct]
      rw [List.getElem?_take, if_pos hj, byteVals_get X j hj, Array.getElem?_toList] at h1
      rw [h1, List.getElem_map, UInt8.toNat_ofNat', Nat.mod_eq_of_lt (hX _ (List.getElem_mem hj))])
    rw [List.length_map] at hc
    exact hc
theorem expT_small (x : Int) (h1 : -999 ≤ x) (h2 : x ≤ 999) : ∀ y ∈ expT x, y < 256 := by
  intro y hy
  unfold expT at hy
  rcases List.mem_cons.1 hy with h | h
  · split at h <;> omega
  · split at h
    · simp at h; omega
    · split at h
      · simp at h; omega
      · simp at h; omega
theorem eText_small {Ds : List Nat} {dp : Int} (hD : ∀ x ∈ Ds, x < 256) (h1 : -900 ≤ dp) (h2 : dp ≤ 900) : (∀ y ∈ eText Ds dp, y < 256) ∧ eText Ds dp ≠ [] := by
  refine ⟨fun y hy => ?_, by unfold eText; simp⟩
  unfold eText at hy
  rcases List.mem_append.1 hy with h | h
  · rcases List.mem_append.1 h with h | h
    · exact hD y (List.mem_of_mem_take h)
    · split at h
      · rcases List.mem_cons.1 h with h | h
        · omega
        · exact hD y (List.mem_of_mem_drop h)
      · cases h
  · rcases List.mem_cons.1 h with h | h
    · omega
    · exact expT_small _ (by omega) (by omega) y h
theorem digF_small (x : Nat) : ∀ y ∈ digF x, y < 256 := by
  intro y hy
  unfold digF at hy
  obtain ⟨b, _, rfl⟩ := List.mem_map.1 hy
  exact b.toNat_lt
theorem dpF_range (x : Nat) (hx0 : 0 < x) (hx : x < 9218868437227405312) : -400 ≤ dpF x ∧ dpF x ≤ 420 := by
  obtain ⟨k1, k2, k3, k4, k5, k6, k7, k8⟩ := nm_facts x hx0 hx
  obtain ⟨s1, s2, s3, s4⟩ := short_pos (nmOf x) (neOf x) k5 k6 k7 k8
  have h := nDigits_le18 (sdOf x) s1 s2
  unfold dpF
  have e : spOf x = (shortF (nmOf x) (neOf x)).2 := rfl
  omega
set_option maxRecDepth 100000 in
set_option maxHeartbeats 1000000 in
theorem iformat_any (x : Nat) (w : World) (hx0 : 0 < x) (hx : x < 9218868437227405312) (hP : PTab w) (hU : UTab w) :
    Calls Tryz.prog 67 #[.float .f64 x, .int .u8 101, .int .i64 (-1), .int .i64 64] w fun e w' => e = .returned (.string (baOf (eText (digF x) (dpF x)))) ∧ Fr noB w w' := by
  obtain ⟨i0, hi, hz0, hz1, hz2⟩ := info_parts infoU8
  have hdp := dpF_range x hx0 hx
  obtain ⟨hs1, hs2⟩ := eText_small (dp := dpF x) (digF_small x) (by omega) (by omega)
  have HFT : Hid (∀ W : World, Fr noB w W → W.ownsRow w.heap.size 5 1 (.slice (some ⟨w.heap.size, 0, none⟩) 0 24) 0 [] → Calls Tryz.prog 108 #[.slice (some ⟨w.heap.size, 0, none⟩) 0 24, .float .f64 x, .int .u8 101, .int .i64 (-1)] W fun e w' => ∃ v', e = .returned v' ∧ Own W w.heap.size (.slice (some ⟨w.heap.size, 0, none⟩) 0 24) (eText (digF x) (dpF x)) w' v') := fun W hF ho => ftoa_any x w.heap.size _ _ W hx0 hx ho hF.size (hP.fr hF) (hU.fr hF)
  generalize eText (digF x) (dpF x) = T at *
  have HS : Hid _ := And.intro hs1 hs2
  clear hs1 hs2 hP hU hdp
  go_enter Tryz.func67, Tryz.ntmps67
  go_wp2_with (at_make; refine wpList_make_own _ rfl _ _ 71 rfl w.heap.size 5 i0 (.int .u8 0) 1 Tryz.underlying71 hi hz0 hz1 .i64 .i64 _ 24 rfl rfl (by decide) (by rw [hz2]; omega) (by unfold maxLen; omega) (Nat.le_refl _) ?_)
  intro w1 ho hg
  have hF1 : Fr noB w w1 := (Fr.refl noB w).grown hg (fun k hk => by cases hk)
  have HC := HFT.out w1 hF1 ho
  have HF1 : Hid _ := hF1
  clear hF1 ho hg
  go_wp2_with (go_at_call 108; refine HC.mono ?_; rintro e w2 ⟨v', rfl, hO⟩; have htx := hO.text HS.out.1 HS.out.2; have HO : Hid _ := hO; clear hO)
  go_ret
  exact ⟨rfl, HF1.out.then HO.out.fr (fun k hk => Or.inr (by
    have hk' : some w.heap.size = some k := hk
    cases hk'
    exact Nat.le_refl _))⟩
set_option maxRecDepth 100000 in
set_option maxHeartbeats 1000000 in
theorem format_any (x : Nat) (w : World) (hx0 : 0 < x) (hx : x < 9218868437227405312) (hP : PTab w) (hU : UTab w) :
    Calls Tryz.prog 36 #[.float .f64 x, .int .u8 101, .int .i64 (-1), .int .i64 64] w fun e w' => e = .returned (.string (baOf (eText (digF x) (dpF x)))) ∧ Fr noB w w' := by
  have HC := iformat_any x w hx0 hx hP hU
  generalize baOf (eText (digF x) (dpF x)) = T at *
  go_enter Tryz.func36, Tryz.ntmps36
  go_wp2_with (go_at_call 67; with_reducible refine HC.mono ?_; rintro e w2 ⟨rfl, hO⟩)
  go_ret
  exact ⟨rfl, hO⟩
#print axioms format_any
end Go.Proofs.YtnklmcmdlobicaaGreatDoor
