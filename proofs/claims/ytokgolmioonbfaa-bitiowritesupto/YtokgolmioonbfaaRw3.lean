/- The document's writer, more: Bytes. -/
import Derived.Test.YtokgolmioonbfaaRw2
namespace Go.Proofs.Ytokgolmioonbfaa
open Go.RowKit

theorem take_bitsOf (D : List Nat) (k : Nat) (hk : k < 8 * D.length) : (bitsOf D).take (k + 1) = (bitsOf D).take k ++ [(D.getD (k / 8) 0).testBit (k % 8)] := by
  rw [List.take_succ_eq_append_getElem (by simpa using hk)]
  simp [bitsOf]

theorem Bs.step {w w' : World} {xb : Nat} {lv v : Value} {D : List Nat} (h : Bs w v D) (hf : Fr (pS xb lv) w w') (hx : D ≠ [] → ∀ ao len cap b off, v = .slice ao len cap → ao = some ⟨b, off, none⟩ → b < xb) (ho : ∀ k, lv.ownBlock = some k → xb + 1 ≤ k) : Bs w' v D := by
  by_cases hD : D = []
  · obtain ⟨ao, cap, h1, h2, h3, h4, _⟩ := h
    exact ⟨ao, cap, h1, h2, h3, h4, Or.inl hD⟩
  · exact h.fr hf (fun ao len cap b off e1 e2 hk => by
      have := hx hD ao len cap b off e1 e2
      rcases hk with rfl | hk
      · omega
      · have := ho b hk; omega)

theorem own_from {w : World} {xb n : Nat} {lv : Value} {xs : List Value} (h : w.ownsRow (xb + 1) 5 1 lv n xs) : ∀ k, lv.ownBlock = some k → xb + 1 ≤ k := by
  obtain ⟨_, _, _, _, _, _, _, ho⟩ := own_slice h
  exact fun k hk => (ho k hk).1

set_option maxRecDepth 100000 in
set_option maxHeartbeats 3200000 in
theorem refwbytes (xb : Nat) (lv v : Value) (l : List Bool) (D : List Nat) (w : World) (h : RwSt w xb lv l) (hv : Bs w v D) (hD : ∀ x ∈ D, x < 256) (hl : l.length + 8 * D.length ≤ 140737488354000)
    (hx : D ≠ [] → ∀ ao len cap b off, v = .slice ao len cap → ao = some ⟨b, off, none⟩ → b < xb) :
    Calls Try.prog 30 #[.pointer (some ⟨xb, 0, none⟩), v] w fun e w' => e = .returned (.tuple #[]) ∧ ∃ lv', RwSt w' xb lv' (alignB l ++ bitsOf D) ∧ WStep xb w lv w' lv' := by
  obtain ⟨i0, hi, hz0, hz1, hz2⟩ := info_parts Try.info5y
  obtain ⟨ao, vcap, rfl⟩ : ∃ ao vcap, v = .slice ao D.length vcap := by obtain ⟨ao, c, h, _⟩ := hv; exact ⟨ao, c, h⟩
  have hor := own_from h.2
  go_enter Try.func30, Try.ntmps30
  go_wp2_with fail
  refine (refwalign xb lv l _ h (by omega)).mono ?_
  rintro e w1 ⟨rfl, lv1, h1, hF1⟩
  go_wp2_with fail
  go_loopw [4] (fun i wr => ∃ k : Nat, k ≤ 8 * D.length ∧ i = .int .i64 (k : Int) ∧ ∃ s', RwSt wr xb s' (alignB l ++ (bitsOf D).take k) ∧ WStep xb w lv wr s') (fun i _ => 8 * D.length - (intOf i).toNat)
  case atStart => exact ⟨0, Nat.zero_le _, rfl, lv1, by simpa using h1, hF1⟩
  case round =>
    clear h h1 hF1
    obtain ⟨k, hk, rfl, s', hI, hF⟩ := hrel
    by_cases hlt : k < 8 * D.length
    · have hBr : Bs wr (.slice ao D.length vcap) D := hv.step hF.fr hx hor
      obtain ⟨so, sc, hsv, p1, p2, p3, p4, p5⟩ := own_slice hI.2
      rw [hsv] at hI hF
      have c0 := cellOf (o := 0) hI.1 rfl
      have f0 := freeOf 0 hI.1
      have hxb := lt_of_block hI.1
      have hne := own_ne hI.2
      have hown := hI.2
      obtain ⟨N, hN⟩ : ∃ N, N = (alignB l ++ (bitsOf D).take k).length := ⟨_, rfl⟩
      obtain ⟨cs, hcs⟩ : ∃ cs, cs = byteVals (ones (alignB l ++ (bitsOf D).take k)) := ⟨_, rfl⟩
      have hle : N ≤ 140737488354100 := by rw [hN]; simp [alignB_length]; omega
      have HI : Hid (RwSt wr xb (.slice so (alignB l ++ (bitsOf D).take k).length sc) (alignB l ++ (bitsOf D).take k)) := hI
      have HF : Hid (WStep xb w lv wr (.slice so (alignB l ++ (bitsOf D).take k).length sc)) := hF
      have HN : Hid (N = (alignB l ++ (bitsOf D).take k).length) := hN
      have HCS : Hid (cs = byteVals (ones (alignB l ++ (bitsOf D).take k))) := hcs
      rw [← hN] at hown HI HF c0 hne
      rw [← hcs] at hown
      obtain ⟨x, hxe⟩ : ∃ x, x = bitN (D.getD (k / 8) 0) (k % 8) := ⟨_, rfl⟩
      have hx1 : x ≤ 1 := by rw [hxe]; exact bitN_le _ _
      have HX : Hid (x = bitN (D.getD (k / 8) 0) (k % 8)) := hxe
      have HBIT := fun (W : World) (hW : Bs W (.slice ao D.length vcap) D) => bit_any (.slice ao D.length vcap) D (k : Int) W hW hD (by omega) (by omega) (by omega)
      simp only [Int.toNat_natCast] at HBIT
      rw [← hxe] at HBIT
      have HB : Hid (∀ W, Bs W (.slice ao D.length vcap) D → Calls Try.prog 44 #[.slice ao D.length vcap, .int .i64 (k : Int)] W fun e w' => e = .returned (.int .u32 ((x : Nat) : Int)) ∧ w' = W) := HBIT
      clear p1 p2 p3 p4 p5 hN hcs hI hF hsv hxe HBIT hv hx hor
      go_wp2_with fail
      go_region_law (first | (refine step_append_lies _ (by rfl) _ _ _ (by rfl) (xb + 1) 5 i0 (.int .u8 0) 1 1 Try.underlying22 hi hz0 hz1 hz2 rfl (by omega) (.slice so N sc) N cs (by rfl) ((hown.alloc _).drew) ⟨wr.heap.size, 0, none⟩ 1 1 [.int .u8 (IntKind.u8.wrap (x : Int))] (by rfl) (by rfl) (World.news_of_block (cs := #[.int .u8 (IntKind.u8.wrap (x : Int))]) (t := 5) (fr := (0, 0)) (heap_alloc_new wr _)) (by simp [Value.oneCell']) (by omega) (by unfold maxLen; omega) (by omega) (by simp; omega) (wr.heap.size + 1) (by simp) ?_; intro g cap w1 hown1 hgrow hat hlt1; have f1 : w1.frozen? ⟨xb, 0, none⟩ = false := (hgrow.frozen_far _ (by simp; omega) (Ne.symm hne)).trans ((World.frozen?_of_block (Below.heap_alloc _ _ _ hxb)).trans f0); have c1 : w1.cell? ⟨xb, 0, none⟩ = some (.slice so N sc) := (hgrow.cell_far _ (by simp; omega) (Ne.symm hne)).trans ((World.cell?_of_block (Below.heap_alloc _ _ _ hxb)).trans c0)) | (go_simp; go_at_call 44; refine (HB.out _ (by exact hBr)).mono ?_; rintro e w' ⟨rfl, rfl⟩))
      all_goals
        have hxw : IntKind.u8.wrap (x : Int) = ((((D.getD (k / 8) 0).testBit (k % 8)).toNat : Nat) : Int) := by
          rw [IntKind.wrap_u8', show ((D.getD (k / 8) 0).testBit (k % 8)).toNat = x from HX.out.symm]
          omega
        rw [hxw, HCS.out] at hown1
        have hst := rw_step HI.out HN.out hown1 (by rw [hxw] at hgrow; exact hgrow) hat
        clear hown1 hgrow hat f1 c1 c0 f0 hxw
        go_wp2_with fail
        go_roundw
        case rel => exact ⟨k + 1, by omega, by go_num, _, by rw [take_bitsOf D k hlt, ← List.append_assoc]; exact hst.1, HF.out.trans hst.2⟩
        case measure => simp [intOf]; omega
    · go_wp2_with fail
      go_end0
      have : k = 8 * D.length := by omega
      subst this
      exact ⟨rfl, s', by rw [← List.take_of_length_le (show (bitsOf D).length ≤ 8 * D.length by simp)]; exact hI, hF⟩
end Go.Proofs.Ytokgolmioonbfaa
