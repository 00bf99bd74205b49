/- The contract of huff.Put, of a writer that NewWriter made. -/
import Derived.Test.YthgnhcdodfildaaDoorArr
import Derived.Test.YthgnhcdodfildaaDoorChk
import Derived.Test.YthgnhcdodfildaaDoorWr2
import Derived.Test.YthgnhcdodfildaaDoorK03
import Derived.Deep.QuietTactic
import Derived.BigQuiet
namespace Go.Proofs.YthgnhcdodfildaaDoor
open Go.RowKit

theorem getD_int' (L : List Int) (i : Nat) (h : i < L.length) : L.getD i 0 = L[i] := by simp [h]
theorem WrIs.zero {w : World} {wb : Nat} {l : List Bool} (h : WrIs w wb (l ++ bitsN 0 0)) : WrIs w wb l := by simpa [bitsN] using h

set_option maxRecDepth 100000 in
set_option maxHeartbeats 1600000 in
theorem hput_good (wb : Nat) (v cv : Value) (L C : List Int) (l : List Bool) (s n c : Nat) (w : World) (h : WrIs w wb l) (hk : ∀ w', Fr (wS w wb) w w' → Ns .i64 w' v L ∧ Ns .u32 w' cv C)
    (hLC : L.length = C.length) (hs : s < L.length) (h1 : L[s] = (n : Int)) (h2 : C[s]'(by omega) = (c : Int)) (hn1 : 1 ≤ n) (hn15 : n ≤ 15) (hc : c < 2 ^ n) (hl : l.length ≤ 1125899906841800) :
    Calls Tryd.prog 46 #[.pointer (some ⟨wb, 0, none⟩), v, cv, .int .i64 (s : Int)] w fun e w' => e = .returned (.int .i64 0) ∧ WrIs w' wb (l ++ bitsN (revN c n) n) ∧ Fr (wS w wb) w w' := by
  have hc32 := pow_le_15 n hn15
  have hq : (c : Int) / 2 ^ n = 0 := by
    have : ((c : Int) / 2 ^ n) = ((c / 2 ^ n : Nat) : Int) := by simp
    rw [this, Nat.div_eq_of_lt hc]; rfl
  have hrl : revN c n < 2 ^ n := ofB_lt _ _
  have HB0 := wbits_good wb 0 0 l w h (by omega) (by decide) (by omega)
  have hv0 := (hk w (Fr.refl _ _)).1
  have hcv0 := (hk w (Fr.refl _ _)).2
  obtain ⟨ao, acap, rfl, a1, a2, a4, _⟩ := hv0
  obtain ⟨bo, bcap, rfl, b1, b2, b4, _⟩ := hcv0
  have hsC : s < C.length := by omega
  obtain ⟨N, hN1, hN2⟩ : ∃ N, L.length = N ∧ C.length = N := ⟨_, rfl, by omega⟩
  have HN1 : Hid (L.length = N) := hN1
  have HN2 : Hid (C.length = N) := hN2
  have hsN : s < N := by omega
  have HK : Hid _ := hk
  have HSL : Hid (s < L.length) := hs
  have HL1 : Hid (L[s] = (n : Int)) := h1
  have HC1 : Hid (C[s]'hsC = (c : Int)) := h2
  rw [hN1] at a1
  rw [hN2] at b1
  rw [hN1, hN2]
  unfold maxLen at a2 b2
  clear hN1 hN2 hLC hk h1 h2
  go_enter Tryd.func46, Tryd.ntmps46
  go_wp2_with fail
  refine HB0.mono ?_
  rintro e w1 ⟨rfl, hW1, hF1⟩
  obtain ⟨n1, n2⟩ := HK.out w1 hF1
  have c1 : ∃ b off, ao = some ⟨b, off, none⟩ ∧ w1.cell? ⟨b, off + s, none⟩ = some (.int .i64 (n : Int)) := by
    obtain ⟨x1, x2, e1, _, _, _, e2⟩ := n1
    simp at e1
    obtain ⟨rfl, _⟩ := e1
    obtain ⟨b, off, e3, _, e4⟩ := NsAt.get e2 s HSL.out
    exact ⟨b, off, e3, e4.trans (congrArg (fun z => some (Value.int .i64 z)) HL1.out)⟩
  have c2 : ∃ b off, bo = some ⟨b, off, none⟩ ∧ w1.cell? ⟨b, off + s, none⟩ = some (.int .u32 (c : Int)) := by
    obtain ⟨x1, x2, e1, _, _, _, e2⟩ := n2
    simp at e1
    obtain ⟨rfl, _⟩ := e1
    obtain ⟨b, off, e3, _, e4⟩ := NsAt.get e2 s hsC
    exact ⟨b, off, e3, e4.trans (congrArg (fun z => some (Value.int .u32 z)) HC1.out)⟩
  obtain ⟨b, off, rfl, c1⟩ := c1
  obtain ⟨b', off', rfl, c2⟩ := c2
  have hW1' := hW1.zero
  clear n1 n2 hW1 HB0
  have HRV := fun m => reverse_yes c n (w1.drewN m) (by omega) (by omega)
  have HB1 := fun m => wbits_good wb (revN c n) n l (w1.drewN m) hW1' (by omega) hrl (by omega)
  go_wp2_with fail
  go_quiet (fail)
  go_wp2_with fail
  refine (HRV _).mono ?_
  rintro e w2 ⟨rfl, rfl⟩
  go_wp2_with fail
  refine (HB1 _).mono ?_
  rintro e w2 ⟨rfl, hW2, hF2⟩
  go_wp2_with fail
  go_ret
  exact ⟨rfl, hW2, wtrans (hF1.drewN nq) hF2⟩

/-- What Put refuses. -/
def badP (L C : List Int) (s : Int) : Prop :=
  L.length ≠ C.length ∨ (L.length = C.length ∧ (s < 0 ∨ (L.length : Int) ≤ s)) ∨ (L.length = C.length ∧ 0 ≤ s ∧ s < L.length ∧ (L.getD s.toNat 0 < 1 ∨ 15 < L.getD s.toNat 0 ∨ (1 ≤ L.getD s.toNat 0 ∧ L.getD s.toNat 0 ≤ 15 ∧ 2 ^ (L.getD s.toNat 0).toNat ≤ C.getD s.toNat 0)))

set_option maxRecDepth 100000 in
set_option maxHeartbeats 3200000 in
theorem hput_bad (wb : Nat) (v cv : Value) (L C : List Int) (l : List Bool) (s : Int) (w : World) (h : WrIs w wb l) (hk : ∀ w', Fr (wS w wb) w w' → Ns .i64 w' v L ∧ Ns .u32 w' cv C)
    (hC : ∀ x ∈ C, 0 ≤ x ∧ x < 4294967296) (hbad : badP L C s) (hl : l.length ≤ 1125899906841800) :
    Calls Tryd.prog 46 #[.pointer (some ⟨wb, 0, none⟩), v, cv, .int .i64 s] w fun e w' => e = .returned (.int .i64 1) ∧ WrIs w' wb l ∧ Fr (wS w wb) w w' := by
  have HB0 := wbits_good wb 0 0 l w h (by omega) (by decide) (by omega)
  have hv0 := (hk w (Fr.refl _ _)).1
  have hcv0 := (hk w (Fr.refl _ _)).2
  obtain ⟨ao, acap, rfl, a1, a2, a4, _⟩ := hv0
  obtain ⟨bo, bcap, rfl, b1, b2, b4, _⟩ := hcv0
  have HK : Hid _ := hk
  clear hk
  unfold maxLen at a2 b2
  rcases hbad with hb | ⟨hLC, hb⟩ | ⟨hLC, hs0, hs1, hb⟩
  · have hne : ((L.length : Int) == (C.length : Int)) = false := by rw [beq_eq_false_iff_ne]; omega
    go_enter Tryd.func46, Tryd.ntmps46
    go_wp2_with fail
    refine HB0.mono ?_
    rintro e w1 ⟨rfl, hW1, hF1⟩
    go_wp2_with fail
    go_ret
    exact ⟨rfl, hW1.zero, hF1⟩
  · obtain ⟨N, hN1, hN2⟩ : ∃ N, L.length = N ∧ C.length = N := ⟨_, rfl, by omega⟩
    rw [hN1] at a1 hb
    rw [hN2] at b1
    rw [hN1, hN2]
    clear hN1 hN2 hLC
    rcases hb with hb | hb
    · go_enter Tryd.func46, Tryd.ntmps46
      go_wp2_with fail
      refine HB0.mono ?_
      rintro e w1 ⟨rfl, hW1, hF1⟩
      go_wp2_with fail
      go_ret
      exact ⟨rfl, hW1.zero, hF1⟩
    · have hs0 : ¬ s < 0 := by omega
      go_enter Tryd.func46, Tryd.ntmps46
      go_wp2_with fail
      refine HB0.mono ?_
      rintro e w1 ⟨rfl, hW1, hF1⟩
      go_wp2_with fail
      go_ret
      exact ⟨rfl, hW1.zero, hF1⟩
  · obtain ⟨sn, rfl⟩ := Int.eq_ofNat_of_zero_le hs0
    simp only [Int.toNat_natCast] at hb
    have hsl : sn < L.length := by omega
    have hsc : sn < C.length := by omega
    have hcr := hC _ (List.getElem_mem hsc)
    obtain ⟨N, hN1, hN2⟩ : ∃ N, L.length = N ∧ C.length = N := ⟨_, rfl, by omega⟩
    have HSL : Hid (sn < L.length) := hsl
    have HSC : Hid (sn < C.length) := hsc
    have hsN : sn < N := by omega
    rw [hN1] at a1
    rw [hN2] at b1
    rw [hN1, hN2]
    rw [← getD_int' C sn hsc] at hcr
    obtain ⟨x, hx⟩ : ∃ x, x = L.getD sn 0 := ⟨_, rfl⟩
    obtain ⟨y, hy⟩ : ∃ y, y = C.getD sn 0 := ⟨_, rfl⟩
    rw [← hx, ← hy] at hb
    rw [← hy] at hcr
    have HX : Hid (x = L.getD sn 0) := hx
    have HY : Hid (y = C.getD sn 0) := hy
    clear hN1 hN2 hLC hs1 hs0 hsl hsc hx hy
    go_enter Tryd.func46, Tryd.ntmps46
    go_wp2_with fail
    refine HB0.mono ?_
    rintro e w1 ⟨rfl, hW1, hF1⟩
    obtain ⟨n1, n2⟩ := HK.out w1 hF1
    have c1 : ∃ b off, ao = some ⟨b, off, none⟩ ∧ w1.cell? ⟨b, off + sn, none⟩ = some (.int .i64 x) := by
      obtain ⟨x1, x2, e1, _, _, _, e2⟩ := n1
      simp at e1
      obtain ⟨rfl, _⟩ := e1
      obtain ⟨b, off, e3, _, e4⟩ := NsAt.get e2 sn HSL.out
      rw [← getD_int' L sn HSL.out, ← HX.out] at e4
      exact ⟨b, off, e3, e4⟩
    have c2 : ∃ b off, bo = some ⟨b, off, none⟩ ∧ w1.cell? ⟨b, off + sn, none⟩ = some (.int .u32 y) := by
      obtain ⟨x1, x2, e1, _, _, _, e2⟩ := n2
      simp at e1
      obtain ⟨rfl, _⟩ := e1
      obtain ⟨b, off, e3, _, e4⟩ := NsAt.get e2 sn HSC.out
      rw [← getD_int' C sn HSC.out, ← HY.out] at e4
      exact ⟨b, off, e3, e4⟩
    obtain ⟨b, off, rfl, c1⟩ := c1
    obtain ⟨b', off', rfl, c2⟩ := c2
    have hW1' := hW1.zero
    clear n1 n2 hW1 HB0
    rcases hb with hb | hb | ⟨hb1, hb2, hb3⟩
    · go_wp2_with fail
      go_quiet (fail)
      go_wp2_with fail
      go_ret
      exact ⟨rfl, hW1', hF1.drewN nq⟩
    · have hb0 : ¬ x < 1 := by omega
      go_wp2_with fail
      go_quiet (fail)
      go_wp2_with fail
      go_ret
      exact ⟨rfl, hW1', hF1.drewN nq⟩
    · obtain ⟨xn, rfl⟩ := Int.eq_ofNat_of_zero_le (show 0 ≤ x by omega)
      obtain ⟨yn, rfl⟩ := Int.eq_ofNat_of_zero_le hcr.1
      simp only [Int.toNat_natCast] at hb3
      have hb4 : 2 ^ xn ≤ yn := by
        have : ((2 ^ xn : Nat) : Int) ≤ (yn : Int) := by simpa using hb3
        omega
      have hq : ¬ (yn : Int) / 2 ^ xn = 0 := by
        have : ((yn : Int) / 2 ^ xn) = ((yn / 2 ^ xn : Nat) : Int) := by simp
        rw [this]
        have := Nat.div_pos hb4 (Nat.pow_pos (by decide))
        omega
      have hq1 : ((yn : Int) / 2 ^ xn == 0) = false := by rw [beq_eq_false_iff_ne]; exact hq
      have hq2 : ((yn : Int) / 2 ^ xn != 0) = true := by rw [bne_iff_ne]; exact hq
      clear hb3 hb4
      go_wp2_with fail
      go_quiet (fail)
      go_wp2_with fail
      go_ret
      exact ⟨rfl, hW1', hF1.drewN nq⟩
#print axioms hput_bad
end Go.Proofs.YthgnhcdodfildaaDoor
