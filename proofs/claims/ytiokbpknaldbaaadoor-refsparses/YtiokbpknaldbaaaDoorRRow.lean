/- Rows that the reader reads. -/
import Derived.Test.YtiokbpknaldbaaaDoorRMet
namespace Go.Proofs.YtiokbpknaldbaaaDoor
open Go.RowKit Go.Shelf

theorem bytesWorld_fr (w : World) (t : TypeId) (l : ByteArray) : Fr noB w (Lib.bytesWorld w t l) :=
  ⟨rfl, rfl, rfl, by rw [Lib.bytesWorld_size]; omega, fun k hk _ => Lib.bytesWorld_at_old w t l k hk⟩
/-- The two errors of strconv lie where they are laid. -/
structure ETab (w : World) : Prop where
  s : ∃ te pe, w.cell? ⟨2, 0, none⟩ = some (.iface te pe)
  r : ∃ te pe, w.cell? ⟨3, 0, none⟩ = some (.iface te pe)
theorem lt_of_cell {w : World} {a : Addr} {v : Value} (h : w.cell? a = some v) : a.block < w.heap.size := by
  rcases Nat.lt_or_ge a.block w.heap.size with h' | h'
  · exact h'
  · simp [World.cell?, Array.getElem?_eq_none h'] at h
theorem ETab.fr {w w' : World} {S : Nat → Prop} (h : ETab w) (hF : Fr S w w') (h4 : ¬ S 2) (h5 : ¬ S 3) : ETab w' := by
  obtain ⟨⟨a, b, h1⟩, ⟨c, d, h2⟩⟩ := h
  exact ⟨⟨a, b, (hF.cell (lt_of_cell h1) h4).trans h1⟩, ⟨c, d, (hF.cell (lt_of_cell h2) h5).trans h2⟩⟩
theorem atoi_ok (t : ByteArray) (v : Int) (hl : t.size ≤ 140737488355328) (h : Lib.atoiAll t.data.toList = .ok v) (w : World) : Calls Tryd.prog 57 #[.string t] w fun e w' => e = .returned (.tuple #[.int .i64 v, .nilIface]) ∧ Fr noB w w' := by
  refine (show Calls Tryd.prog 57 _ w _ from Any.strconv_Atoi_ok Tryd.laysLaysCn172 t (by omega) v h w).mono ?_
  rintro e w' ⟨rfl, rfl | ⟨t, rfl⟩⟩
  · exact ⟨rfl, Fr.refl _ _⟩
  · exact ⟨rfl, bytesWorld_fr _ _ _⟩
theorem atoi_no (t : ByteArray) (hl : t.size ≤ 140737488355328) (h : ∀ v, Lib.atoiAll t.data.toList ≠ .ok v) (w : World) (hE : ETab w) : Calls Tryd.prog 57 #[.string t] w fun e w' => ∃ (x : Int) (te : TypeId) (pe : Value), e = .returned (.tuple #[.int .i64 x, .iface te pe]) ∧ Fr noB w w' := by
  obtain ⟨⟨a, b, h1⟩, ⟨c, d, h2⟩⟩ := hE
  cases ha : Lib.atoiAll t.data.toList with
  | ok v => exact absurd ha (h v)
  | «syntax» =>
    refine (show Calls Tryd.prog 57 _ w _ from Any.strconv_Atoi_syntax Tryd.laysLaysCn172 t (by omega) ha _ w h1 (Or.inr ⟨_, _, rfl⟩)).mono ?_
    rintro e w' ⟨N, rfl, _, _, hB⟩
    exact ⟨_, _, _, rfl, Fr.ofBelow hB⟩
  | range =>
    refine (show Calls Tryd.prog 57 _ w _ from Any.strconv_Atoi_range Tryd.laysLaysCn172 t (by omega) ha _ w h2 (Or.inr ⟨_, _, rfl⟩)).mono ?_
    rintro e w' ⟨N, rfl, _, _, hB⟩
    exact ⟨_, _, _, rfl, Fr.ofBelow hB⟩
theorem pu_ge : ∀ (l : List UInt8) (a u : Nat), Lib.parseUint10 a l = .ok u → a ≤ u
  | [], a, u, h => by
    simp only [Lib.parseUint10] at h
    injection h with h
    omega
  | c :: r, a, u, h => by
    simp only [Lib.parseUint10] at h
    split at h
    · split at h
      · cases h
      · split at h
        · cases h
        · have := pu_ge r _ u h
          omega
    · cases h
/-- The number that digits spell. -/
theorem atoi_digits (c : UInt8) (r : List UInt8) (hc : 48 ≤ c.toNat ∧ c.toNat ≤ 57) (v : Int) (h : Lib.atoiAll (c :: r) = .ok v) : ((c.toNat - 48 : Nat) : Int) ≤ v := by
  unfold Lib.atoiAll at h
  have e1 : ¬ (c.toNat = 43 ∨ c.toNat = 45) := by omega
  have e2 : ¬ c.toNat = 45 := by omega
  have e3 : ¬ c.toNat = 43 := by omega
  simp only [e3, e2, or_self, not_false_eq_true, true_and, false_and, if_false] at h
  split at h
  · cases h
  · cases h
  · rename_i u hu
    unfold Lib.parseMag at hu
    rw [if_neg (by simp)] at hu
    simp only [Lib.parseUint10, hc, and_self, if_true] at hu
    split at hu
    · cases hu
    · split at hu
      · cases hu
      · have := pu_ge r _ u hu
        split at h
        · cases h
        · cases h
          omega
theorem ext_head (t : ByteArray) (h : 0 < t.size) : t.data.toList = (t[0]'h) :: t.data.toList.drop 1 := by
  have hl0 : 0 < t.data.toList.length := by simpa using h
  conv => lhs; rw [← List.drop_zero (l := t.data.toList), List.drop_eq_getElem_cons hl0]
  rfl
theorem ext_byt (s : ByteArray) (p q i : Nat) (hq : q ≤ s.size) (h : p + i < q) : byt (s.extract p q) i = byt s (p + i) := by
  rw [← byt_at (s.extract p q) i (by simp; omega), ← byt_at s (p + i) (by omega), ByteArray.getElem_extract]
/-- What a row's digits say, where it is a row. -/
theorem rowF_ok {s : ByteArray} {p n : Nat} (hp : p ≤ s.size) (h : rowF (s.extract p (endK digK s p)) = some n) : ∃ c, Lib.atoiAll (s.extract p (endK digK s p)).data.toList = .ok ((n : Int) + 1) ∧ n < 1048576 ∧ 0 < (s.extract p (endK digK s p)).size ∧ (∀ hh, ((s.extract p (endK digK s p))[0]'hh).toNat = c) ∧ c ≠ 48 ∧ c < 256 := by
  have hle := endK_le digK s p hp
  have hge := endK_ge digK s p
  have hall := endK_all digK s p
  have hlt := rowF_lt h
  have hsz : (s.extract p (endK digK s p)).size = endK digK s p - p := by simp; omega
  have hb := ext_byt s p (endK digK s p) 0 hle
  generalize hT : s.extract p (endK digK s p) = t at *
  unfold rowF at h
  split at h
  · rename_i v hv
    split at h
    · rename_i hc
      by_cases h0 : 0 < t.size
      · have hbt := byt_at t 0 h0
        have hd := hall p (Nat.le_refl _) (by omega)
        rw [hb (by omega), Nat.add_zero] at hbt
        have hd2 : 48 ≤ byt s p ∧ byt s p ≤ 57 := by simpa [digK] using hd
        rw [hb (by omega), Nat.add_zero] at hc
        have hv1 : (1 : Int) ≤ v := by
          rw [ext_head t h0] at hv
          have := atoi_digits _ _ (by rw [hbt]; exact hd2) v hv
          rw [hbt] at this
          omega
        have hvn : (((v - 1).toNat : Nat) : Int) + 1 = v := by omega
        cases h
        refine ⟨byt s p, by rw [hvn]; exact hv, hlt, h0, fun _ => hbt, hc.2, byt_lt s p⟩
      · exfalso
        have hz0 : t.size = 0 := by omega
        have : t.data.toList = [] := List.length_eq_zero_iff.1 (by simpa using hz0)
        rw [this] at hv
        simp [Lib.atoiAll] at hv
    · cases h
  · cases h
set_option maxRecDepth 100000 in
set_option maxHeartbeats 2000000 in
theorem rrow_ok (rb : Nat) (s : ByteArray) (p n q : Nat) (w : World) (h : RdAt w rb s p) (hp : p ≤ s.size) (hz : s.size ≤ 140737488355328) (hc : roA s p = .ok (n, q)) :
    Calls Tryd.prog 46 #[.pointer (some ⟨rb, 0, none⟩)] w fun e w' => e = .returned (.int .i64 (n : Int)) ∧ RdAt w' rb s q ∧ Fr (oneB rb) w w' := by
  have d1 := h.c1
  have H1 := run_dig rb s p w h hp hz
  have hle := endK_le digK s p hp
  unfold roA at hc
  split at hc
  case h_2 => cases hc
  rename_i m hm
  cases hc
  obtain ⟨c, e1, e2, e3, e4, e5, e6⟩ := rowF_ok hp hm
  have H2 := atoi_ok (s.extract p (endK digK s p)) _ (by simp; omega) e1
  have HH := hold_ok
  clear hm h e1
  generalize s.extract p (endK digK s p) = t at *
  generalize endK digK s p = q at *
  have g1 : ((n : Int) + 1) ≤ 1048576 := by omega
  have g2 : ¬ (c : Int) = 48 := by omega
  have g3 : (0 : Int) < (t.size : Int) := by omega
  have g2b : ((c : Int) != 48) = true := by simpa using g2
  have g4 : ((n : Int) + 1) - 1 = (n : Int) := by omega
  clear hp hle hz
  go_enter Tryd.func46, Tryd.ntmps46
  go_wp2_with (first | (go_at_call 49; with_reducible refine H1.mono ?_; rintro e w1 ⟨rfl, hR, hF1⟩) | (go_at_call 57; with_reducible refine (H2 _).mono ?_; rintro e w2 ⟨rfl, hF2⟩) | (go_at_call 30; with_reducible refine (HH _ _ _).mono ?_; rintro e w3 ⟨rfl, rfl⟩))
  go_ret
  exact ⟨rfl, hR.fr hF2 id, hF1.trans hF2.weak⟩
set_option maxRecDepth 100000 in
set_option maxHeartbeats 2000000 in
theorem rrow_no (rb : Nat) (s : ByteArray) (p a : Nat) (c : Int) (w : World) (h : RdAt w rb s p) (hE : ETab w) (hb1 : ¬ rb = 2) (hb2 : ¬ rb = 3) (hp : p ≤ s.size) (hz : s.size ≤ 140737488355328) (hc : roA s p = .error (a, c)) :
    Calls Tryd.prog 46 #[.pointer (some ⟨rb, 0, none⟩)] w fun e w' => e = thr a c ∧ Fr (oneB rb) w w' := by
  have d1 := h.c1
  have H1 := run_dig rb s p w h hp hz
  have hle := endK_le digK s p hp
  unfold roA at hc
  split at hc
  case h_1 => cases hc
  rename_i hm
  cases hc
  have hts : (s.extract p (endK digK s p)).size ≤ 140737488355328 := by simp; omega
  have HH := hold_no p 110
  have HE : Hid (ETab w) := hE
  have HB : Hid (∀ w1, Fr (oneB rb) w w1 → ETab w1) := fun w1 hF => HE.out.fr hF (fun e => hb1 e.symm) (fun e => hb2 e.symm)
  clear h hE hp hle hz
  generalize s.extract p (endK digK s p) = t at *
  generalize endK digK s p = q at *
  by_cases hv : ∃ v, Lib.atoiAll t.data.toList = .ok v
  · obtain ⟨v, hv⟩ := hv
    have H2 := atoi_ok t v hts hv
    unfold rowF at hm
    rw [hv] at hm
    simp only at hm
    by_cases g1 : v ≤ 1048576
    · have h0 : 0 < t.size := by
        rcases Nat.lt_or_ge 0 t.size with h | h
        · exact h
        · exfalso
          have hz0 : t.size = 0 := by omega
          have : t.data.toList = [] := List.length_eq_zero_iff.1 (by simpa using hz0)
          rw [this] at hv
          simp [Lib.atoiAll] at hv
      have h48 : byt t 0 = 48 := by
        rcases Nat.decEq (byt t 0) 48 with h | h
        · rw [if_pos ⟨g1, h⟩] at hm; cases hm
        · exact h
      have e4 : ∀ hh, ((t[0]'hh).toNat) = 48 := fun hh => (byt_at t 0 hh).trans h48
      have g3 : (0 : Int) < (t.size : Int) := by omega
      clear hm hv h48
      go_enter Tryd.func46, Tryd.ntmps46
      go_wp2_with (first | (go_at_call 49; with_reducible refine H1.mono ?_; rintro e w1 ⟨rfl, hR, hF1⟩) | (go_at_call 57; with_reducible refine (H2 _).mono ?_; rintro e w2 ⟨rfl, hF2⟩) | (go_at_call 30; refine (HH _).mono ?_; rintro e w3 ⟨rfl, rfl⟩; exact ⟨rfl, rfl, hF1.trans hF2.weak⟩))
    · clear hm hv
      go_enter Tryd.func46, Tryd.ntmps46
      go_wp2_with (first | (go_at_call 49; with_reducible refine H1.mono ?_; rintro e w1 ⟨rfl, hR, hF1⟩) | (go_at_call 57; with_reducible refine (H2 _).mono ?_; rintro e w2 ⟨rfl, hF2⟩) | (go_at_call 30; refine (HH _).mono ?_; rintro e w3 ⟨rfl, rfl⟩; exact ⟨rfl, rfl, hF1.trans hF2.weak⟩))
  · have H2 : ∀ w1, ETab w1 → _ := fun w1 hE1 => atoi_no t hts (fun v e => hv ⟨v, e⟩) w1 hE1
    clear hm hv
    go_enter Tryd.func46, Tryd.ntmps46
    go_wp2_with (first | (go_at_call 49; with_reducible refine H1.mono ?_; rintro e w1 ⟨rfl, hR, hF1⟩) | (go_at_call 57; with_reducible refine (H2 _ (HB.out _ hF1)).mono ?_; rintro e w2 ⟨x, te, pe, rfl, hF2⟩) | (go_at_call 30; refine (HH _).mono ?_; rintro e w3 ⟨rfl, rfl⟩; exact ⟨rfl, rfl, hF1.trans hF2.weak⟩))
#print axioms rrow_no
#print axioms rrow_ok
end Go.Proofs.YtiokbpknaldbaaaDoor
