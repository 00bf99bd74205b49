/- The reader that goes through a reference's text: hold, skip, need, run. -/
import Derived.Test.YtdmjbhbiehjelaaGreatDoorK28
import Derived.Deep.RegionWith
import Derived.RegionTactic
namespace Go.Proofs.YtdmjbhbiehjelaaGreatDoor
open Go.RowKit Go.Shelf

theorem pre_one (s : ByteArray) (c p : Nat) (hp : p ≤ s.size) (hc : c < 256) : Lib.hasPrefix (s.extract p s.size).data.toList (⟨#[UInt8.ofNat c]⟩ : ByteArray).data.toList = isAt s c p := by
  unfold Lib.hasPrefix isAt
  have hz : (s.extract p s.size).size = s.size - p := by simp
  by_cases h : p < s.size
  · have hb := byt_tail s p 0 (by omega)
    rw [← byt_at _ 0 (by omega), Nat.add_zero] at hb
    have hl : (s.extract p s.size).data.toList = (s.extract p s.size)[0]'(by omega) :: (s.extract p s.size).data.toList.drop 1 := by
      have hl0 : 0 < (s.extract p s.size).data.toList.length := by simp; omega
      conv => lhs; rw [← List.drop_zero (l := (s.extract p s.size).data.toList), List.drop_eq_getElem_cons hl0]
      rfl
    rw [hl, decide_eq_true h, ← hb]
    generalize (s.extract p s.size)[0]'(by omega) = b
    show (UInt8.ofNat c == b && true) = (true && (b.toNat == c))
    rw [Bool.and_true, Bool.true_and, Bool.eq_iff_iff, beq_iff_eq, beq_iff_eq]
    constructor
    · intro e; rw [← e, UInt8.toNat_ofNat']; omega
    · intro e; rw [← e]; exact UInt8.ofNat_toNat
  · have hl : (s.extract p s.size).data.toList = [] := by
      have : (s.extract p s.size).data.toList.length = 0 := by simp; omega
      exact List.length_eq_zero_iff.1 this
    rw [hl, decide_eq_false h]
    rfl
theorem hasPre_any (s t : ByteArray) (w : World) : Calls Tryz.prog 142 #[.string s, .string t] w fun e w' => e = .returned (.bool (Lib.hasPrefix s.data.toList t.data.toList)) ∧ w' = w :=
  Any.strings_HasPrefix Tryz.laysLaysn99 s t w
end Go.Proofs.YtdmjbhbiehjelaaGreatDoor
/- run: as far as characters of a kind go. -/
namespace Go.Proofs.YtdmjbhbiehjelaaGreatDoor
open Go.RowKit Go.Shelf

/-- The index that IndexFunc tells, in words of the kind's end. -/
theorem idx_end (K : Nat → Bool) (c : Bool) (hk : Kin K K c) (s : ByteArray) : ∀ (f pos : Nat), s.size ≤ pos + f → pos ≤ s.size → Lib.idxFuncFrom (fun r => !(K r)) true s f pos = (if endK K s pos < s.size then (endK K s pos : Int) else -1)
  | 0, pos, h1, h2 => by
    rw [Lib.idxFuncFrom_end _ _ _ _ _ (by omega), endK_stop K s pos (by omega), if_neg (by omega)]
  | f + 1, pos, h1, h2 => by
    by_cases hp : pos < s.size
    · have hwd := width_pos s pos hp
      have hwf := width_fits s pos hp
      simp only [Lib.idxFuncFrom, hp, if_true]
      rcases Bool.eq_false_or_eq_true (K (Utf8.decode s pos).1) with hc | hc
      · have e := kin_yes hk s pos hp hc
        rw [e, if_neg (by rw [hc]; simp)]
        exact idx_end K c hk s f (pos + (Utf8.decode s pos).2) (by omega) hwf
      · have e := (kin_no hk s pos hp hc).1
        rw [e, if_pos (by rw [hc]; rfl), if_pos hp]
    · rw [Lib.idxFuncFrom_end _ _ _ _ _ hp, endK_stop K s pos (by omega), if_neg (by omega)]
theorem tail_end (K : Nat → Bool) (s : ByteArray) (p : Nat) (hp : p ≤ s.size) : ∃ m, endK K (s.extract p s.size) 0 = m ∧ p + m = endK K s p ∧ p + m ≤ s.size ∧ (s.extract p s.size).size = s.size - p ∧ (s.extract p s.size).extract 0 m = s.extract p (endK K s p) := by
  have h1 := endK_tail K s p hp
  have hz : (s.extract p s.size).size = s.size - p := by simp
  have h2 := endK_le K (s.extract p s.size) 0 (Nat.zero_le _)
  refine ⟨_, rfl, h1, by omega, hz, ?_⟩
  rw [← h1]
  apply ByteArray.ext
  rw [ByteArray.data_extract, ByteArray.data_extract, ByteArray.data_extract, Array.extract_extract]
  congr 1
  omega
end Go.Proofs.YtdmjbhbiehjelaaGreatDoor
/- Columns, rows and names that the reader reads: where all is well, and where something is not. -/
namespace Go.Proofs.YtdmjbhbiehjelaaGreatDoor
open Go.RowKit Go.Shelf

end Go.Proofs.YtdmjbhbiehjelaaGreatDoor
/- Rows that the reader reads. -/
namespace Go.Proofs.YtdmjbhbiehjelaaGreatDoor
open Go.RowKit Go.Shelf

theorem bytesWorld_fr_r (w : World) (t : TypeId) (l : ByteArray) : Fr noB w (Lib.bytesWorld w t l) :=
  ⟨rfl, rfl, rfl, by rw [Lib.bytesWorld_size]; omega, fun k hk _ => Lib.bytesWorld_at_old w t l k hk⟩
/-- The two errors of strconv lie where they are laid. -/
structure ETab (w : World) : Prop where
  s : ∃ te pe, w.cell? ⟨7, 0, none⟩ = some (.iface te pe)
  r : ∃ te pe, w.cell? ⟨8, 0, none⟩ = some (.iface te pe)
theorem lt_of_cell {w : World} {a : Addr} {v : Value} (h : w.cell? a = some v) : a.block < w.heap.size := by
  rcases Nat.lt_or_ge a.block w.heap.size with h' | h'
  · exact h'
  · simp [World.cell?, Array.getElem?_eq_none h'] at h
theorem ETab.fr {w w' : World} {S : Nat → Prop} (h : ETab w) (hF : Fr S w w') (h4 : ¬ S 7) (h5 : ¬ S 8) : ETab w' := by
  obtain ⟨⟨a, b, h1⟩, ⟨c, d, h2⟩⟩ := h
  exact ⟨⟨a, b, (hF.cell (lt_of_cell h1) h4).trans h1⟩, ⟨c, d, (hF.cell (lt_of_cell h2) h5).trans h2⟩⟩
theorem atoi_ok (t : ByteArray) (v : Int) (hl : t.size ≤ 140737488355328) (h : Lib.atoiAll t.data.toList = .ok v) (w : World) : Calls Tryz.prog 87 #[.string t] w fun e w' => e = .returned (.tuple #[.int .i64 v, .nilIface]) ∧ Fr noB w w' := by
  refine (show Calls Tryz.prog 87 _ w _ from Any.strconv_Atoi_ok Tryz.laysLaysCn172 t (by omega) v h w).mono ?_
  rintro e w' ⟨rfl, rfl | ⟨t, rfl⟩⟩
  · exact ⟨rfl, Fr.refl _ _⟩
  · exact ⟨rfl, bytesWorld_fr_r _ _ _⟩
theorem atoi_no (t : ByteArray) (hl : t.size ≤ 140737488355328) (h : ∀ v, Lib.atoiAll t.data.toList ≠ .ok v) (w : World) (hE : ETab w) : Calls Tryz.prog 87 #[.string t] w fun e w' => ∃ (x : Int) (te : TypeId) (pe : Value), e = .returned (.tuple #[.int .i64 x, .iface te pe]) ∧ Fr noB w w' := by
  obtain ⟨⟨a, b, h1⟩, ⟨c, d, h2⟩⟩ := hE
  cases ha : Lib.atoiAll t.data.toList with
  | ok v => exact absurd ha (h v)
  | «syntax» =>
    refine (show Calls Tryz.prog 87 _ w _ from Any.strconv_Atoi_syntax Tryz.laysLaysCn172 t (by omega) ha _ w h1 (Or.inr ⟨_, _, rfl⟩)).mono ?_
    rintro e w' ⟨N, rfl, _, _, hB⟩
    exact ⟨_, _, _, rfl, Fr.ofBelow hB⟩
  | range =>
    refine (show Calls Tryz.prog 87 _ w _ from Any.strconv_Atoi_range Tryz.laysLaysCn172 t (by omega) ha _ w h2 (Or.inr ⟨_, _, rfl⟩)).mono ?_
    rintro e w' ⟨N, rfl, _, _, hB⟩
    exact ⟨_, _, _, rfl, Fr.ofBelow hB⟩
theorem pu_ge : ∀ (l : List UInt8) (a u : Nat), Lib.parseUint10 a l = .ok u → a ≤ u
  | [], a, u, h => by
    simp only [Lib.parseUint10] at h
    injection h with h
    omega
  | c :: r, a, u, h => by
    simp only [Lib.parseUint10] at h
    split at h
    · split at h
      · cases h
      · split at h
        · cases h
        · have := pu_ge r _ u h
          omega
    · cases h
/-- The number that digits spell. -/
theorem atoi_digits (c : UInt8) (r : List UInt8) (hc : 48 ≤ c.toNat ∧ c.toNat ≤ 57) (v : Int) (h : Lib.atoiAll (c :: r) = .ok v) : ((c.toNat - 48 : Nat) : Int) ≤ v := by
  unfold Lib.atoiAll at h
  have e1 : ¬ (c.toNat = 43 ∨ c.toNat = 45) := by omega
  have e2 : ¬ c.toNat = 45 := by omega
  have e3 : ¬ c.toNat = 43 := by omega
  simp only [e3, e2, or_self, not_false_eq_true, true_and, false_and, if_false] at h
  split at h
  · cases h
  · cases h
  · rename_i u hu
    unfold Lib.parseMag at hu
    rw [if_neg (by simp)] at hu
    simp only [Lib.parseUint10, hc, and_self, if_true] at hu
    split at hu
    · cases hu
    · split at hu
      · cases hu
      · have := pu_ge r _ u hu
        split at h
        · cases h
        · cases h
          omega
theorem ext_head (t : ByteArray) (h : 0 < t.size) : t.data.toList = (t[0]'h) :: t.data.toList.drop 1 := by
  have hl0 : 0 < t.data.toList.length := by simpa using h
  conv => lhs; rw [← List.drop_zero (l := t.data.toList), List.drop_eq_getElem_cons hl0]
  rfl
theorem ext_byt (s : ByteArray) (p q i : Nat) (hq : q ≤ s.size) (h : p + i < q) : byt (s.extract p q) i = byt s (p + i) := by
  rw [← byt_at (s.extract p q) i (by simp; omega), ← byt_at s (p + i) (by omega), ByteArray.getElem_extract]
/-- What a row's digits say, where it is a row. -/
theorem rowF_ok {s : ByteArray} {p n : Nat} (hp : p ≤ s.size) (h : rowF (s.extract p (endK digK s p)) = some n) : ∃ c, Lib.atoiAll (s.extract p (endK digK s p)).data.toList = .ok ((n : Int) + 1) ∧ n < 1048576 ∧ 0 < (s.extract p (endK digK s p)).size ∧ (∀ hh, ((s.extract p (endK digK s p))[0]'hh).toNat = c) ∧ c ≠ 48 ∧ c < 256 := by
  have hle := endK_le digK s p hp
  have hge := endK_ge digK s p
  have hall := endK_all digK s p
  have hlt := rowF_lt h
  have hsz : (s.extract p (endK digK s p)).size = endK digK s p - p := by simp; omega
  have hb := ext_byt s p (endK digK s p) 0 hle
  generalize hT : s.extract p (endK digK s p) = t at *
  unfold rowF at h
  split at h
  · rename_i v hv
    split at h
    · rename_i hc
      by_cases h0 : 0 < t.size
      · have hbt := byt_at t 0 h0
        have hd := hall p (Nat.le_refl _) (by omega)
        rw [hb (by omega), Nat.add_zero] at hbt
        have hd2 : 48 ≤ byt s p ∧ byt s p ≤ 57 := by simpa [digK] using hd
        rw [hb (by omega), Nat.add_zero] at hc
        have hv1 : (1 : Int) ≤ v := by
          rw [ext_head t h0] at hv
          have := atoi_digits _ _ (by rw [hbt]; exact hd2) v hv
          rw [hbt] at this
          omega
        have hvn : (((v - 1).toNat : Nat) : Int) + 1 = v := by omega
        cases h
        refine ⟨byt s p, by rw [hvn]; exact hv, hlt, h0, fun _ => hbt, hc.2, byt_lt s p⟩
      · exfalso
        have hz0 : t.size = 0 := by omega
        have : t.data.toList = [] := List.length_eq_zero_iff.1 (by simpa using hz0)
        rw [this] at hv
        simp [Lib.atoiAll] at hv
    · cases h
  · cases h
end Go.Proofs.YtdmjbhbiehjelaaGreatDoor
