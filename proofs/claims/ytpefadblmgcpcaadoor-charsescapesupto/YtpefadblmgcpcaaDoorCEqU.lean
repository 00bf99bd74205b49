/- Unescape: the program's way and the document's are one; CharsEscapes: the law's walk. -/
import Derived.Test.YtpefadblmgcpcaaDoorCEqN
import Derived.Test.YtpefadblmgcpcaaDoorCLiv
namespace Go.Proofs.YtpefadblmgcpcaaDoor
open Go.RowKit Go.Shelf

/-- Both readings agree. -/
def Agr (S : ByteArray) (r : ByteArray × Int × Bool) (f : Int × Bool) : Prop := ((idxF S 59 = -1 ∨ f.2 = false) → r.2.2 = false) ∧ (¬ (idxF S 59 = -1 ∨ f.2 = false) → r.2.2 = true ∧ r.1.data.toList = Lib.encodeRune f.1 ∧ r.2.1 = ((insS S).size : Int) + 1)
theorem agr_name (S : ByteArray) (l : List UInt8) (c : Nat) (r : ByteArray × Int × Bool) (f : Int × Bool) (hl : ∀ x ∈ l, x ≠ 59) (henc : Lib.encodeRune (c : Int) = [UInt8.ofNat c]) (n : Int) (hn : n = (l.length : Int) + 1) (h : Agr S r f) :
    Agr S (if bg S (l ++ [59]) then (⟨#[UInt8.ofNat c]⟩, n, true) else r) (if (insS S).toList == l then ((c : Int), true) else f) := by
  by_cases hh : idxF S 59 = (l.length : Int) ∧ (insS S).toList = l
  · rw [if_pos ((bg_iff S l hl).2 hh), if_pos (by simpa using hh.2)]
    refine ⟨?_, fun _ => ⟨rfl, henc.symm, ?_⟩⟩
    · rintro (e | e)
      · omega
      · cases e
    · have : (insS S).size = l.length := by rw [← hh.2, ByteArray.toList_eq]; simp
      rw [hn, this]
  · rw [bg_false S l hl hh]
    simp only [Bool.false_eq_true, if_false]
    by_cases hix : idxF S 59 = -1
    · exact ⟨fun _ => h.1 (Or.inl hix), fun e => absurd (Or.inl hix) e⟩
    · have hb : ((insS S).toList == l) = false := by
        cases e : ((insS S).toList == l) with
        | false => rfl
        | true =>
          have e' : (insS S).toList = l := by simpa using e
          rcases idxF_cases S 59 with ⟨h1, _⟩ | ⟨i, h1, h2, _, _⟩
          · exact absurd h1 hix
          · have hs : (insS S).size = i := by unfold insS; rw [h1]; simp; omega
            have : (insS S).size = l.length := by rw [← e', ByteArray.toList_eq]; simp
            exact absurd ⟨by omega, e'⟩ hh
      rw [hb]
      exact h
theorem ref_eq (S : ByteArray) : Agr S (rf0 S) (refF (insS S)) :=
  agr_name S [97, 109, 112] 38 _ _ (by decide) (by decide +kernel) 4 (by decide)
    (agr_name S [108, 116] 60 _ _ (by decide) (by decide +kernel) 3 (by decide)
      (agr_name S [103, 116] 62 _ _ (by decide) (by decide +kernel) 3 (by decide)
        (agr_name S [113, 117, 111, 116] 34 _ _ (by decide) (by decide +kernel) 5 (by decide)
          (agr_name S [97, 112, 111, 115] 39 _ _ (by decide) (by decide +kernel) 5 (by decide) (hash_eq S)))))
theorem unR_copy (s : ByteArray) (d : Nat) (acc : List UInt8) : ∀ (n f i : Nat), d ≤ i → i + n ≤ s.size → (∀ j, i ≤ j → j < i + n → (s.get! j).toNat ≠ 38) → n ≤ f → unR s f i (acc ++ cutB s d i) = unR s (f - n) (i + n) (acc ++ cutB s d (i + n)) := by
  intro n
  induction n with
  | zero => intro f i _ _ _ _; rfl
  | succ n ih =>
    intro f i h1 h2 h3 h4
    obtain ⟨f', rfl⟩ : ∃ f', f = f' + 1 := ⟨f - 1, by omega⟩
    rw [unR, if_pos (by omega), if_neg (h3 i (Nat.le_refl _) (by omega)), List.append_assoc, ← cutB_more s d i h1 (by omega), ih f' (i + 1) (by omega) (by omega) (fun j a b => h3 j (by omega) (by omega)) (by omega), show f' + 1 - (n + 1) = f' - n by omega, show i + 1 + n = i + (n + 1) by omega]
theorem unR_end (s : ByteArray) (f i : Nat) (acc : List UInt8) (h : ¬ i < s.size) : unR s f i acc = (acc, 0, 0) := by
  cases f with
  | zero => rfl
  | succ f => rw [unR, if_neg h]
/-- From a place on, with what was gathered, both come to the same. -/
theorem un_eq (s : ByteArray) : ∀ (m pos d f : Nat) (acc : List UInt8), s.size - pos ≤ m → pos ≤ s.size → d ≤ s.size → s.size < max pos d + f → (∀ q, pos ≤ q → q < d → (s.get! q).toNat ≠ 38) → (pos < d → (s.get! (d - 1)).toNat < 128) →
    unL s (runs s pos) d acc = unR s f (max pos d) (acc ++ cutB s d (max pos d)) := by
  intro m
  induction m with
  | zero =>
    intro pos d f acc h1 h2 h3 h4 h5 h6
    have hp : pos = s.size := by omega
    subst hp
    rw [runs_end s _ (by omega), unL, Nat.max_eq_left h3, unR_end s f _ _ (by omega)]
  | succ m ih =>
    intro pos d f acc h1 h2 h3 h4 h5 h6
    by_cases hp : pos < s.size
    · have hwd := width_pos s pos hp
      have hwf := width_fits s pos hp
      have hcont := cont_high s pos
      have hlow := dec_low s pos
      rw [runs_step s pos hp]
      simp only [unL]
      by_cases hr : (Utf8.decode s pos).1 = 38
      · obtain ⟨ha, hb, hc⟩ := hlow (by omega)
        have h38 : (s.get! pos).toNat = 38 := by rw [← hb]; exact hr
        have hdp : d ≤ pos := by
          rcases Nat.lt_or_ge pos d with h | h
          · exact absurd h38 (h5 pos (Nat.le_refl _) h)
          · exact h
        rw [if_pos hr, hc, Nat.max_eq_left hdp]
        obtain ⟨f', rfl⟩ : ∃ f', f = f' + 1 := ⟨f - 1, by omega⟩
        rw [unR, if_pos hp, if_pos h38]
        have hS := tail_size s (pos + 1)
        obtain ⟨r1, r2⟩ := ref_eq (s.extract (pos + 1) s.size)
        have hins : insF s pos = insS (s.extract (pos + 1) s.size) := rfl
        rw [hins]
        by_cases hbad : idxF (s.extract (pos + 1) s.size) 59 = -1 ∨ (refF (insS (s.extract (pos + 1) s.size))).2 = false
        · rw [if_pos hbad, r1 hbad, if_neg (by decide)]
        · rw [if_neg hbad]
          obtain ⟨e1, e2, e3⟩ := r2 hbad
          rw [e1, if_pos rfl, e2, e3]
          rcases idxF_cases (s.extract (pos + 1) s.size) 59 with ⟨hx, _⟩ | ⟨i, hix, hil, h59, _⟩
          · exact absurd (Or.inl hx) hbad
          · have hI : insS (s.extract (pos + 1) s.size) = (s.extract (pos + 1) s.size).extract 0 i := by unfold insS; rw [hix]; rfl
            have hIs : (insS (s.extract (pos + 1) s.size)).size = i := by rw [hI]; simp; omega
            have hok : (refF (insS (s.extract (pos + 1) s.size))).2 = true := by
              cases e : (refF (insS (s.extract (pos + 1) s.size))).2 with
              | true => rfl
              | false => exact absurd (Or.inr e) hbad
            obtain ⟨_, hno⟩ := refF_no _ hok
            have h59s : s.get! (pos + 1 + i) = 59 := by rw [← tail_get]; exact h59
            rw [hIs]
            rw [show pos + (((i : Nat) : Int) + 1 + 1).toNat = pos + 1 + i + 1 by omega]
            have hih := ih (pos + 1) (pos + 1 + i + 1) f' (acc ++ cutB s d pos ++ Lib.encodeRune (refF (insS (s.extract (pos + 1) s.size))).1) (by omega) (by omega) (by omega) (by omega) (fun q q1 q2 => by
                by_cases hq : q = pos + 1 + i
                · rw [hq, h59s]; decide
                · have := hno (q - (pos + 1)) (by rw [hIs]; omega)
                  rw [hI, ext_get _ 0 i _ (by omega) (by omega), tail_get, show pos + 1 + (0 + (q - (pos + 1))) = q by omega] at this
                  exact this) (fun _ => by rw [show pos + 1 + i + 1 - 1 = pos + 1 + i by omega, h59s]; decide)
            rw [Nat.max_eq_right (by omega), cutB_same, List.append_nil] at hih
            exact hih
      · rw [if_neg hr]
        have hnb : ∀ j, pos ≤ j → j < pos + (Utf8.decode s pos).2 → (s.get! j).toNat ≠ 38 := by
          intro j j1 j2 e
          by_cases ej : j = pos
          · subst ej
            rw [dec_ascii s j (by omega)] at hr
            exact hr e
          · have := hcont j (by omega) j2
            omega
        by_cases hd1 : d ≤ pos
        · rw [Nat.max_eq_left hd1] at h4 ⊢
          rw [unR_copy s d acc (Utf8.decode s pos).2 f pos hd1 hwf hnb (by omega)]
          have hih := ih (pos + (Utf8.decode s pos).2) d (f - (Utf8.decode s pos).2) acc (by omega) hwf h3 (by omega) (fun q q1 q2 => by omega) (fun h => by omega)
          rw [Nat.max_eq_left (by omega)] at hih
          exact hih
        · have hd2 : pos + (Utf8.decode s pos).2 ≤ d := by
            rcases Nat.lt_or_ge d (pos + (Utf8.decode s pos).2) with h | h
            · have h7 := h6 (by omega)
              by_cases e : d - 1 = pos
              · rw [e] at h7
                rw [dec_ascii s pos h7] at h
                simp only at h
                omega
              · have := hcont (d - 1) (by omega) (by omega)
                omega
            · exact h
          have hih := ih (pos + (Utf8.decode s pos).2) d f acc (by omega) hwf h3 (by omega) (fun q q1 q2 => h5 q (by omega) q2) (fun _ => h6 (by omega))
          rw [Nat.max_eq_right hd2] at hih
          rw [Nat.max_eq_right (by omega)]
          exact hih
    · have hpe : pos = s.size := by omega
      subst hpe
      rw [runs_end s _ hp, unL, Nat.max_eq_left h3, unR_end s f _ _ hp]
theorem unF_eq (s : ByteArray) : (if (validF s).2 then unR s (s.size + 1) 0 [] else ([], (validF s).1, 50)) = unF s := by
  have h := un_eq s s.size 0 0 (s.size + 1) [] (by omega) (Nat.zero_le _) (Nat.zero_le _) (by simp) (fun q _ h => absurd h (Nat.not_lt_zero _)) (fun h => absurd h (Nat.lt_irrefl _))
  rw [Nat.max_self, cutB_same] at h
  unfold unF
  rw [h]
  rfl
set_option maxRecDepth 100000 in
set_option maxHeartbeats 1000000 in
theorem escapes_walk (s : ByteArray) (attr : Bool) (w : World) (hs : s.size ≤ 1048576) (hT : Tabs w) :
    Calls Tryd.prog 4 #[.string s, .bool attr] w fun e w' => e = .returned (.bool true) ∧ Below w.heap.size w w' := by
  have H0 := live_true
  have H1 := fun w => escape_any s attr w hs
  have H2 := fun w h => rescapes_any s attr w hs h
  have H3 := fun w => unescape_any s w (by omega)
  have H4 := fun w h => runescape_any s w hs h (unF s) (unF_eq s)
  have HT : Hid (Tabs w) := hT
  clear hT
  generalize escF s attr = A at *
  generalize unF s = U at *
  generalize (⟨U.1.toArray⟩ : ByteArray) = V at *
  go_enter Tryd.func4, Tryd.ntmps4
  go_wp2_with (first
    | (go_at_call 15; refine (H1 _).mono ?_; rintro e w1 ⟨rfl, hF1⟩)
    | (go_at_call 16; refine (H2 _ (HT.out.keep hF1)).mono ?_; rintro e w2 ⟨rfl, hF2⟩; have hG2 := hF1.trans hF2)
    | (go_at_call 17; refine (H3 _).mono ?_; rintro e w3 ⟨rfl, hF3⟩; have hG3 := hG2.trans hF3)
    | (go_at_call 18; refine (H4 _ (HT.out.keep hG3)).mono ?_; rintro e w4 ⟨rfl, hF4⟩; have hG4 := hG3.trans hF4)
    | (go_at_call 12; refine (H0 _).mono ?_; rintro e w5 ⟨rfl, hF5⟩; have hG5 := hG4.trans hF5))
  go_ret
  exact ⟨rfl, hG5.below (Nat.le_refl _) (fun _ h => h.elim)⟩
#print axioms escapes_walk
end Go.Proofs.YtpefadblmgcpcaaDoor
