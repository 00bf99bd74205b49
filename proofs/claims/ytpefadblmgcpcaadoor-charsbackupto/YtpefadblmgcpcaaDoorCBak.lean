/- What is escaped says what it was: mathematics. -/
import Derived.Test.YtpefadblmgcpcaaDoorCEsc
namespace Go.Proofs.YtpefadblmgcpcaaDoor
open Go.RowKit Go.Shelf

set_option maxRecDepth 100000 in
set_option maxHeartbeats 4000000 in
theorem decN_same (m m' b0 b1 b2 b3 c1 c2 c3 r n : Nat) (h : Lib.decodeN m b0 b1 b2 b3 = (r, n)) (hok : ¬ (r = 65533 ∧ n = 1)) (hm : n ≤ m') (h1 : 1 < n → c1 = b1) (h2 : 2 < n → c2 = b2) (h3 : 3 < n → c3 = b3) : Lib.decodeN m' b0 c1 c2 c3 = (r, n) := by
  unfold Lib.decodeN at h
  repeat' split at h
  all_goals
    injection h with e1 e2
    subst e1 e2
  all_goals try (exact absurd ⟨rfl, rfl⟩ hok)
  · unfold Lib.decodeN
    rw [if_pos (by assumption)]
  · have e := h1 (by omega)
    subst e
    unfold Lib.decodeN
    repeat' split
    all_goals first | rfl | (exfalso; omega)
  · have e := h1 (by omega)
    have e' := h2 (by omega)
    subst e e'
    unfold Lib.decodeN
    repeat' split
    all_goals first | rfl | (exfalso; omega)
  · have e := h1 (by omega)
    have e' := h2 (by omega)
    have e'' := h3 (by omega)
    subst e e' e''
    unfold Lib.decodeN
    repeat' split
    all_goals first | rfl | (exfalso; omega)
theorem dec_same (s E : ByteArray) (p q : Nat) (hok : ¬ ((Utf8.decode s p).1 = 65533 ∧ (Utf8.decode s p).2 = 1)) (hq : q + (Utf8.decode s p).2 ≤ E.size) (hp : 1 ≤ (Utf8.decode s p).2) (hb : ∀ i, i < (Utf8.decode s p).2 → E.get! (q + i) = s.get! (p + i)) : Utf8.decode E q = Utf8.decode s p := by
  have h0 := hb 0 (by omega)
  rw [Nat.add_zero, Nat.add_zero] at h0
  obtain ⟨⟨r, n⟩, hd⟩ : ∃ x, Utf8.decode s p = x := ⟨_, rfl⟩
  rw [hd] at hok hq hb ⊢
  simp only at hok hq hb
  rw [Lib.decode_at] at hd ⊢
  rw [h0]
  exact decN_same _ _ _ _ _ _ _ _ _ r n hd hok (by omega) (fun h => by rw [hb 1 h]) (fun h => by rw [hb 2 h]) (fun h => by rw [hb 3 h])

/-- A reference, by what stands in it. -/
theorem escT_says (r : Nat) (attr : Bool) (t : ByteArray) (h : escT r attr = some t) : ∃ ins : List UInt8, t.data.toList = 38 :: (ins ++ [59]) ∧ (∀ x ∈ ins, x ≠ 59 ∧ x.toNat ≠ 38 ∧ 32 ≤ x.toNat ∧ x.toNat < 128 ∧ x.toNat ≠ 60 ∧ x.toNat ≠ 62 ∧ x.toNat ≠ 34) ∧ refF ⟨ins.toArray⟩ = ((r : Int), true) ∧ Lib.encodeRune (r : Int) = [UInt8.ofNat r] := by
  unfold escT at h
  split at h
  · rename_i e; subst e; cases h; exact ⟨[97, 109, 112], rfl, by decide, by decide +kernel, by decide +kernel⟩
  split at h
  · rename_i e; subst e; cases h; exact ⟨[108, 116], rfl, by decide, by decide +kernel, by decide +kernel⟩
  split at h
  · rename_i e; subst e; cases h; exact ⟨[103, 116], rfl, by decide, by decide +kernel, by decide +kernel⟩
  split at h
  · rename_i e; subst e; cases h; exact ⟨[35, 49, 51], rfl, by decide, by decide +kernel, by decide +kernel⟩
  split at h
  · rename_i e; obtain ⟨_, e⟩ := e; subst e; cases h; exact ⟨[113, 117, 111, 116], rfl, by decide, by decide +kernel, by decide +kernel⟩
  split at h
  · rename_i e; obtain ⟨_, e⟩ := e; subst e; cases h; exact ⟨[35, 57], rfl, by decide, by decide +kernel, by decide +kernel⟩
  split at h
  · rename_i e; obtain ⟨_, e⟩ := e; subst e; cases h; exact ⟨[35, 49, 48], rfl, by decide, by decide +kernel, by decide +kernel⟩
  · cases h
theorem idx_ins : ∀ (ins rest : List UInt8), (∀ x ∈ ins, x ≠ 59) → Lib.indexByte (ins ++ 59 :: rest) 59 = (ins.length : Int) := by
  intro ins
  induction ins with
  | nil => intro rest _; simp [Lib.indexByte]
  | cons a t ih =>
    intro rest h
    have h1 := ih rest (fun x hx => h x (List.mem_cons_of_mem _ hx))
    have h2 : (a == 59) = false := by simpa using h a List.mem_cons_self
    simp only [List.cons_append, Lib.indexByte, h2, Bool.false_eq_true, if_false, h1]
    rw [if_neg (by simp)]
    simp
theorem tail_list (E : ByteArray) (q : Nat) : (E.extract q E.size).data.toList = E.data.toList.drop q := by
  rw [ByteArray.data_extract, Array.toList_extract, List.extract_eq_take_drop]
  exact List.take_of_length_le (by simp)
theorem ref_at (E : ByteArray) (q : Nat) (ins rest : List UInt8) (h : E.data.toList.drop q = 38 :: (ins ++ 59 :: rest)) (hi : ∀ x ∈ ins, x ≠ 59) : idxF (E.extract (q + 1) E.size) 59 = (ins.length : Int) ∧ insF E q = ⟨ins.toArray⟩ := by
  have h1 : (E.extract (q + 1) E.size).data.toList = ins ++ 59 :: rest := by rw [tail_list, ← List.drop_drop, h]; rfl
  have h2 : idxF (E.extract (q + 1) E.size) 59 = (ins.length : Int) := by
    show Lib.indexByte (E.extract (q + 1) E.size).data.toList 59 = _
    rw [h1, idx_ins ins rest hi]
  refine ⟨h2, ?_⟩
  unfold insF
  rw [h2]
  apply ByteArray.ext
  apply Array.ext'
  rw [ByteArray.data_extract, Array.toList_extract, List.extract_eq_take_drop, h1]
  simp
theorem drop_get (E : ByteArray) (q i : Nat) (l : List UInt8) (h : E.data.toList.drop q = l) (x : UInt8) (hx : l[i]? = some x) : E.get! (q + i) = x ∧ q + i < E.size := by
  rw [← h, List.getElem?_drop] at hx
  have hlt : q + i < E.size := by
    rcases Nat.lt_or_ge (q + i) E.size with h' | h'
    · exact h'
    · rw [List.getElem?_eq_none (by simpa using h')] at hx; cases hx
  exact ⟨get_list' E (q + i) x hx, hlt⟩
/-- Past what is no &. -/
theorem skip (E : ByteArray) (d : Nat) (acc : List UInt8) : ∀ (k x : Nat), x + k ≤ E.size → (∀ i, i < k → (E.get! (x + i)).toNat < 128 ∧ (E.get! (x + i)).toNat ≠ 38 ∧ 32 ≤ (E.get! (x + i)).toNat) → unL E (runs E x) d acc = unL E (runs E (x + k)) d acc ∧ validL (runs E x) = validL (runs E (x + k)) := by
  intro k
  induction k with
  | zero => intro x _ _; exact ⟨rfl, rfl⟩
  | succ k ih =>
    intro x h1 h2
    obtain ⟨a, b, c⟩ := h2 0 (by omega)
    rw [Nat.add_zero] at a b c
    obtain ⟨u, v⟩ := ih (x + 1) (by omega) (fun i hi => by rw [show x + 1 + i = x + (i + 1) by omega]; exact h2 (i + 1) (by omega))
    rw [runs_step E x (by omega), dec_ascii E x a]
    rw [show x + (k + 1) = x + 1 + k by omega, ← u, ← v]
    constructor
    · simp only [unL]
      rw [if_neg b]
    · simp only [validL]
      rw [if_pos]
      unfold okR
      have hc : charF ((E.get! x).toNat : Int) = true := by
        unfold charF btw
        simp
        omega
      rw [hc]
      simp
      omega
theorem cut_same (s E : ByteArray) (d : Nat) (acc : List UInt8) : ∀ (n p q : Nat), d ≤ q → q + n ≤ E.size → p + n ≤ s.size → (∀ i, i < n → E.get! (q + i) = s.get! (p + i)) → acc ++ cutB E d q = cutB s 0 p → acc ++ cutB E d (q + n) = cutB s 0 (p + n) := by
  intro n
  induction n with
  | zero => intro p q _ _ _ _ h; exact h
  | succ n ih =>
    intro p q h1 h2 h3 h4 h5
    have e := h4 0 (by omega)
    rw [Nat.add_zero, Nat.add_zero] at e
    rw [show q + (n + 1) = q + 1 + n by omega, show p + (n + 1) = p + 1 + n by omega]
    refine ih (p + 1) (q + 1) (by omega) (by omega) (by omega) (fun i hi => ?_) ?_
    · rw [show q + 1 + i = q + (i + 1) by omega, show p + 1 + i = p + (i + 1) by omega]
      exact h4 (i + 1) (by omega)
    · rw [cutB_more E d q h1 (by omega), cutB_more s 0 p (Nat.zero_le _) (by omega), ← List.append_assoc, h5, e]
theorem copy_run (s : ByteArray) (g : Nat → List UInt8) : ∀ (n p : Nat), p + n ≤ s.size → (∀ j, p ≤ j → j < p + n → g j = [s.get! j]) → ∃ l, l.length = n ∧ (∀ i, i < n → l[i]? = some (s.get! (p + i))) ∧ fromB s g p = l ++ fromB s g (p + n) := by
  intro n
  induction n with
  | zero => intro p _ _; exact ⟨[], rfl, fun i h => by omega, rfl⟩
  | succ n ih =>
    intro p h1 h2
    obtain ⟨l, a, b, c⟩ := ih (p + 1) (by omega) (fun j u v => h2 j (by omega) (by omega))
    refine ⟨s.get! p :: l, by simp [a], fun i hi => ?_, ?_⟩
    · cases i with
      | zero => rfl
      | succ i => rw [List.getElem?_cons_succ, b i (by omega), show p + 1 + i = p + (i + 1) by omega]
    · rw [fromB_step s g p (by omega), h2 p (Nat.le_refl _) (by omega), c, show p + 1 + n = p + (n + 1) by omega]
      rfl
set_option maxHeartbeats 1000000 in
theorem un_back (s E : ByteArray) (attr : Bool) : ∀ (m p q d : Nat) (acc : List UInt8), s.size - p ≤ m → p ≤ s.size → E.data.toList.drop q = fromB s (gEsc s attr) p → q ≤ E.size → d ≤ q → validL (runs s p) = (0, true) → acc ++ cutB E d q = cutB s 0 p →
    unL E (runs E q) d acc = (cutB s 0 s.size, 0, 0) ∧ validL (runs E q) = (0, true) := by
  intro m
  induction m with
  | zero =>
    intro p q d acc h1 h2 hD hq hd hv hacc
    have hp : p = s.size := by omega
    subst hp
    rw [fromB_end s _ _ (by omega)] at hD
    have hqe : q = E.size := by have := congrArg List.length hD; simp at this; omega
    subst hqe
    rw [runs_end E _ (by omega)]
    exact ⟨by rw [unL, hacc], rfl⟩
  | succ m ih =>
    intro p q d acc h1 h2 hD hq hd hv hacc
    by_cases hp : p < s.size
    · have hwd := width_pos s p hp
      have hwf := width_fits s p hp
      obtain ⟨ha, hb⟩ := esc_ok s attr p hp
      rw [runs_step s p hp] at hv
      simp only [validL] at hv
      have hok : okR (Utf8.decode s p).1 (Utf8.decode s p).2 = true := by
        cases e : okR (Utf8.decode s p).1 (Utf8.decode s p).2 with
        | true => rfl
        | false => rw [e] at hv; simp at hv
      rw [hok, if_pos rfl] at hv
      cases he : escT (Utf8.decode s p).1 attr with
      | none =>
        obtain ⟨l, hl1, hl2, hl3⟩ := copy_run s (gEsc s attr) (Utf8.decode s p).2 p hwf (ha he)
        rw [hl3] at hD
        have hget : ∀ i, i < (Utf8.decode s p).2 → E.get! (q + i) = s.get! (p + i) ∧ q + i < E.size := fun i hi => drop_get E q i _ hD _ (by rw [List.getElem?_append_left (by omega)]; exact hl2 i hi)
        have hqn : q + (Utf8.decode s p).2 ≤ E.size := by have := (hget ((Utf8.decode s p).2 - 1) (by omega)).2; omega
        have hde := dec_same s E p q (by
            rintro ⟨e1, e2⟩
            unfold okR at hok
            rw [e1, e2] at hok
            revert hok
            decide) hqn hwd (fun i hi => (hget i hi).1)
        have hr38 : (Utf8.decode s p).1 ≠ 38 := by
          intro e
          rw [e] at he
          revert he
          cases attr <;> decide
        have hD2 : E.data.toList.drop (q + (Utf8.decode s p).2) = fromB s (gEsc s attr) (p + (Utf8.decode s p).2) := by
          rw [← List.drop_drop, hD, List.drop_left' hl1]
        obtain ⟨u, v⟩ := ih (p + (Utf8.decode s p).2) (q + (Utf8.decode s p).2) d acc (by omega) hwf hD2 hqn (by omega) hv (cut_same s E d acc _ p q hd hqn hwf (fun i hi => (hget i hi).1) hacc)
        rw [runs_step E q (by omega), hde]
        constructor
        · simp only [unL]
          rw [if_neg hr38]
          exact u
        · simp only [validL]
          rw [hok, if_pos rfl]
          exact v
      | some t =>
        obtain ⟨hn1, hg⟩ := hb t he
        obtain ⟨ins, ht, hins, href, henc⟩ := escT_says _ _ _ he
        obtain ⟨hlo, hgp, _⟩ := dec_low s p (escT_low _ _ _ he).1
        rw [fromB_step s _ p hp, hg, ht] at hD
        have hD' : E.data.toList.drop q = 38 :: (ins ++ 59 :: fromB s (gEsc s attr) (p + 1)) := by rw [hD]; simp
        obtain ⟨hix, hinsF⟩ := ref_at E q ins _ hD' (fun x hx => (hins x hx).1)
        obtain ⟨hg0, hlt0⟩ := drop_get E q 0 _ hD' 38 rfl
        rw [Nat.add_zero] at hg0 hlt0
        have h59 := drop_get E q (ins.length + 1) _ hD' 59 (by simp)
        have hm : q + 1 + ins.length + 1 ≤ E.size := by omega
        have hby : ∀ i, i < ins.length + 1 → (E.get! (q + 1 + i)).toNat < 128 ∧ (E.get! (q + 1 + i)).toNat ≠ 38 ∧ 32 ≤ (E.get! (q + 1 + i)).toNat := by
          intro i hi
          by_cases e : i = ins.length
          · subst e
            rw [show q + 1 + ins.length = q + (ins.length + 1) by omega, h59.1]
            decide
          · have hx : ins[i]? = some ins[i] := List.getElem?_eq_getElem (by omega)
            have := (drop_get E q (i + 1) _ hD' ins[i] (by rw [List.getElem?_cons_succ, List.getElem?_append_left (by omega)]; exact hx)).1
            rw [show q + 1 + i = q + (i + 1) by omega, this]
            have := hins _ (List.getElem_mem (show i < ins.length by omega))
            exact ⟨this.2.2.2.1, this.2.1, this.2.2.1⟩
        have hD2 : E.data.toList.drop (q + 1 + ins.length + 1) = fromB s (gEsc s attr) (p + 1) := by
          rw [show q + 1 + ins.length + 1 = q + (ins.length + 2) by omega, ← List.drop_drop, hD']
          simp
        have hisz : (insF E q).size = ins.length := by rw [hinsF]; rfl
        rw [hn1] at hv
        have hacc2 : (acc ++ cutB E d q ++ Lib.encodeRune ((Utf8.decode s p).1 : Int)) ++ cutB E (q + 1 + ins.length + 1) (q + 1 + ins.length + 1) = cutB s 0 (p + 1) := by
          rw [cutB_same, List.append_nil, hacc, henc, cutB_more s 0 p (Nat.zero_le _) hp, hgp]
          simp
        obtain ⟨u, v⟩ := ih (p + 1) (q + 1 + ins.length + 1) (q + 1 + ins.length + 1) _ (by omega) (by omega) hD2 hm (Nat.le_refl _) hv hacc2
        obtain ⟨u2, v2⟩ := skip E (q + 1 + ins.length + 1) (acc ++ cutB E d q ++ Lib.encodeRune ((Utf8.decode s p).1 : Int)) (ins.length + 1) (q + 1) (by omega) hby
        rw [show q + 1 + (ins.length + 1) = q + 1 + ins.length + 1 by omega] at u2 v2
        rw [runs_step E q hlt0, dec_ascii E q (by rw [hg0]; decide), hg0]
        constructor
        · simp only [unL]
          rw [if_pos (by decide), if_neg (by rw [hix, hinsF, href]; rintro (h | h); omega; cases h), hisz, hinsF, href]
          exact u2.trans u
        · simp only [validL]
          rw [if_pos (by decide)]
          exact v2.trans v
    · have hpe : p = s.size := by omega
      subst hpe
      rw [fromB_end s _ _ hp] at hD
      have hqe : q = E.size := by have := congrArg List.length hD; simp at this; omega
      subst hqe
      rw [runs_end E _ (by omega)]
      exact ⟨by rw [unL, hacc], rfl⟩
theorem cutB_all (s : ByteArray) : cutB s 0 s.size = s.data.toList := by
  unfold cutB
  simp
theorem back_F (s : ByteArray) (attr : Bool) (hv : (validF s).2 = true) : unF ⟨(fromB s (gEsc s attr) 0).toArray⟩ = (s.data.toList, 0, 0) := by
  have hv2 : validL (runs s 0) = (0, true) := by
    have : ∀ l : List (Nat × Nat × Nat), (validL l).2 = true → validL l = (0, true) := by
      intro l
      induction l with
      | nil => intro _; rfl
      | cons x t ih =>
        intro h
        simp only [validL] at h ⊢
        split at h
        · rename_i e; rw [if_pos e]; exact ih h
        · cases h
    exact this _ hv
  obtain ⟨u, v⟩ := un_back s ⟨(fromB s (gEsc s attr) 0).toArray⟩ attr s.size 0 0 0 [] (by omega) (Nat.zero_le _) (by simp) (Nat.zero_le _) (Nat.le_refl _) hv2 (by rw [cutB_same, cutB_same]; rfl)
  unfold unF
  rw [show (validF (⟨(fromB s (gEsc s attr) 0).toArray⟩ : ByteArray)) = (0, true) from v, if_pos rfl, u, cutB_all]
#print axioms back_F
end Go.Proofs.YtpefadblmgcpcaaDoor
