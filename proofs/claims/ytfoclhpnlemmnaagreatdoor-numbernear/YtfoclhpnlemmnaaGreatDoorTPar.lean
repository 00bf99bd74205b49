/- What texts of dates and times say: plain functions. No Go text here. -/
import Derived.Test.YtfoclhpnlemmnaaGreatDoorTTtx
namespace Go.Proofs.YtfoclhpnlemmnaaGreatDoor

theorem cutL_hit (c : UInt8) : ∀ (A C : List UInt8), c ∉ A → (A ++ c :: C).takeWhile (· != c) = A ∧ (A ++ c :: C).dropWhile (· != c) = c :: C
  | [], C, _ => by simp
  | a :: A, C, h => by
    have ha : (a != c) = true := by rw [bne_iff_ne]; rintro rfl; exact h List.mem_cons_self
    obtain ⟨h1, h2⟩ := cutL_hit c A C (fun hm => h (List.mem_cons_of_mem _ hm))
    rw [List.cons_append, List.takeWhile_cons, List.dropWhile_cons, if_pos ha, if_pos ha, h1, h2]
    exact ⟨rfl, rfl⟩
theorem cutL_miss (c : UInt8) : ∀ (A : List UInt8), c ∉ A → A.takeWhile (· != c) = A ∧ A.dropWhile (· != c) = []
  | [], _ => by simp
  | a :: A, h => by
    have ha : (a != c) = true := by rw [bne_iff_ne]; rintro rfl; exact h List.mem_cons_self
    obtain ⟨h1, h2⟩ := cutL_miss c A (fun hm => h (List.mem_cons_of_mem _ hm))
    rw [List.takeWhile_cons, List.dropWhile_cons, if_pos ha, if_pos ha, h1, h2]
    exact ⟨rfl, rfl⟩
/-- A list is cut at the first such sign, or has none. -/
theorem cut_either (c : UInt8) : ∀ (s : List UInt8), c ∉ s ∨ ∃ A C, s = A ++ c :: C ∧ c ∉ A
  | [] => Or.inl (by simp)
  | a :: s => by
    by_cases h : a = c
    · subst h
      exact Or.inr ⟨[], s, rfl, by simp⟩
    · rcases cut_either c s with h1 | ⟨A, C, rfl, h1⟩
      · left
        intro hm
        rcases List.mem_cons.1 hm with e | e
        · exact h e.symm
        · exact h1 e
      · right
        refine ⟨a :: A, C, rfl, fun hm => ?_⟩
        rcases List.mem_cons.1 hm with e | e
        · exact h e.symm
        · exact h1 e
/-- The day that a date's text says. -/
def dayOk (A : List UInt8) : Option Int := match numsL [] 0 A dateFm with
  | some [y, m, d] => if dateF (y : Int) (m : Int) (d : Int) then some (dayF (y : Int) m (d : Int)) else none
  | _ => none
/-- The seconds that a clock's text says. -/
def clkOk (C : List UInt8) : Option Nat := match numsL [] 0 C clockFm with
  | some [h, m, s] => if h ≤ 23 ∧ m ≤ 59 ∧ s ≤ 59 then some (h * 3600 + (m * 60 + s)) else none
  | _ => none
/-- The minutes and seconds of a time's text. -/
def minOk (C : List UInt8) : Option Nat := match numsL [] 0 C minFm with
  | some [m, s, _] => if m ≤ 59 ∧ s ≤ 59 then some (m * 60 + s) else none
  | _ => none
/-- Day and seconds of a text. -/
def pdF (s : List UInt8) : Option (Int × Nat) := match s.dropWhile (· != 84) with
  | [] => (dayOk s).map fun d => (d, 0)
  | _ :: C => match dayOk (s.takeWhile (· != 84)), clkOk C with
    | some d, some t => some (d, t)
    | _, _ => none
theorem pdF_hit {A C : List UInt8} (h : (84 : UInt8) ∉ A) : pdF (A ++ 84 :: C) = match dayOk A, clkOk C with
    | some d, some t => some (d, t)
    | _, _ => none := by
  obtain ⟨h1, h2⟩ := cutL_hit 84 A C h
  unfold pdF
  rw [h1, h2]
theorem pdF_miss {A : List UInt8} (h : (84 : UInt8) ∉ A) : pdF A = (dayOk A).map fun d => (d, 0) := by
  obtain ⟨h1, h2⟩ := cutL_miss 84 A h
  unfold pdF
  rw [h2]
theorem dayOk_some {A : List UInt8} {d : Int} (h : dayOk A = some d) : likeB A dateFm = true := by
  rw [like_nums A dateFm [] 0]
  unfold dayOk at h
  split at h
  · rename_i hn; rw [hn]; rfl
  · cases h
theorem clkOk_some {A : List UInt8} {d : Nat} (h : clkOk A = some d) : likeB A clockFm = true := by
  rw [like_nums A clockFm [] 0]
  unfold clkOk at h
  split at h
  · rename_i hn; rw [hn]; rfl
  · cases h
theorem minOk_some {A : List UInt8} {d : Nat} (h : minOk A = some d) : likeB A minFm = true := by
  rw [like_nums A minFm [] 0]
  unfold minOk at h
  split at h
  · rename_i hn; rw [hn]; rfl
  · cases h
theorem dig_ne {c f : UInt8} (h : dgB c = true) (hf : dgB f = false) : c ≠ f := by rintro rfl; rw [h] at hf; cases hf
theorem no_sign {L : List UInt8} {f : UInt8} (h : ∀ c ∈ L, dgB c = true) (hf : dgB f = false) : f ∉ L := fun hm => dig_ne (h f hm) hf rfl
/-- The whole form of a date with its time. -/
def wholeFm : List UInt8 := dateFm ++ 84 :: clockFm
theorem pdF_whole {s : List UInt8} (h : likeB s wholeFm = true) : ∃ Y M D h m c : List UInt8, s = Y ++ 45 :: (M ++ 45 :: D) ++ 84 :: (h ++ 58 :: (m ++ 58 :: c)) ∧ Y.length = 4 ∧ M.length = 2 ∧ D.length = 2 ∧ h.length = 2 ∧ m.length = 2 ∧ c.length = 2 ∧ (∀ x ∈ Y, dgB x = true) ∧ (∀ x ∈ M, dgB x = true) ∧ (∀ x ∈ D, dgB x = true) ∧ (∀ x ∈ h, dgB x = true) ∧ (∀ x ∈ m, dgB x = true) ∧ (∀ x ∈ c, dgB x = true) ∧
    pdF s = if numOf h ≤ 23 ∧ numOf m ≤ 59 ∧ numOf c ≤ 59 ∧ dateF (numOf Y : Int) (numOf M : Int) (numOf D : Int) = true then some (dayF (numOf Y : Int) (numOf M) (numOf D : Int), numOf h * 3600 + (numOf m * 60 + numOf c)) else none := by
  unfold wholeFm at h
  rw [like_append] at h
  obtain ⟨A, B, rfl, h1, h2⟩ := h
  rw [show (84 :: clockFm : List UInt8) = [84] ++ clockFm from rfl, like_append] at h2
  obtain ⟨T, C, rfl, h3, h4⟩ := h2
  rw [like_one 84 (by decide)] at h3
  subst h3
  obtain ⟨Y, M, D, rfl, y1, y2, y3, y4, y5, y6⟩ := (like_date A).1 h1
  obtain ⟨h, m, c, rfl, z1, z2, z3, z4, z5, z6⟩ := (like_clock C).1 h4
  refine ⟨Y, M, D, h, m, c, rfl, y1, y2, y3, z1, z2, z3, y4, y5, y6, z4, z5, z6, ?_⟩
  have hT : (84 : UInt8) ∉ Y ++ 45 :: (M ++ 45 :: D) := by
    intro hm
    simp only [List.mem_append, List.mem_cons] at hm
    rcases hm with hm | hm | hm | hm | hm
    · exact no_sign y4 (by decide) hm
    · cases hm
    · exact no_sign y5 (by decide) hm
    · cases hm
    · exact no_sign y6 (by decide) hm
  rw [List.singleton_append, pdF_hit hT]
  unfold dayOk clkOk
  rw [nums_date y1 y2 y3 y4 y5 y6, nums_clock z1 z2 z3 z4 z5 z6]
  simp only
  by_cases c1 : dateF (numOf Y : Int) (numOf M : Int) (numOf D : Int) = true
  · rw [if_pos c1]
    by_cases c2 : numOf h ≤ 23 ∧ numOf m ≤ 59 ∧ numOf c ≤ 59
    · rw [if_pos c2, if_pos ⟨c2.1, c2.2.1, c2.2.2, c1⟩]
    · rw [if_neg c2, if_neg (fun h => c2 ⟨h.1, h.2.1, h.2.2.1⟩)]
  · have hR : ¬ (numOf h ≤ 23 ∧ numOf m ≤ 59 ∧ numOf c ≤ 59 ∧ dateF (numOf Y : Int) (numOf M : Int) (numOf D : Int) = true) := fun h => c1 h.2.2.2
    rw [if_neg c1, if_neg hR]
theorem pdF_date {s : List UInt8} (h : likeB s dateFm = true) : ∃ Y M D : List UInt8, s = Y ++ 45 :: (M ++ 45 :: D) ∧ Y.length = 4 ∧ M.length = 2 ∧ D.length = 2 ∧ (∀ x ∈ Y, dgB x = true) ∧ (∀ x ∈ M, dgB x = true) ∧ (∀ x ∈ D, dgB x = true) ∧
    pdF s = if dateF (numOf Y : Int) (numOf M : Int) (numOf D : Int) = true then some (dayF (numOf Y : Int) (numOf M) (numOf D : Int), 0) else none := by
  obtain ⟨Y, M, D, rfl, y1, y2, y3, y4, y5, y6⟩ := (like_date s).1 h
  refine ⟨Y, M, D, rfl, y1, y2, y3, y4, y5, y6, ?_⟩
  have hT : (84 : UInt8) ∉ Y ++ 45 :: (M ++ 45 :: D) := by
    intro hm
    simp only [List.mem_append, List.mem_cons] at hm
    rcases hm with hm | hm | hm | hm | hm
    · exact no_sign y4 (by decide) hm
    · cases hm
    · exact no_sign y5 (by decide) hm
    · cases hm
    · exact no_sign y6 (by decide) hm
  rw [pdF_miss hT]
  unfold dayOk
  rw [nums_date y1 y2 y3 y4 y5 y6]
  simp only
  by_cases c1 : dateF (numOf Y : Int) (numOf M : Int) (numOf D : Int) = true
  · rw [if_pos c1, if_pos c1]; rfl
  · rw [if_neg c1, if_neg c1]; rfl
theorem pdF_none {s : List UInt8} (h1 : likeB s wholeFm = false) (h2 : likeB s dateFm = false) : pdF s = none := by
  rcases cut_either 84 s with hm | ⟨A, C, rfl, hm⟩
  · rw [pdF_miss hm]
    cases hd : dayOk s with
    | none => rfl
    | some d => rw [dayOk_some hd] at h2; cases h2
  · rw [pdF_hit hm]
    cases hd : dayOk A with
    | none => rfl
    | some d =>
      cases hc : clkOk C with
      | none => rfl
      | some t =>
        exfalso
        have : likeB (A ++ 84 :: C) wholeFm = true := by
          unfold wholeFm
          rw [like_append]
          refine ⟨A, _, rfl, dayOk_some hd, ?_⟩
          show ((if (84 : UInt8) = 48 then dgB 84 else (84 : UInt8) == 84) && likeB C clockFm) = true
          rw [clkOk_some hc]
          rfl
        rw [this] at h1
        cases h1
/-- Sign and seconds of a time's text. -/
def ptG (s : List UInt8) : Option Nat := match s with
  | 80 :: 84 :: r => match hoursF (r.takeWhile (· != 72)), minOk ((r.dropWhile (· != 72)).drop 1) with
    | some h, some t => some (h * 3600 + t)
    | _, _ => none
  | _ => none
def ptF (s : List UInt8) : Option (Bool × Nat) := match ptG (Lib.trimPrefix s [45]) with
  | none => none
  | some n => if Lib.hasPrefix s [45] = true ∧ n = 0 then none else some (Lib.hasPrefix s [45], n)
theorem ptG_hit {A C : List UInt8} (h : (72 : UInt8) ∉ A) : ptG (80 :: 84 :: (A ++ 72 :: C)) = match hoursF A, minOk C with
    | some h, some t => some (h * 3600 + t)
    | _, _ => none := by
  obtain ⟨h1, h2⟩ := cutL_hit 72 A C h
  show (match hoursF ((A ++ 72 :: C).takeWhile (· != 72)), minOk (((A ++ 72 :: C).dropWhile (· != 72)).drop 1) with
    | some h, some t => some (h * 3600 + t)
    | _, _ => none) = _
  rw [h1, h2]
  rfl
theorem ptG_miss {A : List UInt8} (h : (72 : UInt8) ∉ A) : ptG (80 :: 84 :: A) = none := by
  obtain ⟨h1, h2⟩ := cutL_miss 72 A h
  show (match hoursF (A.takeWhile (· != 72)), minOk ((A.dropWhile (· != 72)).drop 1) with
    | some h, some t => some (h * 3600 + t)
    | _, _ => none) = _
  rw [h1, h2]
  have : minOk (([] : List UInt8).drop 1) = none := rfl
  rw [this]
  cases hoursF A <;> rfl
def minHFm : List UInt8 := 72 :: minFm
/-- A text of the form: its parts, and what it says. -/
theorem ptG_form {H E : List UInt8} (hE : likeB E minHFm = true) : ∃ M S : List UInt8, E = 72 :: (M ++ 77 :: (S ++ [83])) ∧ M.length = 2 ∧ S.length = 2 ∧ (∀ x ∈ M, dgB x = true) ∧ (∀ x ∈ S, dgB x = true) ∧
    ptG (80 :: 84 :: (H ++ E)) = if H.all dgB = true ∧ 2 ≤ H.length ∧ H.length ≤ 13 ∧ ¬ (2 < H.length ∧ H.head? = some 48) ∧ numOf M ≤ 59 ∧ numOf S ≤ 59 then some (numOf H * 3600 + (numOf M * 60 + numOf S)) else none := by
  unfold minHFm at hE
  rw [show (72 :: minFm : List UInt8) = [72] ++ minFm from rfl, like_append] at hE
  obtain ⟨T, C, rfl, h3, h4⟩ := hE
  rw [like_one 72 (by decide)] at h3
  subst h3
  obtain ⟨M, S, rfl, y1, y2, y3, y4⟩ := (like_min C).1 h4
  refine ⟨M, S, rfl, y1, y2, y3, y4, ?_⟩
  rw [List.singleton_append]
  have hmin : minOk (M ++ 77 :: (S ++ [83])) = if numOf M ≤ 59 ∧ numOf S ≤ 59 then some (numOf M * 60 + numOf S) else none := by
    unfold minOk
    rw [nums_min y1 y2 y3 y4]
  rcases cut_either 72 H with hm | ⟨A, B, rfl, hm⟩
  · rw [ptG_hit hm, hmin]
    unfold hoursF
    by_cases c1 : H.length < 2 ∨ 13 < H.length ∨ (2 < H.length ∧ H.head? = some 48) ∨ H.all dgB = false
    · have hR : ¬ (H.all dgB = true ∧ 2 ≤ H.length ∧ H.length ≤ 13 ∧ ¬ (2 < H.length ∧ H.head? = some 48) ∧ numOf M ≤ 59 ∧ numOf S ≤ 59) := by
        rintro ⟨g1, g2, g3, g4, _⟩
        rcases c1 with c | c | c | c
        · omega
        · omega
        · exact g4 c
        · rw [g1] at c; cases c
      rw [if_pos c1, if_neg hR]
    · have g1 : H.all dgB = true := by
        cases h : H.all dgB with
        | true => rfl
        | false => exact absurd (Or.inr (Or.inr (Or.inr h))) c1
      have g2 : 2 ≤ H.length := by
        rcases Nat.lt_or_ge H.length 2 with h | h
        · exact absurd (Or.inl h) c1
        · exact h
      have g3 : H.length ≤ 13 := by
        rcases Nat.lt_or_ge 13 H.length with h | h
        · exact absurd (Or.inr (Or.inl h)) c1
        · exact h
      have g4 : ¬ (2 < H.length ∧ H.head? = some 48) := fun h => c1 (Or.inr (Or.inr (Or.inl h)))
      rw [if_neg c1]
      by_cases c2 : numOf M ≤ 59 ∧ numOf S ≤ 59
      · rw [if_pos c2, if_pos ⟨g1, g2, g3, g4, c2.1, c2.2⟩]
      · rw [if_neg c2, if_neg (fun h => c2 ⟨h.2.2.2.2.1, h.2.2.2.2.2⟩)]
  · have hA : ¬ (A ++ 72 :: B).all dgB = true := by
      intro h
      have := List.all_eq_true.1 h 72 (by simp)
      exact absurd this (by decide)
    rw [if_neg (fun h => hA h.1), List.append_assoc, List.cons_append, ptG_hit hm]
    have hl : minOk (B ++ 72 :: (M ++ 77 :: (S ++ [83]))) = none := by
      cases h : minOk (B ++ 72 :: (M ++ 77 :: (S ++ [83]))) with
      | none => rfl
      | some d =>
        have := like_length _ _ (minOk_some h)
        simp [minFm, y1, y2] at this
    rw [hl]
    cases hoursF A <;> rfl
/-- What is not of the form says nothing. -/
theorem ptG_none {t : List UInt8} (h : ¬ (11 ≤ t.length ∧ t.take 2 = [80, 84] ∧ likeB (t.drop (t.length - 7)) minHFm = true)) : ptG t = none := by
  cases hg : ptG t with
  | none => rfl
  | some n =>
    exfalso
    apply h
    unfold ptG at hg
    split at hg
    · rename_i r
      rcases cut_either 72 r with hm | ⟨A, C, rfl, hm⟩
      · obtain ⟨h1, h2⟩ := cutL_miss 72 r hm
        rw [h1, h2] at hg
        have : minOk (([] : List UInt8).drop 1) = none := rfl
        rw [this] at hg
        cases hh : hoursF r <;> rw [hh] at hg <;> cases hg
      · obtain ⟨h1, h2⟩ := cutL_hit 72 A C hm
        rw [h1, h2] at hg
        cases hh : hoursF A with
        | none => rw [hh] at hg; cases hg
        | some k =>
          cases hmn : minOk C with
          | none => rw [hh] at hg; simp only [List.drop_succ_cons, List.drop_zero, hmn] at hg; cases hg
          | some q =>
            have hl := minOk_some hmn
            have hC := like_length _ _ hl
            have hA2 : 2 ≤ A.length := by
              unfold hoursF at hh
              split at hh
              · cases hh
              · rename_i c
                rcases Nat.lt_or_ge A.length 2 with h | h
                · exact absurd (Or.inl h) c
                · exact h
            have hC6 : C.length = 6 := hC
            refine ⟨by simp; omega, rfl, ?_⟩
            have hd : (80 :: 84 :: (A ++ 72 :: C)).drop ((80 :: 84 :: (A ++ 72 :: C)).length - 7) = 72 :: C := by
              have hlen : (80 :: 84 :: (A ++ 72 :: C)).length - 7 = (80 :: 84 :: A).length := by simp; omega
              rw [hlen, show (80 :: 84 :: (A ++ 72 :: C) : List UInt8) = (80 :: 84 :: A) ++ 72 :: C from rfl, List.drop_left]
            rw [hd]
            show ((if (72 : UInt8) = 48 then dgB 72 else (72 : UInt8) == 72) && likeB C minFm) = true
            rw [hl]
            rfl
    · cases hg
#print axioms pdF_whole
#print axioms pdF_none
#print axioms ptG_form
#print axioms ptG_none
end Go.Proofs.YtfoclhpnlemmnaaGreatDoor
