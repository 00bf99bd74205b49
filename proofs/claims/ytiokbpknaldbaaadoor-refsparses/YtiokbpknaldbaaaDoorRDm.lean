/- A row's number, reckoned digit by digit: plain. No Go text here. -/
import Derived.Test.YtiokbpknaldbaaaDoorRPrs
namespace Go.Proofs.YtiokbpknaldbaaaDoor

/-- The number of digits, up to one that is too great. -/
def foldD : List UInt8 → Nat → Nat
  | [], a => a
  | c :: r, a => foldD r (min (10 * a + (c.toNat - 48)) 1048577)
theorem foldD_cap : ∀ L : List UInt8, foldD L 1048577 = 1048577
  | [] => rfl
  | c :: r => by
    rw [foldD, show min (10 * 1048577 + (c.toNat - 48)) 1048577 = 1048577 by omega]
    exact foldD_cap r
theorem foldD_le : ∀ (L : List UInt8) (a : Nat), a ≤ 1048577 → foldD L a ≤ 1048577
  | [], a, h => h
  | c :: r, a, _ => by rw [foldD]; exact foldD_le r _ (by omega)
theorem foldD_ge : ∀ (L : List UInt8) (a : Nat), 1 ≤ a → 1 ≤ foldD L a
  | [], a, h => h
  | c :: r, a, h => by rw [foldD]; exact foldD_ge r _ (by omega)
def digsL (L : List UInt8) : Prop := ∀ c ∈ L, 48 ≤ c.toNat ∧ c.toNat ≤ 57
theorem pu_fold : ∀ (L : List UInt8) (acc a : Nat), digsL L → a = min acc 1048577 →
    (∀ u, Lib.parseUint10 acc L = .ok u → foldD L a = min u 1048577) ∧ (Lib.parseUint10 acc L = .range → foldD L a = 1048577) ∧ Lib.parseUint10 acc L ≠ .syntax
  | [], acc, a, _, ha => by
    refine ⟨fun u h => ?_, fun h => ?_, fun h => ?_⟩
    · rw [Lib.parseUint10] at h; cases h; exact ha
    · rw [Lib.parseUint10] at h; cases h
    · rw [Lib.parseUint10] at h; cases h
  | c :: r, acc, a, hd, ha => by
    have hc := hd c (List.mem_cons_self ..)
    have hr : digsL r := fun x hx => hd x (List.mem_cons_of_mem _ hx)
    rw [Lib.parseUint10, if_pos hc, foldD]
    by_cases h1 : 1844674407370955162 ≤ acc
    · rw [if_pos h1, show min (10 * a + (c.toNat - 48)) 1048577 = 1048577 by omega, foldD_cap]
      exact ⟨fun u h => (by cases h), fun _ => rfl, fun h => (by cases h)⟩
    · rw [if_neg h1]
      by_cases h2 : 18446744073709551616 ≤ acc * 10 + (c.toNat - 48)
      · rw [if_pos h2, show min (10 * a + (c.toNat - 48)) 1048577 = 1048577 by omega, foldD_cap]
        exact ⟨fun u h => (by cases h), fun _ => rfl, fun h => (by cases h)⟩
      · rw [if_neg h2]
        exact pu_fold r _ _ hr (by omega)
/-- A run of digits as a row. -/
theorem rowF_fold (t : ByteArray) (hd : digsL t.data.toList) : rowF t = if t.size = 0 ∨ byt t 0 = 48 ∨ 1048576 < foldD t.data.toList 0 then none else some (foldD t.data.toList 0 - 1) := by
  unfold rowF
  cases hL : t.data.toList with
  | nil =>
    have h0 : t.size = 0 := by
      have : t.data.toList.length = 0 := by rw [hL]; rfl
      simpa using this
    rw [if_pos (Or.inl h0)]
    rfl
  | cons c r =>
    rw [hL] at hd
    have hc := hd c (List.mem_cons_self ..)
    have h0 : ¬ t.size = 0 := by
      have : t.data.toList.length = r.length + 1 := by rw [hL]; rfl
      simp at this
      omega
    obtain ⟨p1, p2, p3⟩ := pu_fold (c :: r) 0 0 hd (by omega)
    have hA : Lib.atoiAll (c :: r) = match Lib.parseUint10 0 (c :: r) with
        | .syntax => .syntax
        | .range => .range
        | .ok u => if 9223372036854775808 ≤ u then .range else .ok (u : Int) := by
      unfold Lib.atoiAll Lib.parseMag
      simp only [show ¬ c.toNat = 43 by omega, show ¬ c.toNat = 45 by omega, or_self, if_false, List.cons_ne_nil, not_false_eq_true, true_and, false_and]
      rcases Lib.parseUint10 0 (c :: r) with u | _ | _ <;> rfl
    rw [hA]
    rcases hp : Lib.parseUint10 0 (c :: r) with u | _ | _
    · have e := p1 u hp
      simp only []
      by_cases hu : 9223372036854775808 ≤ u
      · rw [if_pos hu]
        rw [if_pos (Or.inr (Or.inr (by omega)))]
      · rw [if_neg hu]
        simp only []
        by_cases hx : byt t 0 = 48
        · rw [if_neg (fun h => h.2 hx), if_pos (Or.inr (Or.inl hx))]
        · by_cases hm : 1048576 < foldD (c :: r) 0
          · rw [if_neg (by omega), if_pos (Or.inr (Or.inr hm))]
          · rw [if_pos ⟨by omega, hx⟩, if_neg (by omega)]
            congr 1
            omega
    · exact absurd hp p3
    · have e := p2 hp
      rw [if_pos (Or.inr (Or.inr (by omega)))]
#print axioms rowF_fold
end Go.Proofs.YtiokbpknaldbaaaDoor
