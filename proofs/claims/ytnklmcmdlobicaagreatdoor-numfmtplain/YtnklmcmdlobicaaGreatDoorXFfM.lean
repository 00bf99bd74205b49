/- The text of digits with a point, all places told: plain. -/
import Derived.Test.YtnklmcmdlobicaaGreatDoorXDec
namespace Go.Proofs.YtnklmcmdlobicaaGreatDoor

/-- The digits ahead of the point. -/
def fInt (Ds : List Nat) (dp : Int) : List Nat := if 0 < dp then Ds.take dp.toNat ++ List.replicate (dp.toNat - min Ds.length dp.toNat) 48 else [48]
/-- P digits behind it. -/
def fFrac (Ds : List Nat) (dp : Int) (P : Nat) : List Nat := if 0 < dp then Ds.drop dp.toNat ++ List.replicate (P - (Ds.length - dp.toNat)) 48 else List.replicate (-dp).toNat 48 ++ Ds ++ List.replicate (P - (-dp).toNat - Ds.length) 48
theorem fInt_len (Ds : List Nat) (dp : Int) (h : dp ≤ 400) : 1 ≤ (fInt Ds dp).length ∧ (fInt Ds dp).length ≤ 400 := by
  unfold fInt
  split
  · simp; omega
  · simp
theorem fFrac_len (Ds : List Nat) (dp : Int) (P : Nat) (h : (Ds.length : Int) - dp ≤ P) : (fFrac Ds dp P).length = P := by
  unfold fFrac
  split
  · simp; omega
  · simp; omega
theorem fFrac_more (Ds : List Nat) (dp : Int) (P k : Nat) (h : (Ds.length : Int) - dp ≤ P) : fFrac Ds dp (P + k) = fFrac Ds dp P ++ List.replicate k 48 := by
  unfold fFrac
  split
  · rw [List.append_assoc, List.replicate_append_replicate]; congr 2; omega
  · rw [List.append_assoc, List.append_assoc, List.append_assoc, List.replicate_append_replicate]; congr 3; omega
theorem fInt_mem (Ds : List Nat) (dp : Int) (h : ∀ x ∈ Ds, 48 ≤ x ∧ x ≤ 57) : ∀ x ∈ fInt Ds dp, 48 ≤ x ∧ x ≤ 57 := by
  intro x hx
  unfold fInt at hx
  split at hx
  · rcases List.mem_append.1 hx with hx | hx
    · exact h x (List.mem_of_mem_take hx)
    · have := List.eq_of_mem_replicate hx; omega
  · simp at hx; omega
theorem fFrac_mem (Ds : List Nat) (dp : Int) (P : Nat) (h : ∀ x ∈ Ds, 48 ≤ x ∧ x ≤ 57) : ∀ x ∈ fFrac Ds dp P, 48 ≤ x ∧ x ≤ 57 := by
  intro x hx
  unfold fFrac at hx
  split at hx
  · rcases List.mem_append.1 hx with hx | hx
    · exact h x (List.mem_of_mem_drop hx)
    · have := List.eq_of_mem_replicate hx; omega
  · rcases List.mem_append.1 hx with hx | hx
    · rcases List.mem_append.1 hx with hx | hx
      · have := List.eq_of_mem_replicate hx; omega
      · exact h x hx
    · have := List.eq_of_mem_replicate hx; omega
theorem lsh_dp19 (k : Nat) (L : List Nat) (dp : Int) (h1 : 1 ≤ k) (hk : k ≤ 60) (h : GoodD L) : (lsh k L dp).2 ≤ dp + 19 := by
  obtain ⟨_, _, f3⟩ := lsO_good k h1 hk L h
  obtain ⟨⟨c1, c2⟩, ⟨c3, _⟩, _⟩ := cheat_ok k h1 hk
  have c19 : cheatD k ≤ 19 := by
    rcases Nat.lt_or_ge 19 (cheatD k) with hc | hc
    · have e1 : 10 ^ 19 ≤ 10 ^ (cheatD k - 1) := Nat.pow_le_pow_right (by omega) (by omega)
      have e2 : 2 ^ k ≤ 2 ^ 60 := Nat.pow_le_pow_right (by omega) hk
      have e3 : (2 : Nat) ^ 60 < 10 ^ 19 := by decide
      omega
    · exact hc
  have hg := (lsh_good k h1 hk L dp h).1
  unfold lsh at hg ⊢
  rw [trimP_good _ _ (show GoodD (trimD _) from hg)]
  simp only
  split at f3 <;> omega
theorem lshs_dp : ∀ (f k : Nat) (x : List Nat × Int), 1 ≤ k → k ≤ 60 + 60 * f → GoodD x.1 → (lshs f k x).2 ≤ x.2 + 19 * ((k - 1) / 60 + 1 : Nat)
  | 0, k, x, h1, h2, h => by
    have := lsh_dp19 k x.1 x.2 h1 (by omega) h
    unfold lshs
    omega
  | f + 1, k, x, h1, h2, h => by
    unfold lshs
    split
    · obtain ⟨h3, _⟩ := lsh_good 60 (by omega) (by omega) x.1 x.2 h
      have h5 := lshs_dp f (k - 60) (lsh 60 x.1 x.2) (by omega) (by omega) h3
      have h6 := lsh_dp19 60 x.1 x.2 (by omega) (by omega) h
      omega
    · have := lsh_dp19 k x.1 x.2 h1 (by omega) h
      omega
end Go.Proofs.YtnklmcmdlobicaaGreatDoor
