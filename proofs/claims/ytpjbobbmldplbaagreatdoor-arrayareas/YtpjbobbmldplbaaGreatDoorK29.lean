/- An array with its rows as columns: the list of its values. -/
import Derived.Test.YtpjbobbmldplbaaGreatDoorACop
namespace Go.Proofs.YtpjbobbmldplbaaGreatDoor

/-- The values of an array of r rows and c columns, column by column. -/
def turnN (r c : Nat) (L : List Vv) : List Vv := (List.range (r * c)).map (fun j => L[(j % r) * c + j / r]!)
theorem turn_len (r c : Nat) (L : List Vv) : (turnN r c L).length = r * c := by simp [turnN]
theorem turn_at {r c i k : Nat} (hi : i < c) (hk : k < r) : i * r + k < r * c := by
  have h1 := Nat.mul_le_mul_right r (show i + 1 ≤ c by omega)
  rw [Nat.add_mul, Nat.one_mul, Nat.mul_comm c r] at h1
  omega
theorem turn_of {r c i k : Nat} (hi : i < c) (hk : k < r) : k * c + i < r * c := by
  have h1 := Nat.mul_le_mul_right c (show k + 1 ≤ r by omega)
  rw [Nat.add_mul, Nat.one_mul] at h1
  omega
theorem turn_div {r i k : Nat} (hk : k < r) : (i * r + k) % r = k ∧ (i * r + k) / r = i := by
  constructor
  · rw [Nat.add_comm, Nat.add_mul_mod_self_right, Nat.mod_eq_of_lt hk]
  · rw [Nat.add_comm, Nat.add_mul_div_right _ _ (by omega), Nat.div_eq_of_lt hk]; omega
theorem turn_get {r c i k : Nat} (L : List Vv) (hk : k < r) (h : i * r + k < (turnN r c L).length) (h2 : k * c + i < L.length) : (turnN r c L)[i * r + k] = L[k * c + i] := by
  simp only [turnN, List.getElem_map, List.getElem_range, (turn_div (i := i) hk).1, (turn_div (i := i) hk).2]
  exact getElem!_pos L _ h2
/-- One value more: of row k and column i. -/
theorem turn_snoc {r c i k : Nat} (L : List Vv) (hi : i < c) (hk : k < r) (h2 : k * c + i < L.length) : (turnN r c L).take (i * r + k + 1) = (turnN r c L).take (i * r + k) ++ [L[k * c + i]] := by
  have h := turn_at hi hk
  rw [take_snoc _ _ (by rw [turn_len]; exact h), turn_get L hk (by rw [turn_len]; exact h) h2]
theorem turn_row {r i : Nat} : i * r + r = (i + 1) * r := by rw [Nat.add_mul, Nat.one_mul]
theorem turn_all (r c : Nat) (L : List Vv) : (turnN r c L).take (c * r) = turnN r c L := by
  rw [← turn_len r c L |>.trans (Nat.mul_comm r c), List.take_length]
theorem turn_mem {r c : Nat} {L : List Vv} (hL : L.length = r * c) {v : Vv} (h : v ∈ turnN r c L) : v ∈ L := by
  obtain ⟨j, hj, rfl⟩ := List.mem_map.1 h
  rw [List.mem_range] at hj
  have hr : 0 < r := by rcases Nat.eq_zero_or_pos r with h | h; · rw [h, Nat.zero_mul] at hj; omega
                        · exact h
  have h1 : j / r < c := by rw [Nat.div_lt_iff_lt_mul hr, Nat.mul_comm]; exact hj
  have h2 := turn_of h1 (Nat.mod_lt j hr)
  rw [getElem!_pos L _ (by rw [hL]; exact h2)]
  exact List.getElem_mem _
#print axioms turn_mem
end Go.Proofs.YtpjbobbmldplbaaGreatDoor
/- What an array that may be has of rows and columns; the cells of a list of values by their number. -/
namespace Go.Proofs.YtpjbobbmldplbaaGreatDoor
open Go.RowKit

theorem arrF_ok {f : Vv → Int} {r c : Int} {L : List Vv} (h : arrF f r c L = 0) : ∃ R C : Nat, r = (R : Int) ∧ c = (C : Int) ∧ L.length = R * C ∧ R * C ≤ 4096 ∧ 1 ≤ R ∧ 1 ≤ C := by
  unfold arrF at h
  by_cases h1 : r < 1 ∨ c < 1
  · rw [if_pos h1] at h; omega
  rw [if_neg h1] at h
  by_cases h2 : 4096 < r * c
  · rw [if_pos h2] at h; omega
  rw [if_neg h2] at h
  by_cases h3 : (L.length : Int) ≠ r * c
  · rw [if_pos h3] at h; omega
  obtain ⟨R, rfl⟩ := Int.eq_ofNat_of_zero_le (show 0 ≤ r by omega)
  obtain ⟨C, rfl⟩ := Int.eq_ofNat_of_zero_le (show 0 ≤ c by omega)
  have e : (R : Int) * (C : Int) = ((R * C : Nat) : Int) := (Int.natCast_mul R C).symm
  rw [e] at h2 h3
  exact ⟨R, C, rfl, rfl, by omega, by omega, by omega, by omega⟩
theorem vs_cells {w : World} {b off : Nat} {L : List Vv} (h : VsAt w (some ⟨b, off, none⟩) L) : ∀ j u, (vsC L)[j]? = some u → w.cell? ((⟨b, off, none⟩ : Addr).add j) = some u := by
  intro j u hj
  have hlen := vsC_len L
  have hjl : j < (vsC L).length := by
    rcases Nat.lt_or_ge j (vsC L).length with h | h
    · exact h
    · rw [List.getElem?_eq_none h] at hj; cases hj
  have hi : j / 5 < L.length := by omega
  have hm : j % 5 < 5 := Nat.mod_lt _ (by omega)
  have hd : j / 5 * 5 + j % 5 = j := by omega
  have hg := vsC_get L (j / 5) hi (j % 5) hm
  rw [hd, hj] at hg
  obtain ⟨b2, off2, he, _, c0, c1, c2, c3, c4⟩ := h.get (j / 5) hi
  injection he with he1
  injection he1 with he2 he3
  subst he2 he3
  have ha : (⟨b, off, none⟩ : Addr).add j = ⟨b, off + j / 5 * 5 + j % 5, none⟩ := by
    rw [Nat.add_assoc, hd]
    simp [Addr.add]
  rw [ha]
  generalize j % 5 = jj at *
  match jj, hm, hg with
  | 0, _, hg => simp [vC] at hg; subst hg; exact c0
  | 1, _, hg => simp [vC] at hg; subst hg; exact c1
  | 2, _, hg => simp [vC] at hg; subst hg; exact c2
  | 3, _, hg => simp [vC] at hg; subst hg; exact c3
  | 4, _, hg => simp [vC] at hg; subst hg; exact c4
#print axioms vs_cells
#print axioms arrF_ok
end Go.Proofs.YtpjbobbmldplbaaGreatDoor
