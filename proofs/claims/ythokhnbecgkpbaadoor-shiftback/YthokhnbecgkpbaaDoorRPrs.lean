/- A reference's text, read from the left: plain. No Go text here. -/
import Derived.Test.YthokhnbecgkpbaaDoorRPln
import Derived.Lib.AtoiAll
namespace Go.Proofs.YthokhnbecgkpbaaDoor

/-- Stands the sign c at p? -/
def isAt (s : ByteArray) (c p : Nat) : Bool := decide (p < s.size) && byt s p == c
/-- Behind the sign, if it stands there. -/
def past (s : ByteArray) (c p : Nat) : Nat := if isAt s c p = true then p + 1 else p
/-- A row's number, from 0 on. -/
def rowF (t : ByteArray) : Option Nat :=
  match Lib.atoiAll t.data.toList with
  | .ok v => if v ≤ 1048576 ∧ byt t 0 ≠ 48 then some (v - 1).toNat else none
  | _ => none
/-- A sheet's name: what it says, and where it ends. -/
def shA (s : ByteArray) (p : Nat) : Except (Nat × Int) (ByteArray × Nat) :=
  if isAt s 39 p = true then
    (if endK nquK s (p + 1) < s.size then
      (if shtF (s.extract (p + 1) (endK nquK s (p + 1))) = true ∧ wrdF (s.extract (p + 1) (endK nquK s (p + 1))) = false then .ok (s.extract (p + 1) (endK nquK s (p + 1)), endK nquK s (p + 1) + 1) else .error (p, 111))
     else .error (s.size, 110))
  else if endK wrdK s p = p then .ok (⟨#[]⟩, p)
  else if shtF (s.extract p (endK wrdK s p)) = true ∧ wrdF (s.extract p (endK wrdK s p)) = true then .ok (s.extract p (endK wrdK s p), endK wrdK s p) else .error (p, 111)
def coA (s : ByteArray) (p : Nat) : Except (Nat × Int) (Nat × Nat) :=
  match colF (s.extract p (endK capK s p)) with
  | some n => .ok (n, endK capK s p)
  | none => .error (p, 110)
def roA (s : ByteArray) (p : Nat) : Except (Nat × Int) (Nat × Nat) :=
  match rowF (s.extract p (endK digK s p)) with
  | some n => .ok (n, endK digK s p)
  | none => .error (p, 110)
/-- A corner: row, column, their signs; where it ends. -/
def crA (s : ByteArray) (p : Nat) : Except (Nat × Int) ((Nat × Nat × Bool × Bool) × Nat) :=
  match coA s (past s 36 p) with
  | .error e => .error e
  | .ok (c, q) => match roA s (past s 36 q) with
    | .error e => .error e
    | .ok (r, z) => .ok ((r, c, isAt s 36 q, isAt s 36 p), z)
/-- A point and a corner. -/
def ptA (s : ByteArray) (p : Nat) : Except (Nat × Int) ((Nat × Nat × Bool × Bool) × Nat) :=
  if isAt s 46 p = true then crA s (p + 1) else .error (p, 110)
/-- The last sheet's name. -/
def toA (s : ByteArray) (first : ByteArray) (p : Nat) : Except (Nat × Int) (ByteArray × Nat) :=
  match shA s p with
  | .error e => .error e
  | .ok (t, q) => if t.size = 0 ∨ first.size ≠ 0 then .ok (t, q) else .error (p, 110)
/-- A reference in plain words. -/
structure RefW where
  sheet : ByteArray
  to : ByteArray
  fixed : Bool
  area : Bool
  ar : Nat
  ac : Nat
  aR : Bool
  aC : Bool
  br : Nat
  bc : Nat
  bR : Bool
  bC : Bool
/-- What stands behind the first corner. -/
def tlA (s : ByteArray) (fx : Bool) (t : ByteArray) (k : Nat × Nat × Bool × Bool) (p : Nat) : Except (Nat × Int) RefW :=
  if isAt s 58 p = true then
    (match toA s t (p + 1) with
     | .error e => .error e
     | .ok (u, q) => match ptA s q with
       | .error e => .error e
       | .ok (m, z) => if z = s.size then .ok ⟨t, u, fx, true, k.1, k.2.1, k.2.2.1, k.2.2.2, m.1, m.2.1, m.2.2.1, m.2.2.2⟩ else .error (z, 110))
  else if p = s.size then .ok ⟨t, ⟨#[]⟩, fx, false, k.1, k.2.1, k.2.2.1, k.2.2.2, 0, 0, false, false⟩ else .error (p, 110)
def rfA (s : ByteArray) : Except (Nat × Int) RefW :=
  match shA s (past s 36 0) with
  | .error e => .error e
  | .ok (t, q) =>
    if isAt s 36 0 = true ∧ t.size = 0 then .error (q, 110)
    else match ptA s q with
      | .error e => .error e
      | .ok (k, z) => tlA s (isAt s 36 0) t k z

theorem past_le (s : ByteArray) (c p : Nat) (h : p ≤ s.size) : p ≤ past s c p ∧ past s c p ≤ s.size := by
  unfold past isAt
  split
  · rename_i h2
    simp at h2
    omega
  · omega
theorem shA_le {s : ByteArray} {p : Nat} {t : ByteArray} {q : Nat} (hp : p ≤ s.size) (h : shA s p = .ok (t, q)) : p ≤ q ∧ q ≤ s.size ∧ t.size ≤ 64 := by
  unfold shA at h
  split at h
  · rename_i h0
    have h0' : p < s.size := by simp [isAt] at h0; exact h0.1
    split at h
    · rename_i h1
      split at h
      · rename_i h2
        have := endK_ge nquK s (p + 1)
        have h3 := (shtF_size h2.1).2
        cases h
        exact ⟨by omega, by omega, h3⟩
      · cases h
    · cases h
  · split at h
    · cases h
      exact ⟨Nat.le_refl _, hp, by decide⟩
    · split at h
      · rename_i h2
        have h3 := (shtF_size h2.1).2
        have h4 := endK_ge wrdK s p
        have h5 := endK_le wrdK s p hp
        cases h
        exact ⟨h4, h5, h3⟩
      · cases h
theorem coA_le {s : ByteArray} {p n q : Nat} (hp : p ≤ s.size) (h : coA s p = .ok (n, q)) : p ≤ q ∧ q ≤ s.size ∧ n < 1024 := by
  unfold coA at h
  split at h
  · rename_i m hm
    cases h
    exact ⟨endK_ge _ _ _, endK_le _ _ _ hp, colF_lt hm⟩
  · cases h
theorem rowF_lt {t : ByteArray} {n : Nat} (h : rowF t = some n) : n < 1048576 := by
  unfold rowF at h
  split at h
  · split at h
    · cases h; omega
    · cases h
  · cases h
theorem roA_le {s : ByteArray} {p n q : Nat} (hp : p ≤ s.size) (h : roA s p = .ok (n, q)) : p ≤ q ∧ q ≤ s.size ∧ n < 1048576 := by
  unfold roA at h
  split at h
  · rename_i m hm
    cases h
    exact ⟨endK_ge _ _ _, endK_le _ _ _ hp, rowF_lt hm⟩
  · cases h
theorem crA_ok {s : ByteArray} {p r c z : Nat} {x y : Bool} (h : crA s p = .ok ((r, c, x, y), z)) : ∃ q, coA s (past s 36 p) = .ok (c, q) ∧ roA s (past s 36 q) = .ok (r, z) ∧ x = isAt s 36 q ∧ y = isAt s 36 p := by
  unfold crA at h
  split at h
  · cases h
  · rename_i c' q hc
    split at h
    · cases h
    · rename_i r' z' hr
      cases h
      exact ⟨q, hc, hr, rfl, rfl⟩
theorem crA_le {s : ByteArray} {p z : Nat} {k : Nat × Nat × Bool × Bool} (hp : p ≤ s.size) (h : crA s p = .ok (k, z)) : p ≤ z ∧ z ≤ s.size := by
  obtain ⟨r, c, x, y⟩ := k
  obtain ⟨q, h1, h2, _, _⟩ := crA_ok h
  have a := past_le s 36 p hp
  have b := coA_le a.2 h1
  have d := past_le s 36 q b.2.1
  have e := roA_le d.2 h2
  omega
#print axioms crA_le
end Go.Proofs.YthokhnbecgkpbaaDoor
