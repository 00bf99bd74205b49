/- What BitioBack's walk wants besides: operations in a row of their own; what is written by bits is read by bits. -/
import Derived.Test.YtokgolmioonbfaaWr2
import Derived.Test.YtokgolmioonbfaaOpen
namespace Go.Proofs.Ytokgolmioonbfaa
open Go.RowKit

/-- One operation as it was written. -/
structure QOp where
  kind : Int
  n : Nat
  v : Nat
  da : Option Addr
  dl : Nat
  dc : Nat

def qcells (q : QOp) : List Value := [.int .i64 q.kind, .int .i64 (q.n : Int), .int .u32 (q.v : Int), .slice q.da q.dl q.dc]
def qbits (Q : List QOp) : List Bool := Q.flatMap fun q => bitsN q.v q.n
def qall (Q : List QOp) : List Value := Q.flatMap qcells

theorem qbits_snoc (Q : List QOp) (q : QOp) : qbits (Q ++ [q]) = qbits Q ++ bitsN q.v q.n := by simp [qbits]
theorem qbits_append (A B : List QOp) : qbits (A ++ B) = qbits A ++ qbits B := by simp [qbits]
theorem qbits_cons (q : QOp) (B : List QOp) : qbits (q :: B) = bitsN q.v q.n ++ qbits B := by simp [qbits]
theorem qall_snoc (Q : List QOp) (q : QOp) : qall (Q ++ [q]) = qall Q ++ qcells q := by simp [qall]
theorem qall_length (Q : List QOp) : (qall Q).length = Q.length * 4 := by
  induction Q with
  | nil => rfl
  | cons q Q ih => simp [qall, qcells] at ih ⊢; omega
theorem qbits_le (Q : List QOp) (h : ∀ q ∈ Q, q.n ≤ 32 ∧ q.v < 2 ^ q.n) : (qbits Q).length ≤ 32 * Q.length := by
  induction Q with
  | nil => simp [qbits]
  | cons q Q ih =>
    have h1 := (h q (by simp)).1
    have h2 := ih (fun q' hq => h q' (by simp [hq]))
    simp [qbits] at h2 ⊢
    omega
theorem qall_get (Q : List QOp) (k j : Nat) (hk : k < Q.length) (hj : j < 4) : (qall Q)[k * 4 + j]? = (qcells Q[k])[j]? := by
  induction Q generalizing k with
  | nil => simp at hk
  | cons q Q ih =>
    have e : qall (q :: Q) = qcells q ++ qall Q := by simp [qall]
    have hq : (qcells q).length = 4 := rfl
    rw [e]
    cases k with
    | zero => rw [List.getElem?_append_left (by omega)]; simp
    | succ k =>
      rw [List.getElem?_append_right (by omega), hq, show (k + 1) * 4 + j - 4 = k * 4 + j from by omega, ih k (by simpa using hk)]
      simp

/-- Where the reader stands behind k of them. -/
def posQ (Q : List QOp) (k : Nat) : Nat := (qbits (Q.take k)).length
theorem posQ_zero (Q : List QOp) : posQ Q 0 = 0 := by simp [posQ, qbits]
theorem posQ_all (Q : List QOp) : posQ Q Q.length = (qbits Q).length := by simp [posQ]
theorem take_snoc_q (Q : List QOp) (k : Nat) (hk : k < Q.length) : Q.take (k + 1) = Q.take k ++ [Q[k]] := by
  rw [List.take_succ_eq_append_getElem hk]
theorem posQ_succ (Q : List QOp) (k : Nat) (hk : k < Q.length) : posQ Q (k + 1) = posQ Q k + Q[k].n := by
  unfold posQ
  rw [take_snoc_q Q k hk, qbits_snoc]
  simp
theorem posQ_le (Q : List QOp) (k : Nat) : posQ Q k ≤ (qbits Q).length := by
  have e : qbits Q = qbits (Q.take k) ++ qbits (Q.drop k) := (congrArg qbits (List.take_append_drop k Q).symm).trans (qbits_append _ _)
  unfold posQ
  rw [e, List.length_append]
  omega
theorem qbits_at (Q : List QOp) (k i : Nat) (hk : k < Q.length) (hi : i < Q[k].n) : (qbits Q).getD (posQ Q k + i) false = Q[k].v.testBit i := by
  have e : qbits Q = qbits (Q.take k) ++ (bitsN Q[k].v Q[k].n ++ qbits (Q.drop (k + 1))) := by
    have e1 : Q = Q.take k ++ (Q[k] :: Q.drop (k + 1)) := by rw [← List.drop_eq_getElem_cons hk, List.take_append_drop]
    exact (congrArg qbits e1).trans (by rw [qbits_append, qbits_cons])
  rw [e]
  have h1 : (qbits (Q.take k)).length = posQ Q k := rfl
  simp only [List.getD_eq_getElem?_getD]
  rw [List.getElem?_append_right (by omega), h1, show posQ Q k + i - posQ Q k = i from by omega, List.getElem?_append_left (by simpa using hi)]
  simp [bitsN, hi]

theorem bitAt_pack (l : List Bool) (i : Nat) : bitAt (packB l) i = l.getD i false := by
  unfold bitAt
  by_cases h : i / 8 < (l.length + 7) / 8
  · have h1 : (packB l).getD (i / 8) 0 = byteOf l (i / 8) := by
      have h2 : i / 8 < (packB l).length := by simpa using h
      rw [List.getD_eq_getElem?_getD, List.getElem?_eq_getElem h2, packB_get l (i / 8) h]; rfl
    rw [h1]
    unfold byteOf
    rw [testBit_ofB]
    have h3 : i % 8 < 8 := by omega
    have h4 : 8 * (i / 8) + i % 8 = i := by omega
    simp [h3, h4]
  · have h1 : (packB l).getD (i / 8) 0 = 0 := by
      have h2 : ¬ i / 8 < (packB l).length := by simpa using h
      simp at h2
      simp [h]
    rw [h1, getD_false _ _ (by omega)]
    simp

theorem num_back (Q : List QOp) (k : Nat) (hk : k < Q.length) (hq : Q[k].v < 2 ^ Q[k].n) : numAt (packB (qbits Q)) (posQ Q k) Q[k].n = Q[k].v := by
  unfold numAt
  rw [ofB_congr _ Q[k].v.testBit _ (fun i hi => by rw [bitAt_pack, qbits_at Q k i hk hi]), ofB_testBit]
  exact Nat.mod_eq_of_lt hq

theorem own_frE {S : Nat → Prop} {w w' : World} {base e size n : Nat} {v : Value} {xs : List Value} (h : w.ownsRow base e size v n xs) (hf : Fr S w w') (hs : ∀ k cs fr, S k → base ≤ k → w.heap[k]? ≠ some (.cells cs e fr)) : w'.ownsRow base e size v n xs := by
  obtain ⟨h1, h2⟩ := h
  refine ⟨h1, ?_⟩
  rcases h2 with h2 | ⟨g, cap, cur, hv, hg, hh, r⟩
  · exact Or.inl h2
  · exact Or.inr ⟨g, cap, cur, hv, hg, hf.obj hh (fun hk => hs g _ _ hk hg hh), r⟩

theorem WrIs.fr {S : Nat → Prop} {w w' : World} {wb : Nat} {l : List Bool} (h : WrIs w wb l) (hf : Fr S w w') (h1 : ¬ S wb) (h2 : ∀ k cs fr, S k → wb + 1 ≤ k → w.heap[k]? ≠ some (.cells cs 5 fr)) : WrIs w' wb l := by
  obtain ⟨sv, hW, hown⟩ := h
  exact ⟨sv, hf.obj hW h1, own_frE hown hf h2⟩
theorem WrIs.same {w w' : World} {wb : Nat} {l : List Bool} (h : WrIs w wb l) (hf : Fr noB w w') : WrIs w' wb l := h.fr hf id (fun _ _ _ hk => hk.elim)

theorem Try.info31 : (Try.prog.info? 31).map (fun i => (i.zero, i.size, i.bytes)) = some (some (.agg #[.int .i64 0, .int .i64 0, .int .u32 0, .slice none 0 0]), 4, 48) := by kernel_rfl
#print axioms num_back
end Go.Proofs.Ytokgolmioonbfaa
