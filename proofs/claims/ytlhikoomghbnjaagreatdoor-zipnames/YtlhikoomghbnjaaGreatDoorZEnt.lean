/- Entries in memory; the contract of zip.indexOf. -/
import Derived.Test.YtlhikoomghbnjaaGreatDoorZBas
namespace Go.Proofs.YtlhikoomghbnjaaGreatDoor
open Go.RowKit
attribute [local go_sem ↓] Go.wp_at_zero Go.wp_at_succ

/-- An entry: its name, where its bytes lie, is it stored? -/
structure Ent where
  nm : ByteArray
  ao : Option Addr
  len : Nat
  cap : Nat
  st : Bool
/-- Where the entries lie. -/
def EsAt (w : World) (ao : Option Addr) (E : List Ent) : Prop := E = [] ∨ ∃ b off, ao = some ⟨b, off, none⟩ ∧ b < w.heap.size ∧ ∀ i (h : i < E.length), w.cell? ⟨b, off + i * 3, none⟩ = some (.string E[i].nm) ∧ w.cell? ⟨b, off + i * 3 + 1, none⟩ = some (.slice E[i].ao E[i].len E[i].cap) ∧ w.cell? ⟨b, off + i * 3 + 2, none⟩ = some (.bool E[i].st)
theorem EsAt.keep {w w' : World} {ao : Option Addr} {E : List Ent} (h : EsAt w ao E) (hf : Fr noB w w') : EsAt w' ao E := by
  rcases h with h | ⟨b, off, rfl, hb, hc⟩
  · exact Or.inl h
  · exact Or.inr ⟨b, off, rfl, Nat.lt_of_lt_of_le hb hf.size, fun i hi => ⟨(hf.cell (a := ⟨b, off + i * 3, none⟩) hb id).trans (hc i hi).1, (hf.cell (a := ⟨b, off + i * 3 + 1, none⟩) hb id).trans (hc i hi).2.1, (hf.cell (a := ⟨b, off + i * 3 + 2, none⟩) hb id).trans (hc i hi).2.2⟩⟩
theorem EsAt.get {w : World} {ao : Option Addr} {E : List Ent} (h : EsAt w ao E) (i : Nat) (hi : i < E.length) : ∃ b off, ao = some ⟨b, off, none⟩ ∧ b < w.heap.size ∧ w.cell? ⟨b, off + i * 3, none⟩ = some (.string E[i].nm) ∧ w.cell? ⟨b, off + i * 3 + 1, none⟩ = some (.slice E[i].ao E[i].len E[i].cap) ∧ w.cell? ⟨b, off + i * 3 + 2, none⟩ = some (.bool E[i].st) := by
  rcases h with h | ⟨b, off, rfl, hb, hc⟩
  · subst h; simp at hi
  · exact ⟨b, off, rfl, hb, hc i hi⟩
/-- Where the first entry of a name stands, or -1. -/
def firstE : List Ent → ByteArray → Int
  | [], _ => -1
  | e :: E, s => if e.nm.toList == s.toList then 0 else if firstE E s = -1 then -1 else firstE E s + 1
theorem firstE_ge (E : List Ent) (s : ByteArray) : -1 ≤ firstE E s := by
  induction E with
  | nil => simp [firstE]
  | cons e E ih => simp only [firstE]; split <;> (try split) <;> omega
theorem firstE_hit (E : List Ent) (s : ByteArray) (k : Nat) (hk : k < E.length) (h1 : ∀ j (hj : j < E.length), j < k → (E[j].nm.toList == s.toList) = false) (h2 : (E[k].nm.toList == s.toList) = true) : firstE E s = (k : Int) := by
  induction E generalizing k with
  | nil => simp at hk
  | cons e E ih =>
    cases k with
    | zero =>
      have h2' : (e.nm.toList == s.toList) = true := by simpa using h2
      simp [firstE, h2']
    | succ k =>
      have h0 : (e.nm.toList == s.toList) = false := h1 0 (by simp) (by omega)
      have := ih k (by simpa using hk) (fun j hj h => h1 (j + 1) (by simpa using hj) (by omega)) h2
      simp only [firstE, h0, Bool.false_eq_true, if_false, this]
      rw [if_neg (by omega)]
      omega
theorem firstE_none (E : List Ent) (s : ByteArray) (h1 : ∀ j (hj : j < E.length), (E[j].nm.toList == s.toList) = false) : firstE E s = -1 := by
  induction E with
  | nil => rfl
  | cons e E ih =>
    have h0 : (e.nm.toList == s.toList) = false := h1 0 (by simp)
    have := ih (fun j hj => h1 (j + 1) (by simpa using hj))
    simp [firstE, h0, this]

set_option maxRecDepth 100000 in
set_option maxHeartbeats 1600000 in
theorem indexOf_any (ao : Option Addr) (cap : Nat) (E : List Ent) (s : ByteArray) (w : World) (h : EsAt w ao E) (hl : E.length ≤ 140737488355328) :
    Calls Tryz.prog 16 #[.slice ao E.length cap, .string s] w fun e w' => e = .returned (.int .i64 (firstE E s)) ∧ Fr noB w w' := by
  have HE : Hid (EsAt w ao E) := h
  clear h
  go_enter Tryz.func16, Tryz.ntmps16
  go_wp2_with fail
  go_loopw [9] (fun i wr => ∃ k : Nat, k ≤ E.length ∧ i = .int .i64 (k : Int) ∧ (∀ j (hj : j < E.length), j < k → (E[j].nm.toList == s.toList) = false) ∧ Fr noB w wr) (fun i _ => E.length - (intOf i).toNat)
  case atStart => exact ⟨0, Nat.zero_le _, rfl, fun j _ h => absurd h (Nat.not_lt_zero _), Fr.refl _ _⟩
  case round =>
    obtain ⟨k, hk, rfl, hall, hF⟩ := hrel
    have HA : Hid _ := hall
    clear hall
    by_cases hlt : k < E.length
    · obtain ⟨b, off, rfl, hb, c0, c1, c2⟩ := (HE.out.keep hF).get k hlt
      have HX : Hid (∀ x, E[k] = x → ∀ j (hj : j < E.length), j = k → E[j] = x) := fun x e j hj e2 => by subst e2; exact e
      obtain ⟨x, hx⟩ : ∃ x, E[k] = x := ⟨_, rfl⟩
      have HX3 : Hid _ := HX.out x hx
      rw [hx] at c0 c1 c2
      obtain ⟨nm, xao, xl, xc, st⟩ := x
      simp only at c0 c1 c2
      have hF2 := hF.alloc (.cells #[.string nm, .slice xao xl xc, .bool st] 29 (0, 0))
      clear HX hx
      cases hb : (nm.toList == s.toList) with
      | true =>
        have HR : Hid (firstE E s = (k : Int)) := firstE_hit E s k hlt HA.out (by rw [HX3.out k hlt rfl]; exact hb)
        go_wp2_with fail
        go_ret
        exact ⟨ret_int HR.out.symm, hF2⟩
      | false =>
        have HA2 : Hid (∀ j (hj : j < E.length), j < k + 1 → (E[j].nm.toList == s.toList) = false) := fun j hj h => by
          rcases Nat.lt_or_ge j k with h' | h'
          · exact HA.out j hj h'
          · rw [HX3.out j hj (by omega)]
            exact hb
        go_wp2_with fail
        refine ⟨⟨k + 1, by omega, rfl, HA2.out, hF2⟩, ?_⟩
        simp [intOf]
        omega
    · have HR : Hid (firstE E s = -1) := firstE_none E s (fun j hj => HA.out j hj (by omega))
      go_wp2_with fail
      go_ret
      exact ⟨ret_int HR.out.symm, hF⟩
#print axioms indexOf_any
end Go.Proofs.YtlhikoomghbnjaaGreatDoor
