/- Escape: the program's contract. -/
import Derived.Test.YtpefadblmgcpcaaDoorCLin
namespace Go.Proofs.YtpefadblmgcpcaaDoor
open Go.RowKit Go.Shelf

/-- What stands for a sign, if it is not the sign itself. -/
def escT (r : Nat) (attr : Bool) : Option ByteArray :=
  if r = 38 then some ⟨#[38, 97, 109, 112, 59]⟩ else if r = 60 then some ⟨#[38, 108, 116, 59]⟩ else if r = 62 then some ⟨#[38, 103, 116, 59]⟩ else if r = 13 then some ⟨#[38, 35, 49, 51, 59]⟩
  else if attr = true ∧ r = 34 then some ⟨#[38, 113, 117, 111, 116, 59]⟩ else if attr = true ∧ r = 9 then some ⟨#[38, 35, 57, 59]⟩ else if attr = true ∧ r = 10 then some ⟨#[38, 35, 49, 48, 59]⟩ else none
theorem escT_low (r : Nat) (attr : Bool) (t : ByteArray) (h : escT r attr = some t) : r < 128 ∧ t.size ≤ 6 := by
  unfold escT at h
  repeat' split at h
  all_goals first | (injection h with h; subst h; exact ⟨by omega, by decide⟩) | cases h
theorem escT_high (r : Nat) (attr : Bool) (h : 128 ≤ r) : escT r attr = none := by
  cases e : escT r attr with
  | none => rfl
  | some t => have := (escT_low r attr t e).1; omega
def gEsc (s : ByteArray) (attr : Bool) (j : Nat) : List UInt8 := match escT (s.get! j).toNat attr with
  | some t => t.data.toList
  | none => [s.get! j]
theorem esc_ok (s : ByteArray) (attr : Bool) (p : Nat) (_hp : p < s.size) : ((fun _ r => escT r attr) p (Utf8.decode s p).1 = none → ∀ j, p ≤ j → j < p + (Utf8.decode s p).2 → gEsc s attr j = [s.get! j]) ∧ (∀ t, (fun _ r => escT r attr) p (Utf8.decode s p).1 = some t → (Utf8.decode s p).2 = 1 ∧ gEsc s attr p = t.data.toList) := by
  have hlow := dec_low s p
  have hcont := cont_high s p
  constructor
  · intro ho j h1 h2
    simp only at ho
    have hn : escT (s.get! j).toNat attr = none := by
      by_cases ej : j = p
      · subst ej
        by_cases h128 : (s.get! j).toNat < 128
        · rw [dec_ascii s j h128] at ho
          exact ho
        · exact escT_high _ _ (by omega)
      · exact escT_high _ _ (hcont j (by omega) h2)
    unfold gEsc
    rw [hn]
  · intro t ho
    simp only at ho
    obtain ⟨h1, h2, h3⟩ := hlow (escT_low _ _ _ ho).1
    refine ⟨h3, ?_⟩
    rw [h2] at ho
    unfold gEsc
    rw [ho]
set_option maxRecDepth 100000 in
set_option maxHeartbeats 1000000 in
theorem reference_any (r : Nat) (attr : Bool) (w : World) : Calls Tryd.prog 44 #[.int .i32 (r : Int), .bool attr] w fun e w' => e = .returned (.tuple #[.string (otT (escT r attr)), .bool (escT r attr).isSome]) ∧ w' = w := by
  obtain ⟨R, hR⟩ : ∃ R, escT r attr = R := ⟨_, rfl⟩
  rw [hR]
  unfold escT at hR
  have HR : Hid _ := hR
  clear hR
  have k1 : ∀ k : Nat, ((r : Int) = (k : Int)) = (r = k) := fun k => propext ⟨fun h => by omega, fun h => by omega⟩
  go_enter Tryd.func44, Tryd.ntmps44
  cases attr
  all_goals
    clear k1
    go_wp2_with fail
  all_goals
    go_ret2
    have h := HR.out
    refine ⟨?_, rfl⟩
    simp only [Bool.false_eq_true, false_and, if_false, true_and] at h
    repeat' split at h
    all_goals first
      | (subst h; rfl)
      | (exfalso; simp at *; omega)
      | (exfalso; omega)
set_option maxRecDepth 100000 in
set_option maxHeartbeats 1000000 in
theorem escapeC_any (attr : Bool) (b p r : Nat) (w : World) (hc : w.cell? ⟨b, 0, none⟩ = some (.bool attr)) :
    Calls Tryd.prog 43 #[.int .i64 (p : Int), .int .i32 (r : Int), .pointer (some ⟨b, 0, none⟩)] w fun e w' => e = .returned (.tuple #[.string (otT (escT r attr)), .bool (escT r attr).isSome]) ∧ Fr noB w w' := by
  have HH := reference_any r attr
  go_enter Tryd.func43, Tryd.ntmps43
  go_wp2_with (go_at_call 44; refine (HH _).mono ?_; rintro e w1 ⟨rfl, rfl⟩)
  go_ret2
  exact ⟨rfl, Fr.refl _ _⟩
/-- A text as XML has it. -/
def escF (s : ByteArray) (attr : Bool) : ByteArray × Int := if (validF s).2 then (⟨(fromB s (gEsc s attr) 0).toArray⟩, 0) else (⟨#[]⟩, 50)
set_option maxRecDepth 100000 in
set_option maxHeartbeats 1000000 in
theorem escape_any (s : ByteArray) (attr : Bool) (w : World) (hs : s.size ≤ 1048576) : Calls Tryd.prog 15 #[.string s, .bool attr] w fun e w' => e = .returned (.tuple #[.string (escF s attr).1, .int .i64 (escF s attr).2]) ∧ Fr noB w w' := by
  have hbx : (w.alloc (.cells #[.bool attr] 4 (0, 0))).cell? ⟨w.heap.size, 0, none⟩ = some (.bool attr) := cellOf (heap_alloc_new _ _) rfl
  have HV := valid_any s (w.alloc (.cells #[.bool attr] 4 (0, 0)))
  have HBX : Hid (∀ W, Fr noB (w.alloc (.cells #[.bool attr] 4 (0, 0))) W → W.cell? ⟨w.heap.size, 0, none⟩ = some (.bool attr)) := fun W hF => (hF.cell (lt_of_cell hbx) id).trans hbx
  have HR : Hid (∀ W, Fr noB (w.alloc (.cells #[.bool attr] 4 (0, 0))) W → Calls Tryd.prog 42 #[.string s, .func (.func 43) #[] #[.pointer (some ⟨w.heap.size, 0, none⟩)]] W fun e w' => e = .returned (.string ⟨(fromB s (gEsc s attr) 0).toArray⟩) ∧ Fr noB W w') := by
    intro W hW
    have := rewritten_escape s (.pointer (some ⟨w.heap.size, 0, none⟩)) (fun _ r => escT r attr) W hs (fun p r t ht => (escT_low r attr t ht).2)
      (fun W2 p r hF _ => escapeC_any attr w.heap.size p r W2 (HBX.out W2 (hW.trans hF)))
    rw [rwF_bytes s _ (gEsc s attr) (esc_ok s attr)] at this
    exact this
  clear hbx HBX
  unfold escF
  obtain ⟨⟨va, vo⟩, hv⟩ : ∃ d, validF s = d := ⟨_, rfl⟩
  rw [hv] at HV ⊢
  simp only at HV ⊢
  clear hv
  generalize (⟨(fromB s (gEsc s attr) 0).toArray⟩ : ByteArray) = E at *
  cases vo with
  | false =>
    go_enter Tryd.func15, Tryd.ntmps15
    go_wp2_with (go_at_call 8; with_reducible refine HV.mono ?_; rintro e w1 ⟨rfl, hF⟩)
    go_ret2
    exact ⟨rfl, ((Fr.refl noB w).alloc _).trans hF⟩
  | true =>
    go_enter Tryd.func15, Tryd.ntmps15
    go_wp2_with (first | (go_at_call 8; with_reducible refine HV.mono ?_; rintro e w1 ⟨rfl, hF⟩) | (go_at_call 42; with_reducible refine (HR.out _ hF).mono ?_; rintro e w2 ⟨rfl, hF2⟩))
    go_ret2
    exact ⟨rfl, (((Fr.refl noB w).alloc _).trans hF).trans hF2⟩
#print axioms escape_any
end Go.Proofs.YtpefadblmgcpcaaDoor
