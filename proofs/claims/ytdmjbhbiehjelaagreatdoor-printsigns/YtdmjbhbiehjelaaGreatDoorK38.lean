/- The errors' texts, of both sides (out of value's texts). -/
import Derived.Test.YtdmjbhbiehjelaaGreatDoorK35
namespace Go.Proofs.YtdmjbhbiehjelaaGreatDoor
open Go.RowKit Go.Shelf

def errL : List ByteArray := [⟨#[35, 78, 85, 76, 76, 33]⟩, ⟨#[35, 68, 73, 86, 47, 48, 33]⟩, ⟨#[35, 86, 65, 76, 85, 69, 33]⟩, ⟨#[35, 82, 69, 70, 33]⟩, ⟨#[35, 78, 65, 77, 69, 63]⟩, ⟨#[35, 78, 85, 77, 33]⟩, ⟨#[35, 78, 47, 65]⟩, ⟨#[35, 67, 89, 67, 76, 69, 33]⟩, ⟨#[35, 76, 73, 77, 73, 84, 33]⟩]
/-- The program's table of them lies where it should. -/
def EvTab (w : World) : Prop := 1 < w.heap.size ∧ ∀ i, i < 9 → w.cell? ⟨1, i, none⟩ = some (.string (errL.getD i ⟨#[]⟩))
theorem EvTab.fr {w w' : World} (h : EvTab w) (hF : Fr noB w w') : EvTab w' := ⟨Nat.lt_of_lt_of_le h.1 hF.size, fun i hi => (hF.cell (a := ⟨1, i, none⟩) h.1 id).trans (h.2 i hi)⟩
theorem EvTab.cell {w : World} (h : EvTab w) (i : Nat) (hi : i < 9) : w.cell? ⟨1, i, none⟩ = some (.string (errL.getD i ⟨#[]⟩)) := h.2 i hi
def eT (c : Int) : ByteArray := if 1 ≤ c ∧ c ≤ 9 then errL.getD (c - 1).toNat ⟨#[]⟩ else ⟨#[]⟩
set_option maxRecDepth 100000 in
theorem isCode_any (c : Int) (w : World) : Calls Tryz.prog 74 #[.int .i64 c] w fun e w' => e = .returned (.bool (decide (1 ≤ c ∧ c ≤ 9))) ∧ w' = w := by
  go_enter Tryz.func74, Tryz.ntmps74
  go_wp2
  all_goals
    go_ret
    refine ⟨lret ?_, rfl⟩
    rw [Bool.eq_iff_iff]
    simp
    try omega
set_option maxRecDepth 100000 in
set_option maxHeartbeats 1000000 in
theorem errText_any (c : Int) (w : World) (hT : EvTab w) : Calls Tryz.prog 43 #[.int .i64 c] w fun e w' => e = .returned (.string (eT c)) ∧ w' = w := by
  have HC := isCode_any c
  by_cases h : 1 ≤ c ∧ c ≤ 9
  · rw [decide_eq_true h] at HC
    obtain ⟨i, rfl⟩ : ∃ i : Nat, c = (i : Int) + 1 := ⟨(c - 1).toNat, by omega⟩
    have hc := hT.cell i (by omega)
    have hi : i < 9 := by omega
    have he : eT ((i : Int) + 1) = errL.getD i ⟨#[]⟩ := by
      unfold eT
      rw [if_pos h]
      congr 1
      omega
    rw [he]
    generalize errL.getD i ⟨#[]⟩ = t at *
    clear h hT he
    go_enter Tryz.func43, Tryz.ntmps43
    go_wp2_with (go_at_call 74; refine (HC _).mono ?_; rintro e w1 ⟨rfl, rfl⟩)
    go_ret
    exact ⟨rfl, rfl⟩
  · rw [decide_eq_false h] at HC
    have he : eT c = ⟨#[]⟩ := by unfold eT; rw [if_neg h]
    rw [he]
    clear h he
    go_enter Tryz.func43, Tryz.ntmps43
    go_wp2_with (go_at_call 74; refine (HC _).mono ?_; rintro e w1 ⟨rfl, rfl⟩)
    go_ret
    exact ⟨rfl, rfl⟩
set_option maxRecDepth 100000 in
set_option maxHeartbeats 2000000 in
theorem rerrText_any (c : Int) (w : World) : Calls Tryz.prog 32 #[.int .i64 c] w fun e w' => e = .returned (.string (eT c)) ∧ Fr noB w w' := by
  by_cases h : 1 ≤ c ∧ c ≤ 9
  · obtain ⟨i, rfl⟩ : ∃ i : Nat, c = (i : Int) + 1 := ⟨(c - 1).toNat, by omega⟩
    have hi : i < 9 := by omega
    have he : eT ((i : Int) + 1) = errL.getD i ⟨#[]⟩ := by
      unfold eT
      rw [if_pos h]
      congr 1
      omega
    rw [he]
    clear h he
    go_enter Tryz.func32, Tryz.ntmps32
    go_wp2_with fail
    all_goals
      go_ret
      refine ⟨?_, (Fr.refl noB w).alloc _⟩
      have e : i = 0 ∨ i = 1 ∨ i = 2 ∨ i = 3 ∨ i = 4 ∨ i = 5 ∨ i = 6 ∨ i = 7 ∨ i = 8 := by omega
      rcases e with rfl | rfl | rfl | rfl | rfl | rfl | rfl | rfl | rfl <;> rfl
  · have he : eT c = ⟨#[]⟩ := by unfold eT; rw [if_neg h]
    rw [he]
    clear he
    by_cases h1 : c < 1
    · clear h
      go_enter Tryz.func32, Tryz.ntmps32
      go_wp2_with fail
      go_ret
      exact ⟨rfl, (Fr.refl noB w).alloc _⟩
    · have h2 : 9 < c := by omega
      clear h
      go_enter Tryz.func32, Tryz.ntmps32
      go_wp2_with fail
      go_ret
      exact ⟨rfl, (Fr.refl noB w).alloc _⟩
#print axioms errText_any
#print axioms rerrText_any
end Go.Proofs.YtdmjbhbiehjelaaGreatDoor
/- Lexis' reader: a name. -/
namespace Go.Proofs.YtdmjbhbiehjelaaGreatDoor
open Go.RowKit Go.Shelf

theorem jumpsTo_ret (J : Nat → Act → World → Prop) (Q : Exit → Act → World → Prop) (a : Act) (w : World) : jumpsTo J Q .ret a w = Q .ret a w := rfl
/-- Where the characters of a kind end. -/
def endF (K : Int → Bool) (s : ByteArray) : Nat → Nat → Nat
  | 0, p => p
  | f + 1, p => if p < s.size ∧ K (lkR s p) = true then endF K s f (p + lkN s p) else p
theorem lkN_pos (s : ByteArray) (p : Nat) (h : p < s.size) : 1 ≤ lkN s p := by
  unfold lkN
  rw [if_pos h]
  exact width_pos s p h
theorem endF_fuel (K : Int → Bool) (s : ByteArray) : ∀ (f g p : Nat), s.size - p ≤ f → s.size - p ≤ g → endF K s f p = endF K s g p
  | 0, 0, _, _, _ => rfl
  | 0, g + 1, p, h1, _ => by rw [endF, endF, if_neg (by omega)]
  | f + 1, 0, p, _, h2 => by rw [endF, endF, if_neg (by omega)]
  | f + 1, g + 1, p, h1, h2 => by
    rw [endF, endF]
    split
    · rename_i h
      have := lkN_pos s p h.1
      exact endF_fuel K s f g _ (by omega) (by omega)
    · rfl
def endL (K : Int → Bool) (s : ByteArray) (p : Nat) : Nat := endF K s s.size p
theorem endL_step (K : Int → Bool) (s : ByteArray) (p : Nat) (h : p < s.size) (hk : K (lkR s p) = true) : endL K s p = endL K s (p + lkN s p) := by
  unfold endL
  obtain ⟨f, hf⟩ : ∃ f, s.size = f + 1 := ⟨s.size - 1, by omega⟩
  have hn := lkN_pos s p h
  rw [endF_fuel K s s.size (f + 1) p (by omega) (by omega), endF, if_pos ⟨h, hk⟩]
  exact endF_fuel K s f s.size _ (by omega) (by omega)
theorem endL_stop (K : Int → Bool) (s : ByteArray) (p : Nat) (h : ¬ (p < s.size ∧ K (lkR s p) = true)) : endL K s p = p := by
  unfold endL
  cases hs : s.size with
  | zero => rfl
  | succ f => rw [endF, if_neg h]
/-- Where a reader of lexis is. -/
def posL (w : World) (rb : Nat) : Nat := match w.cell? ⟨rb, 1, none⟩ with
  | some (.int _ n) => n.toNat
  | _ => 0
theorem lk_end (K : Int → Bool) (hK : K (-1) = false) (s : ByteArray) (p : Nat) (h : K (lkR s p) = true) : p < s.size := by
  by_cases hp : p < s.size
  · exact hp
  · rw [show lkR s p = -1 by unfold lkR; rw [if_neg hp], hK] at h
    cases h
theorem clone_lx (s : ByteArray) (w : World) (hs : s.size ≤ 281474976710656) : Calls Tryz.prog 148 #[.string s] w fun e w' => e = .returned (.string s) ∧ Fr noB w w' := clone_any s w hs
end Go.Proofs.YtdmjbhbiehjelaaGreatDoor
