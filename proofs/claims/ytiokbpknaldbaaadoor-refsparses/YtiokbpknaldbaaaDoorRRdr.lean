/- The reader that goes through a reference's text: hold, skip, need, run. -/
import Derived.Test.YtiokbpknaldbaaaDoorRSht
import Derived.Deep.RegionWith
import Derived.RegionTactic
namespace Go.Proofs.YtiokbpknaldbaaaDoor
open Go.RowKit Go.Shelf

/-- What is thrown: a place and an error. -/
def thr (a : Nat) (c : Int) : Ending := .panicked [{ v := .iface 41 (.agg #[.int .i64 (a : Int), .int .i64 c]), recovered := false }]
set_option maxRecDepth 100000 in
theorem hold_ok (x c : Int) (w : World) : Calls Tryd.prog 30 #[.bool true, .int .i64 x, .int .i64 c] w fun e w' => e = .returned (.tuple #[]) ∧ w' = w := by
  go_enter Tryd.func30, Tryd.ntmps30
  go_wp2_with fail
  go_end0
  exact ⟨rfl, rfl⟩
set_option maxRecDepth 100000 in
theorem hold_no (a : Nat) (c : Int) (w : World) : Calls Tryd.prog 30 #[.bool false, .int .i64 (a : Int), .int .i64 c] w fun e w' => e = thr a c ∧ w' = w := by
  go_enter Tryd.func30, Tryd.ntmps30
  go_wp2_with fail
  exact ⟨rfl, rfl, rfl⟩

/-- A reader lies in block rb: its text, and where it is gone on. -/
structure RdAt (w : World) (rb : Nat) (s : ByteArray) (p : Nat) : Prop where
  at_ : w.heap[rb]? = some (.cells #[.string s, .int .i64 (p : Int)] 43 (0, 0))
theorem RdAt.fr {w w' : World} {rb : Nat} {s : ByteArray} {p : Nat} {S : Nat → Prop} (h : RdAt w rb s p) (hF : Fr S w w') (hs : ¬ S rb) : RdAt w' rb s p := ⟨hF.obj h.at_ hs⟩
theorem RdAt.c0 {w : World} {rb : Nat} {s : ByteArray} {p : Nat} (h : RdAt w rb s p) : w.cell? ⟨rb, 0, none⟩ = some (.string s) := cellOf h.at_ rfl
theorem RdAt.c1 {w : World} {rb : Nat} {s : ByteArray} {p : Nat} (h : RdAt w rb s p) : w.cell? ⟨rb, 1, none⟩ = some (.int .i64 (p : Int)) := cellOf h.at_ rfl
theorem RdAt.f1 {w : World} {rb : Nat} {s : ByteArray} {p : Nat} (h : RdAt w rb s p) : w.frozen? ⟨rb, 1, none⟩ = false := freeOf 1 h.at_
theorem RdAt.set {w : World} {rb : Nat} {s : ByteArray} {p : Nat} (h : RdAt w rb s p) (q : Nat) : RdAt (w.setCell ⟨rb, 1, none⟩ (.int .i64 (q : Int))) rb s q := ⟨setOf 1 _ h.at_⟩
theorem RdAt.lt {w : World} {rb : Nat} {s : ByteArray} {p : Nat} (h : RdAt w rb s p) : rb < w.heap.size := lt_of_block h.at_

theorem pre_one (s : ByteArray) (c p : Nat) (hp : p ≤ s.size) (hc : c < 256) : Lib.hasPrefix (s.extract p s.size).data.toList (⟨#[UInt8.ofNat c]⟩ : ByteArray).data.toList = isAt s c p := by
  unfold Lib.hasPrefix isAt
  have hz : (s.extract p s.size).size = s.size - p := by simp
  by_cases h : p < s.size
  · have hb := byt_tail s p 0 (by omega)
    rw [← byt_at _ 0 (by omega), Nat.add_zero] at hb
    have hl : (s.extract p s.size).data.toList = (s.extract p s.size)[0]'(by omega) :: (s.extract p s.size).data.toList.drop 1 := by
      have hl0 : 0 < (s.extract p s.size).data.toList.length := by simp; omega
      conv => lhs; rw [← List.drop_zero (l := (s.extract p s.size).data.toList), List.drop_eq_getElem_cons hl0]
      rfl
    rw [hl, decide_eq_true h, ← hb]
    generalize (s.extract p s.size)[0]'(by omega) = b
    show (UInt8.ofNat c == b && true) = (true && (b.toNat == c))
    rw [Bool.and_true, Bool.true_and, Bool.eq_iff_iff, beq_iff_eq, beq_iff_eq]
    constructor
    · intro e; rw [← e, UInt8.toNat_ofNat']; omega
    · intro e; rw [← e]; exact UInt8.ofNat_toNat
  · have hl : (s.extract p s.size).data.toList = [] := by
      have : (s.extract p s.size).data.toList.length = 0 := by simp; omega
      exact List.length_eq_zero_iff.1 this
    rw [hl, decide_eq_false h]
    rfl
theorem hasPre_any (s t : ByteArray) (w : World) : Calls Tryd.prog 42 #[.string s, .string t] w fun e w' => e = .returned (.bool (Lib.hasPrefix s.data.toList t.data.toList)) ∧ w' = w :=
  Any.strings_HasPrefix Tryd.laysLaysn99 s t w
set_option maxRecDepth 100000 in
set_option maxHeartbeats 2000000 in
theorem skip_any (rb : Nat) (s : ByteArray) (c p : Nat) (hc : c < 256) (w : World) (h : RdAt w rb s p) (hp : p ≤ s.size) (hz : s.size ≤ 140737488355328) :
    Calls Tryd.prog 28 #[.pointer (some ⟨rb, 0, none⟩), .string ⟨#[UInt8.ofNat c]⟩] w fun e w' => e = .returned (.bool (isAt s c p)) ∧ RdAt w' rb s (past s c p) ∧ Fr (oneB rb) w w' := by
  have d0 := h.c0
  have d1 := h.c1
  have f1 := h.f1
  have HH : Hid (RdAt w rb s p) := h
  have HP := hasPre_any (s.extract p s.size) ⟨#[UInt8.ofNat c]⟩
  rw [pre_one s c p hp hc] at HP
  have z1 : (⟨#[UInt8.ofNat c]⟩ : ByteArray).size = 1 := rfl
  generalize (⟨#[UInt8.ofNat c]⟩ : ByteArray) = t at *
  clear h
  cases hi : isAt s c p with
  | true =>
    have hp2 : p < s.size := by simp [isAt] at hi; exact hi.1
    have HS : Hid (past s c p = p + 1) := by show past s c p = _; unfold past; rw [if_pos hi]
    rw [hi] at HP
    clear hi
    go_enter Tryd.func28, Tryd.ntmps28
    go_wp2_with fail
    go_quiet ((go_at_call 42; exact Calls.quiet_of_same (HP _)))
    go_wp2_with fail
    go_ret
    rw [HS.out]
    refine ⟨rfl, ?_, ((Fr.refl _ w).drewN _).setOne _ _⟩
    exact (HH.out.fr ((Fr.refl noB w).drewN _) id).set (p + 1)
  | false =>
    have HS : Hid (past s c p = p) := by show past s c p = _; unfold past; rw [if_neg (by rw [hi]; simp)]
    rw [hi] at HP
    clear hi
    go_enter Tryd.func28, Tryd.ntmps28
    go_wp2_with fail
    go_quiet ((go_at_call 42; exact Calls.quiet_of_same (HP _)))
    go_wp2_with fail
    go_ret
    rw [HS.out]
    exact ⟨rfl, HH.out.fr ((Fr.refl noB w).drewN _) id, (Fr.refl _ w).drewN _⟩
set_option maxRecDepth 100000 in
set_option maxHeartbeats 4000000 in
theorem need_ok (rb : Nat) (s : ByteArray) (c p : Nat) (hc : c < 256) (w : World) (h : RdAt w rb s p) (hp : p ≤ s.size) (hz : s.size ≤ 140737488355328) (hi : isAt s c p = true) :
    Calls Tryd.prog 31 #[.pointer (some ⟨rb, 0, none⟩), .string ⟨#[UInt8.ofNat c]⟩] w fun e w' => e = .returned (.tuple #[]) ∧ RdAt w' rb s (p + 1) ∧ Fr (oneB rb) w w' := by
  have d1 := h.c1
  have HS : Hid (∀ W, RdAt W rb s p → Calls Tryd.prog 28 #[.pointer (some ⟨rb, 0, none⟩), .string ⟨#[UInt8.ofNat c]⟩] W fun e w' => e = .returned (.bool true) ∧ RdAt w' rb s (p + 1) ∧ Fr (oneB rb) W w') := fun W hW => by
    have e := skip_any rb s c p hc W hW hp hz
    rw [hi, show past s c p = p + 1 by unfold past; rw [if_pos hi]] at e
    exact e
  have HH : Hid (RdAt w rb s p) := h
  have H1 := HS.out w.drew (h.fr (Fr.refl noB w).drew id)
  clear h hi
  generalize (⟨#[UInt8.ofNat c]⟩ : ByteArray) = t at *
  go_enter Tryd.func31, Tryd.ntmps31
  go_wp2_with fail
  go_region_with (first | (go_at_call 28; refine (show Calls _ _ _ _ _ from H1).mono ?_; rintro e w1 ⟨rfl, hR, hF⟩; have d2 := hR.c1) | (go_at_call 30; refine (hold_ok _ _ _).mono ?_; rintro e w2 ⟨rfl, rfl⟩))
  all_goals
    go_end0
    exact ⟨rfl, hR, Fr.trans ((Fr.refl _ _).drew) hF⟩
#print axioms need_ok
#print axioms skip_any
end Go.Proofs.YtiokbpknaldbaaaDoor
