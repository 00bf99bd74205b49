/- The reader that goes through a stretch of a file: the contracts of its methods where the stretch is long enough. -/
import Derived.Test.YtlhikoomghbnjaaGreatDoorZOut2
namespace Go.Proofs.YtlhikoomghbnjaaGreatDoor
open Go.RowKit
attribute [local go_sem ↓] Go.wp_at_zero Go.wp_at_succ

/-- A reader lies in block rb: its bytes B, where it is gone on, what is answered. -/
structure RdrIs (w : World) (rb : Nat) (t : TypeId) (cs : Array Value) (ao : Option Addr) (cap : Nat) (B : List Nat) (p : Nat) (lack : Nat) : Prop where
  at_ : w.heap[rb]? = some (.cells cs t (0, 0))
  c0 : cs[0]? = some (.slice ao B.length cap)
  c1 : cs[1]? = some (.int .i64 (p : Int))
  c2 : cs[2]? = some (.int .i64 (lack : Int))
  le : B.length ≤ cap
  max : cap ≤ maxLen
  nil : ao = none → cap = 0
  row : BsAt w ao B
  ne : ∀ b off sp, ao = some ⟨b, off, sp⟩ → b ≠ rb
theorem RdrIs.keep {w w' : World} {rb : Nat} {t : TypeId} {cs : Array Value} {ao : Option Addr} {cap : Nat} {B : List Nat} {p lack : Nat} (h : RdrIs w rb t cs ao cap B p lack) (hF : Fr noB w w') : RdrIs w' rb t cs ao cap B p lack :=
  ⟨hF.obj h.at_ id, h.c0, h.c1, h.c2, h.le, h.max, h.nil, h.row.keep hF, h.ne⟩
theorem RdrIs.set {w : World} {rb : Nat} {t : TypeId} {cs : Array Value} {ao : Option Addr} {cap : Nat} {B : List Nat} {p lack : Nat} (h : RdrIs w rb t cs ao cap B p lack) (q : Nat) : RdrIs (w.setCell ⟨rb, 1, none⟩ (.int .i64 (q : Int))) rb t (cs.setIfInBounds 1 (.int .i64 (q : Int))) ao cap B q lack := by
  have h1 : 1 < cs.size := by
    rcases Nat.lt_or_ge 1 cs.size with h' | h'
    · exact h'
    · have := h.c1
      rw [Array.getElem?_eq_none h'] at this
      cases this
  refine ⟨setOf 1 _ h.at_, ?_, ?_, ?_, h.le, h.max, h.nil, ?_, h.ne⟩
  · rw [Array.getElem?_setIfInBounds_ne (by decide)]; exact h.c0
  · rw [Array.getElem?_setIfInBounds_self_of_lt h1]
  · rw [Array.getElem?_setIfInBounds_ne (by decide)]; exact h.c2
  · rcases h.row with h3 | ⟨b, off, rfl, hb, hc⟩
    · exact Or.inl h3
    · have hne := h.ne b off none rfl
      refine Or.inr ⟨b, off, rfl, by simpa [World.setCell] using hb, fun i hi => ?_⟩
      rw [← hc i hi]
      exact World.cell?_of_block (Below.heap_setCell _ _ _ _ hne)

set_option maxRecDepth 100000 in
set_option maxHeartbeats 800000 in
theorem left_any (rb : Nat) (t : TypeId) (cs : Array Value) (ao : Option Addr) (cap : Nat) (B : List Nat) (p q lack : Nat) (w : World) (h : RdrIs w rb t cs ao cap B p lack) (hq : p + q = B.length) :
    Calls Tryz.prog 41 #[.pointer (some ⟨rb, 0, none⟩)] w fun e w' => e = .returned (.int .i64 (q : Int)) ∧ ∃ m, w' = w.drewN m := by
  have d0 : w.cell? ⟨rb, 0, none⟩ = some (.slice ao B.length cap) := cellOf h.at_ h.c0
  have d1 : w.cell? ⟨rb, 1, none⟩ = some (.int .i64 (p : Int)) := cellOf h.at_ h.c1
  have hm := h.max
  have hl := h.le
  unfold maxLen at hm
  clear h
  have HQ : Hid (p + q = B.length) := hq
  clear hq
  have h1 : p ≤ B.length := by have := HQ.out; omega
  go_enter Tryz.func41, Tryz.ntmps41
  go_wp2_with fail
  go_quiet (fail)
  go_wp2_with fail
  go_ret
  exact ⟨ret_int (by have := HQ.out; omega), _, rfl⟩

set_option maxRecDepth 100000 in
theorem hold_true (x : Int) (w : World) :
    Calls Tryz.prog 40 #[.bool true, .int .i64 x] w fun e w' => e = .returned (.tuple #[]) ∧ w' = w := by
  go_enter Tryz.func40, Tryz.ntmps40
  go_wp2_with fail
  go_end0
  exact ⟨rfl, rfl⟩

theorem hold_ok (b : Bool) (hb : b = true) (x : Int) (w : World) :
    Calls Tryz.prog 40 #[.bool b, .int .i64 x] w fun e w' => e = .returned (.tuple #[]) ∧ w' = w := by
  subst hb
  exact hold_true x w

theorem bs_cut {w : World} {ao : Option Addr} {cap p n : Nat} {B : List Nat} (h : BsAt w ao B) (hle : B.length ≤ cap) (hmax : cap ≤ maxLen) (hnil : ao = none → cap = 0) (hn : p + n ≤ B.length) : Bs w (.slice (ao.map fun x => x.add p) n (cap - p)) ((B.drop p).take n) := by
  have hl : ((B.drop p).take n).length = n := by simp; omega
  refine ⟨_, cap - p, by rw [hl], by omega, by omega, fun e => ?_, ?_⟩
  · have : ao = none := by simpa using e
    have := hnil this
    omega
  · rcases h with rfl | ⟨b, off, rfl, hb, hc⟩
    · left; simp
    · right
      refine ⟨b, off + p, by simp [add_none], hb, fun i hi => ?_⟩
      rw [hl] at hi
      have := hc (p + i) (by omega)
      rw [show off + p + i = off + (p + i) by omega, this]
      simp
theorem bs_none {w : World} {ao : Option Addr} (B : List Nat) {p : Nat} : Bs w (.slice ao 0 0) ((B.drop p).take 0) := by
  refine ⟨ao, 0, by simp, by simp, by unfold maxLen; omega, fun _ => rfl, Or.inl (by simp)⟩

set_option maxRecDepth 100000 in
set_option maxHeartbeats 800000 in
theorem take_good (rb n r : Nat) (t : TypeId) (cs : Array Value) (ao : Option Addr) (cap : Nat) (B : List Nat) (p lack : Nat) (w : World) (h : RdrIs w rb t cs ao cap B p lack) (hr : p + n = r) (hn : r ≤ B.length) :
    Calls Tryz.prog 59 #[.pointer (some ⟨rb, 0, none⟩), .int .i64 (n : Int)] w fun e w' => ∃ ao' c', e = .returned (.slice ao' n c') ∧ Bs w' (.slice ao' n c') ((B.drop p).take n) ∧ (∀ b off sp, ao' = some ⟨b, off, sp⟩ → b ≠ rb) ∧ RdrIs w' rb t (cs.setIfInBounds 1 (.int .i64 (r : Int))) ao cap B r lack ∧ Fr (oneB rb) w w' := by
  obtain ⟨q, hq⟩ : ∃ q, p + q = B.length := ⟨B.length - p, by omega⟩
  have HH : Hid (RdrIs w rb t cs ao cap B p lack) := h
  have d0 : w.cell? ⟨rb, 0, none⟩ = some (.slice ao B.length cap) := cellOf h.at_ h.c0
  have d1 : w.cell? ⟨rb, 1, none⟩ = some (.int .i64 (p : Int)) := cellOf h.at_ h.c1
  have d2 : w.cell? ⟨rb, 2, none⟩ = some (.int .i64 (lack : Int)) := cellOf h.at_ h.c2
  have z1 : w.frozen? ⟨rb, 1, none⟩ = false := freeOf 1 h.at_
  have HQ : Hid (p + q = B.length) := hq
  have hnq : n ≤ q := by omega
  have hm := h.max
  have hl := h.le
  have hnl := h.nil
  unfold maxLen at hm
  have HR : Hid (p + n = r) := hr
  have b0 : (p : Int) + (n : Int) = (r : Int) := by omega
  have b1 : (r : Int) ≤ (cap : Int) := by omega
  have b2 : (p : Int) ≤ (r : Int) := by omega
  have b3 : (r : Int) ≤ (B.length : Int) := by omega
  have e1 : (r : Int) - (p : Int) = (n : Int) := by omega
  have e2 : r - p = n := by omega
  have HS : Hid (∀ M, RdrIs ((w.drewN M).setCell ⟨rb, 1, none⟩ (.int .i64 (r : Int))) rb t (cs.setIfInBounds 1 (.int .i64 (r : Int))) ao cap B r lack) := fun M => (h.keep ((Fr.refl noB w).drewN M)).set r
  clear h hr
  go_enter Tryz.func59, Tryz.ntmps59
  go_wp2_with fail
  go_region_held3 (fun w' => w'.cell? ⟨rb, 2, none⟩ = some (.int .i64 (lack : Int))) (exact d2)
    (first | (go_at_call 41; refine (left_any rb t cs ao cap B p q lack _ (HH.out.keep ((Fr.refl noB w).drew)) HQ.out).mono ?_; rintro e w1 ⟨rfl, m, rfl⟩) | (go_at_call 40; refine (hold_true _ _).mono ?_; rintro e w2 ⟨rfl, rfl⟩))
  go_wp2_with fail
  go_quiet (fail)
  go_wp2_with fail
  · go_ret
    have h0 : n = 0 := by have := HR.out; omega
    subst h0
    have hS := HS.out
    rw [show cap = p by omega] at hS
    exact ⟨_, _, rfl, bs_none B, HH.out.ne, hS _, ((Fr.refl _ w).drewN _).setOne _ _⟩
  · go_ret
    refine ⟨_, _, rfl, bs_cut (HS.out _).row hl (HS.out 0).max hnl (by have := HR.out; omega), ?_, HS.out _, ((Fr.refl _ w).drewN _).setOne _ _⟩
    intro b off sp e
    obtain ⟨a, ha, he⟩ := Option.map_eq_some_iff.1 e
    obtain ⟨b', off', sp'⟩ := a
    have hne := HH.out.ne b' off' sp' ha
    have hb : b' = b := by
      unfold Addr.add at he
      split at he <;> cases he <;> rfl
    rw [← hb]
    exact hne
#print axioms take_good
end Go.Proofs.YtlhikoomghbnjaaGreatDoor
