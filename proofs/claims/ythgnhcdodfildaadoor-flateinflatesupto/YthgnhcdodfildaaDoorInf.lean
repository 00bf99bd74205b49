/- The inflater in memory; the contracts of its small methods. -/
import Derived.Test.YthgnhcdodfildaaDoorK08
import Derived.Test.YthgnhcdodfildaaDoorWr2
import Derived.Test.YthgnhcdodfildaaDoorEq
import Derived.Deep.RegionHeld3
import Derived.Deep.DrawnRows
namespace Go.Proofs.YthgnhcdodfildaaDoor
open Go.RowKit
attribute [local go_sem ↓] Go.wp_at_zero Go.wp_at_succ

/-- What the inflater at fb with the reader at rb may change. -/
def iS (w : World) (fb rb : Nat) : Nat → Prop := fun k => k = rb ∨ wS w fb k
theorem itrans {a b c : World} {fb rb : Nat} (h : Fr (iS a fb rb) a b) (k : Fr (iS b fb rb) b c) : Fr (iS a fb rb) a c := by
  refine ⟨k.os.trans h.os, k.tape.trans h.tape, k.output.trans h.output, Nat.le_trans h.size k.size, fun i hi hn => ?_⟩
  have e := h.block i hi hn
  refine (k.block i (Nat.lt_of_lt_of_le hi h.size) (fun hs => hn ?_)).trans e
  rcases hs with hs | hs | ⟨hs, cs, fr, hh⟩
  · exact Or.inl hs
  · exact Or.inr (Or.inl hs)
  · rw [e] at hh
    exact Or.inr (Or.inr ⟨hs, cs, fr, hh⟩)
/-- The inflater at fb: its reader's place p in the bytes B, how many bytes may be said, what was said. -/
structure InfIs (w : World) (fb rb g : Nat) (B : List Nat) (p : Nat) (most : Int) (sv : Value) (sd : List Nat) (lt ds : Option Addr) : Prop where
  at_ : w.heap[fb]? = some (.cells #[.pointer (some ⟨rb, 0, none⟩), .int .i64 most, sv, .pointer lt, .pointer ds] 50 (0, 0))
  own : w.ownsRow (fb + 1) 5 1 sv sd.length (byteVals sd)
  rd : RdAt w rb g B.length p
  row : RowAt w g B
  rlt : rb < fb
  glt : g < fb
  ne : rb ≠ g
theorem InfIs.rdr {w w' : World} {fb rb g p p' : Nat} {B sd : List Nat} {most : Int} {sv : Value} {lt ds : Option Addr} (h : InfIs w fb rb g B p most sv sd lt ds) (hF : Fr (oneB rb) w w') (hr : RdAt w' rb g B.length p') : InfIs w' fb rb g B p' most sv sd lt ds := by
  refine ⟨hF.obj h.at_ (fun e => ?_), ?_, hr, hF.obj h.row (fun e => ?_), h.rlt, h.glt, h.ne⟩
  · have := h.rlt; have e' : fb = rb := e; omega
  · obtain ⟨o1, o2⟩ := h.own
    refine ⟨o1, ?_⟩
    rcases o2 with o2 | ⟨g', cap', cur', k1, k2, k3, k4⟩
    · exact Or.inl o2
    · exact Or.inr ⟨g', cap', cur', k1, k2, hF.obj k3 (fun e => by have := h.rlt; have e' : g' = rb := e; omega), k4⟩
  · exact h.ne e.symm
theorem InfIs.keep {S : Nat → Prop} {w w' : World} {fb rb g p : Nat} {B sd : List Nat} {most : Int} {sv : Value} {lt ds : Option Addr} (h : InfIs w fb rb g B p most sv sd lt ds) (hF : Fr S w w') (h1 : ¬ S fb) (h2 : ¬ S rb) (h3 : ¬ S g) (h4 : ∀ k cur, fb < k → w.heap[k]? = some (.cells cur 5 (0, 0)) → ¬ S k) : InfIs w' fb rb g B p most sv sd lt ds := by
  refine ⟨hF.obj h.at_ h1, ?_, hF.obj h.rd h2, hF.obj h.row h3, h.rlt, h.glt, h.ne⟩
  obtain ⟨o1, o2⟩ := h.own
  refine ⟨o1, ?_⟩
  rcases o2 with o2 | ⟨g', cap', cur', k1, k2, k3, k4⟩
  · exact Or.inl o2
  · exact Or.inr ⟨g', cap', cur', k1, k2, hF.obj k3 (h4 g' _ (by omega) k3), k4⟩
theorem Fr.toI {w w' : World} {fb rb : Nat} (h : Fr (oneB rb) w w') : Fr (iS w fb rb) w w' := h.mono fun _ _ hk => Or.inl hk

set_option maxHeartbeats 800000 in
theorem ibits_good (fb rb g p n : Nat) (B sd : List Nat) (most : Int) (sv : Value) (lt ds : Option Addr) (w : World) (h : InfIs w fb rb g B p most sv sd lt ds) (hB : ∀ x ∈ B, x < 256) (hl : B.length ≤ 140737488355328) (hn : n ≤ 32) (hle : p + n ≤ 8 * B.length) :
    Calls Tryd.prog 35 #[.pointer (some ⟨fb, 0, none⟩), .int .i64 (n : Int)] w fun e w' => e = .returned (.tuple #[.int .i64 ((numAt B p n : Nat) : Int), .int .i64 0]) ∧ InfIs w' fb rb g B (p + n) most sv sd lt ds ∧ Fr (oneB rb) w w' := by
  have HC := bits_good rb g p n B w h.rd h.row hB hl hn hle
  have c0 := cellOf (o := 0) h.at_ rfl
  have HI : Hid (InfIs w fb rb g B p most sv sd lt ds) := h
  have hlt : numAt B p n < 4294967296 := Nat.lt_of_lt_of_le (numAt_lt B p n) (Nat.pow_le_pow_right (n := 2) (by decide) hn)
  generalize numAt B p n = x at *
  clear h
  go_enter Tryd.func35, Tryd.ntmps35
  go_wp2_with fail
  refine HC.mono ?_
  rintro e w1 ⟨rfl, hr, hF⟩
  go_wp2_with fail
  go_ret2
  exact ⟨by simp, HI.out.rdr hF hr, hF⟩

set_option maxHeartbeats 800000 in
theorem ibytes_good (fb rb g p n f : Nat) (B sd : List Nat) (most : Int) (sv : Value) (lt ds : Option Addr) (w : World) (h : InfIs w fb rb g B p most sv sd lt ds) (hp : p ≤ 8 * B.length) (hl : B.length ≤ 140737488355328) (hf : f = (p + 7) / 8) (hn : f + n ≤ B.length) :
    Calls Tryd.prog 49 #[.pointer (some ⟨fb, 0, none⟩), .int .i64 (n : Int)] w fun e w' => ∃ v, e = .returned (.tuple #[v, .int .i64 0]) ∧ w'.ownsRow w.heap.size 5 1 v n (byteVals ((B.drop f).take n)) ∧ InfIs w' fb rb g B (8 * (f + n)) most sv sd lt ds ∧ Fr (oneB rb) w w' := by
  have HC := bytes_good rb g p n f B w h.rd h.row hp hl hf hn
  have c0 := cellOf (o := 0) h.at_ rfl
  have HI : Hid (InfIs w fb rb g B p most sv sd lt ds) := h
  clear h hf
  go_enter Tryd.func49, Tryd.ntmps49
  go_wp2_with fail
  refine HC.mono ?_
  rintro e w1 ⟨v, rfl, hown, hr, hF⟩
  obtain ⟨so, sc, rfl, -⟩ := own_slice hown
  have HO : Hid _ := hown
  clear hown
  go_wp2_with fail
  go_ret2
  exact ⟨_, rfl, HO.out, HI.out.rdr hF hr, hF⟩

set_option maxHeartbeats 800000 in
theorem room_any' (fb rb g p : Nat) (B sd : List Nat) (most : Int) (sv : Value) (lt ds : Option Addr) (w : World) (h : InfIs w fb rb g B p most sv sd lt ds) (hl : sd.length ≤ 140737488355328) (hm : 0 ≤ most) (hm2 : most ≤ 9223372036854775807) :
    Calls Tryd.prog 51 #[.pointer (some ⟨fb, 0, none⟩)] w fun e w' => e = .returned (.int .i64 (most - (sd.length : Int))) ∧ InfIs w' fb rb g B p most sv sd lt ds ∧ Fr noB w w' := by
  obtain ⟨so, sc, rfl, -⟩ := own_slice h.own
  have c1 := cellOf (o := 1) h.at_ rfl
  have c2 := cellOf (o := 2) h.at_ rfl
  have HI : Hid (InfIs w fb rb g B p most (.slice so sd.length sc) sd lt ds) := h
  clear h
  go_enter Tryd.func51, Tryd.ntmps51
  go_wp2_with fail
  go_quiet (fail)
  go_wp2_with fail
  go_ret
  exact ⟨by simp, HI.out.keep ((Fr.refl noB _).drewN _) id id id (fun _ _ _ _ h => h), (Fr.refl noB _).drewN _⟩
#print axioms ibits_good
end Go.Proofs.YthgnhcdodfildaaDoor
