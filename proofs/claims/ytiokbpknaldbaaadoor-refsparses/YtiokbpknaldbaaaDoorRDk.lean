/- The document's reader: is, take, fail. -/
import Derived.Test.YtiokbpknaldbaaaDoorRRno
import Derived.Test.YtiokbpknaldbaaaDoorRRfC
import Derived.Test.YtiokbpknaldbaaaDoorRRfN
import Derived.BigQuiet
namespace Go.Proofs.YtiokbpknaldbaaaDoor
open Go.RowKit Go.Shelf

/-- The document's reader lies in block pb: its text, its place, what is bad and why. -/
structure DAt (w : World) (pb : Nat) (s : ByteArray) (p : Nat) (bd : Nat) (e : Int) : Prop where
  o : w.heap[pb]? = some (.cells #[.string s, .int .i64 (p : Int), .int .i64 (bd : Int), .int .i64 e] 47 (0, 0))
theorem DAt.fr {S : Nat → Prop} {w w' : World} {pb : Nat} {s : ByteArray} {p bd : Nat} {e : Int} (h : DAt w pb s p bd e) (hF : Fr S w w') (hB : ¬ S pb) : DAt w' pb s p bd e := ⟨hF.obj h.o hB⟩
section
variable {w : World} {pb : Nat} {s : ByteArray} {p bd : Nat} {e : Int} (h : DAt w pb s p bd e)
include h
theorem DAt.c0 : w.cell? ⟨pb, 0, none⟩ = some (.string s) := cellOf (o := 0) h.o rfl
theorem DAt.c1 : w.cell? ⟨pb, 1, none⟩ = some (.int .i64 (p : Int)) := cellOf (o := 1) h.o rfl
theorem DAt.c2 : w.cell? ⟨pb, 2, none⟩ = some (.int .i64 (bd : Int)) := cellOf (o := 2) h.o rfl
theorem DAt.c3 : w.cell? ⟨pb, 3, none⟩ = some (.int .i64 e) := cellOf (o := 3) h.o rfl
theorem DAt.f : ∀ o, w.frozen? ⟨pb, o, none⟩ = false := fun o => freeOf o h.o
theorem DAt.s1 (q : Nat) : DAt (w.setCell ⟨pb, 1, none⟩ (.int .i64 (q : Int))) pb s q bd e := ⟨setOf 1 _ h.o⟩
theorem DAt.s2 (q : Nat) : DAt (w.setCell ⟨pb, 2, none⟩ (.int .i64 (q : Int))) pb s p q e := ⟨setOf 2 _ h.o⟩
theorem DAt.s3 (q : Int) : DAt (w.setCell ⟨pb, 3, none⟩ (.int .i64 q)) pb s p bd q := ⟨setOf 3 _ h.o⟩
theorem DAt.setO (b o : Nat) (v : Value) (hb : pb ≠ b) : DAt (w.setCell ⟨b, o, none⟩ v) pb s p bd e := ⟨(Below.heap_setCell _ _ _ _ hb).trans h.o⟩
theorem DAt.lt : pb < w.heap.size := lt_of_block h.o
end
set_option maxRecDepth 100000 in
set_option maxHeartbeats 2000000 in
theorem is_ok (pb : Nat) (s : ByteArray) (p bd c : Nat) (w : World) (h : DAt w pb s p bd 0) (hp : p ≤ s.size) :
    Calls Tryd.prog 34 #[.pointer (some ⟨pb, 0, none⟩), .int .u8 (c : Int)] w fun r w' => r = .returned (.bool (isAt s c p)) ∧ Fr noB w w' := by
  have d0 := h.c0; have d1 := h.c1; have d3 := h.c3
  by_cases hlt : p < s.size
  · have hl : (p : Int) < (s.size : Int) := by omega
    have hb := byt_at s p hlt
    obtain ⟨b, hbb⟩ : ∃ b, byt s p = b := ⟨_, rfl⟩
    have hbl := byt_lt s p
    rw [hbb] at hb hbl
    have hx : ∀ hh, (s[p]'hh).toNat = b := fun _ => hb
    by_cases hbc : b = c
    · have HV : Hid (isAt s c p = true) := by show isAt s c p = true; simp [isAt, hlt, hbb, hbc]
      subst hbc
      clear h hbb hb
      go_enter Tryd.func34, Tryd.ntmps34
      go_wp2_with fail
      go_quiet (fail)
      go_wp2_with fail
      rw [HV.out]
      go_ret
      exact ⟨rfl, (Fr.refl noB w).drewN _⟩
    · have HV : Hid (isAt s c p = false) := by show isAt s c p = false; simp [isAt, hbb, hbc]
      have hbi : ((b : Int) == (c : Int)) = false := by
        have : ¬ (b : Int) = (c : Int) := by omega
        simpa using this
      clear h hbb hb hbc
      go_enter Tryd.func34, Tryd.ntmps34
      go_wp2_with fail
      go_quiet (fail)
      go_wp2_with fail
      rw [HV.out]
      go_ret
      exact ⟨rfl, (Fr.refl noB w).drewN _⟩
  · have HV : Hid (isAt s c p = false) := by show isAt s c p = false; simp [isAt, hlt]
    have hl : decide ((p : Int) < (s.size : Int)) = false := decide_eq_false (by omega)
    clear h
    go_enter Tryd.func34, Tryd.ntmps34
    go_wp2_with fail
    go_quiet (fail)
    go_wp2_with fail
    rw [HV.out]
    go_ret
    exact ⟨rfl, (Fr.refl noB w).drewN _⟩
set_option maxRecDepth 100000 in
set_option maxHeartbeats 2000000 in
theorem is_e (pb : Nat) (s : ByteArray) (p bd c : Nat) (e : Int) (w : World) (h : DAt w pb s p bd e) (he : ¬ e = 0) :
    Calls Tryd.prog 34 #[.pointer (some ⟨pb, 0, none⟩), .int .u8 (c : Int)] w fun r w' => r = .returned (.bool false) ∧ Fr noB w w' := by
  have d0 := h.c0; have d1 := h.c1; have d3 := h.c3
  have he2 : (e == 0) = false := by simpa using he
  clear h
  go_enter Tryd.func34, Tryd.ntmps34
  go_wp2_with fail
  go_quiet (fail)
  go_wp2_with fail
  go_ret
  exact ⟨rfl, (Fr.refl noB w).drewN _⟩
set_option maxRecDepth 100000 in
theorem fail_ok (pb : Nat) (s : ByteArray) (p bd a : Nat) (d : Int) (w : World) (h : DAt w pb s p bd 0) :
    Calls Tryd.prog 20 #[.pointer (some ⟨pb, 0, none⟩), .int .i64 (a : Int), .int .i64 d] w fun r w' => r = .returned (.tuple #[]) ∧ DAt w' pb s p a d ∧ Fr (oneB pb) w w' := by
  have d2 := h.c2; have d3 := h.c3; have f := h.f
  have HH : Hid _ := h
  clear h
  go_enter Tryd.func20, Tryd.ntmps20
  go_wp2_with fail
  go_end0
  exact ⟨rfl, (HH.out.s2 a).s3 d, ((Fr.refl _ w).setOne _ _).setOne _ _⟩
set_option maxRecDepth 100000 in
theorem fail_e (pb : Nat) (s : ByteArray) (p bd : Nat) (a : Int) (d e : Int) (w : World) (h : DAt w pb s p bd e) (he : ¬ e = 0) :
    Calls Tryd.prog 20 #[.pointer (some ⟨pb, 0, none⟩), .int .i64 a, .int .i64 d] w fun r w' => r = .returned (.tuple #[]) ∧ DAt w' pb s p bd e ∧ Fr (oneB pb) w w' := by
  have d3 := h.c3
  have he2 : (e == 0) = false := by simpa using he
  have HH : Hid _ := h
  clear h
  go_enter Tryd.func20, Tryd.ntmps20
  go_wp2_with fail
  go_end0
  exact ⟨rfl, HH.out, Fr.refl _ w⟩
set_option maxRecDepth 100000 in
set_option maxHeartbeats 2000000 in
theorem take_ok (pb : Nat) (s : ByteArray) (p bd c : Nat) (w : World) (h : DAt w pb s p bd 0) (hz : s.size ≤ 140737488355328) (hp : p ≤ s.size) :
    Calls Tryd.prog 18 #[.pointer (some ⟨pb, 0, none⟩), .int .u8 (c : Int)] w fun r w' => r = .returned (.bool (isAt s c p)) ∧ DAt w' pb s (past s c p) bd 0 ∧ Fr (oneB pb) w w' := by
  have HI := is_ok pb s p bd c w h hp
  have HH : Hid _ := h
  cases hi : isAt s c p with
  | true =>
    have HP : Hid (past s c p = p + 1) := by show past s c p = p + 1; unfold past; rw [if_pos hi]
    have hlt : p < s.size := isAt_size hi
    rw [hi] at HI
    clear h hi
    go_enter Tryd.func18, Tryd.ntmps18
    go_wp2_with (go_at_call 34; refine HI.mono ?_; rintro r w1 ⟨rfl, hF⟩; have h1 := HH.out.fr hF id; have d1 := h1.c1; have f := h1.f)
    go_ret
    rw [HP.out]
    refine ⟨rfl, ?_, (hF.weak).setOne _ _⟩
    exact h1.s1 (p + 1)
  | false =>
    have HP : Hid (past s c p = p) := by show past s c p = p; unfold past; rw [if_neg (by rw [hi]; simp)]
    rw [hi] at HI
    clear h hi
    go_enter Tryd.func18, Tryd.ntmps18
    go_wp2_with (go_at_call 34; refine HI.mono ?_; rintro r w1 ⟨rfl, hF⟩)
    go_ret
    rw [HP.out]
    exact ⟨rfl, HH.out.fr hF id, hF.weak⟩
theorem take_e (pb : Nat) (s : ByteArray) (p bd c : Nat) (e : Int) (w : World) (h : DAt w pb s p bd e) (he : ¬ e = 0) :
    Calls Tryd.prog 18 #[.pointer (some ⟨pb, 0, none⟩), .int .u8 (c : Int)] w fun r w' => r = .returned (.bool false) ∧ DAt w' pb s p bd e ∧ Fr (oneB pb) w w' := by
  have HI := is_e pb s p bd c e w h he
  have HH : Hid _ := h
  clear h
  go_enter Tryd.func18, Tryd.ntmps18
  go_wp2_with (go_at_call 34; refine HI.mono ?_; rintro r w1 ⟨rfl, hF⟩)
  go_ret
  exact ⟨rfl, HH.out.fr hF id, hF.weak⟩
#print axioms is_ok
#print axioms take_ok
#print axioms take_e
end Go.Proofs.YtiokbpknaldbaaaDoor
