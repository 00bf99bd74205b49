/- Where a cell lies behind a shift: the program's side. -/
import Derived.Test.YthokhnbecgkpbaaDoorHBnd
namespace Go.Proofs.YthokhnbecgkpbaaDoor
open Go.RowKit

/-- A cell lies in a block. -/
structure AAt (w : World) (B : Nat) (s r c : Int) : Prop where
  o : w.heap[B]? = some (.cells #[.int .i64 s, .int .i64 r, .int .i64 c] 38 (0, 0))
theorem AAt.fr {w w' : World} {B : Nat} {s r c : Int} (h : AAt w B s r c) (hF : Fr noB w w') : AAt w' B s r c := ⟨hF.obj h.o id⟩
theorem AAt.c0 {w : World} {B : Nat} {s r c : Int} (h : AAt w B s r c) : w.cell? ⟨B, 0, none⟩ = some (.int .i64 s) := cellOf (o := 0) h.o rfl
theorem AAt.c1 {w : World} {B : Nat} {s r c : Int} (h : AAt w B s r c) : w.cell? ⟨B, 1, none⟩ = some (.int .i64 r) := cellOf (o := 1) h.o rfl
theorem AAt.c2 {w : World} {B : Nat} {s r c : Int} (h : AAt w B s r c) : w.cell? ⟨B, 2, none⟩ = some (.int .i64 c) := cellOf (o := 2) h.o rfl
theorem AAt.f {w : World} {B : Nat} {s r c : Int} (h : AAt w B s r c) : ∀ o, w.frozen? ⟨B, o, none⟩ = false := fun o => freeOf o h.o
/-- A band lies in a block. -/
structure BAt (w : World) (B : Nat) (a n l : Int) (c x : Bool) : Prop where
  o : w.heap[B]? = some (.cells #[.int .i64 a, .int .i64 n, .int .i64 l, .bool c, .bool x] 60 (0, 0))
theorem BAt.fr {w w' : World} {B : Nat} {a n l : Int} {c x : Bool} (h : BAt w B a n l c x) (hF : Fr noB w w') : BAt w' B a n l c x := ⟨hF.obj h.o id⟩
theorem BAt.c0 {w : World} {B : Nat} {a n l : Int} {c x : Bool} (h : BAt w B a n l c x) : w.cell? ⟨B, 0, none⟩ = some (.int .i64 a) := cellOf (o := 0) h.o rfl
theorem BAt.c1 {w : World} {B : Nat} {a n l : Int} {c x : Bool} (h : BAt w B a n l c x) : w.cell? ⟨B, 1, none⟩ = some (.int .i64 n) := cellOf (o := 1) h.o rfl
theorem BAt.c2 {w : World} {B : Nat} {a n l : Int} {c x : Bool} (h : BAt w B a n l c x) : w.cell? ⟨B, 2, none⟩ = some (.int .i64 l) := cellOf (o := 2) h.o rfl
theorem BAt.c3 {w : World} {B : Nat} {a n l : Int} {c x : Bool} (h : BAt w B a n l c x) : w.cell? ⟨B, 3, none⟩ = some (.bool c) := cellOf (o := 3) h.o rfl
theorem BAt.c4 {w : World} {B : Nat} {a n l : Int} {c x : Bool} (h : BAt w B a n l c x) : w.cell? ⟨B, 4, none⟩ = some (.bool x) := cellOf (o := 4) h.o rfl
/-- Where a row lies, and whether it stays. -/
def movI (At N : Int) (come : Bool) (line : Int) : Int := if line < At then line else if come = true then line + N else line - N
def movB (At N lim : Int) (come : Bool) (line : Int) : Bool := if line < At then true else if come = true then decide (line + N < lim) else decide (At + N ≤ line)
set_option maxRecDepth 100000 in
set_option maxHeartbeats 1000000 in
theorem bmoved_any (At N lim : Int) (cm ac : Bool) (line : Int) (w : World) (h1 : 0 ≤ At) (h2 : At ≤ 1048576) (h3 : 0 ≤ N) (h4 : N ≤ 1048576) (h5 : 0 ≤ line) (h6 : line ≤ 1048576) :
    Calls Tryd.prog 51 #[.agg #[.int .i64 At, .int .i64 N, .int .i64 lim, .bool cm, .bool ac], .int .i64 line] w fun e w' => e = .returned (.tuple #[.int .i64 (movI At N cm line), .bool (movB At N lim cm line)]) ∧ Fr noB w w' := by
  obtain ⟨W, hW⟩ : ∃ W, w.alloc (.cells #[.int .i64 At, .int .i64 N, .int .i64 lim, .bool cm, .bool ac] 60 (0, 0)) = W := ⟨_, rfl⟩
  have hA : BAt W w.heap.size At N lim cm ac := by rw [← hW]; exact ⟨heap_alloc_new w _⟩
  have hF : Fr noB w W := by rw [← hW]; exact fr_alloc w _
  have HF : Hid (Fr noB w W) := hF
  have k0 := hA.c0; have k1 := hA.c1; have k2 := hA.c2; have k3 := hA.c3; have k4 := hA.c4
  clear hA hF
  unfold movI movB
  have hw1 : IntKind.i64.wrap (line + N) = line + N := by rw [IntKind.wrap_i64]; omega
  have hw2 : IntKind.i64.wrap (line - N) = line - N := by rw [IntKind.wrap_i64]; omega
  have hw3 : IntKind.i64.wrap (At + N) = At + N := by rw [IntKind.wrap_i64]; omega
  by_cases n1 : line < At
  · rw [if_pos n1, if_pos n1]
    go_enter Tryd.func51, Tryd.ntmps51
    go_wp2_with fail
    go_ret2
    exact ⟨rfl, HF.out⟩
  · rw [if_neg n1, if_neg n1]
    clear h1 h2 h3 h4 h5 h6
    cases cm with
    | true =>
      rw [if_pos rfl, if_pos rfl]
      obtain ⟨q, hq⟩ : ∃ q, line + N = q := ⟨_, rfl⟩
      rw [hq] at hw1 ⊢
      go_enter Tryd.func51, Tryd.ntmps51
      go_wp2_with fail
      go_quiet (fail)
      go_wp2_with fail
      go_ret2
      exact ⟨rfl, HF.out.drewN _⟩
    | false =>
      rw [if_neg (by simp), if_neg (by simp)]
      obtain ⟨q, hq⟩ : ∃ q, line - N = q := ⟨_, rfl⟩
      obtain ⟨t, ht⟩ : ∃ t, At + N = t := ⟨_, rfl⟩
      rw [hq] at hw2 ⊢
      rw [ht] at hw3 ⊢
      go_enter Tryd.func51, Tryd.ntmps51
      go_wp2_with fail
      go_quiet (fail)
      go_wp2_with fail
      go_ret2
      exact ⟨rfl, HF.out.drewN _⟩
set_option maxRecDepth 100000 in
theorem behindNew_any (At n : Int) (w : World) (hn : IntKind.i64.wrap (n + 1) = n + 1) : Calls Tryd.prog 60 #[.int .i64 At, .int .i64 n] w fun e w' => e = .returned (.int .i64 (if At ≤ n then n + 1 else n)) ∧ w' = w := by
  by_cases h : At ≤ n
  · rw [if_pos h]
    obtain ⟨q, hq⟩ : ∃ q, n + 1 = q := ⟨_, rfl⟩
    rw [hq] at hn ⊢
    go_enter Tryd.func60, Tryd.ntmps60
    go_wp2_with fail
    go_ret
    exact ⟨rfl, rfl⟩
  · rw [if_neg h]
    clear hn
    go_enter Tryd.func60, Tryd.ntmps60
    go_wp2_with fail
    go_ret
    exact ⟨rfl, rfl⟩
set_option maxRecDepth 100000 in
theorem behindGone_any (g n : Int) (w : World) (hn : IntKind.i64.wrap (n - 1) = n - 1) : Calls Tryd.prog 61 #[.int .i64 g, .int .i64 n] w fun e w' => e = .returned (.int .i64 (if g < n then n - 1 else n)) ∧ w' = w := by
  by_cases h : g < n
  · rw [if_pos h]
    obtain ⟨q, hq⟩ : ∃ q, n - 1 = q := ⟨_, rfl⟩
    rw [hq] at hn ⊢
    go_enter Tryd.func61, Tryd.ntmps61
    go_wp2_with fail
    go_ret
    exact ⟨rfl, rfl⟩
  · rw [if_neg h]
    clear hn
    go_enter Tryd.func61, Tryd.ntmps61
    go_wp2_with fail
    go_ret
    exact ⟨rfl, rfl⟩
/-- A sheet's number behind a shift of sheets, and whether it stays. -/
def gonI (g n : Int) : Int := if g < n then n - 1 else n
def comI (a n : Int) : Int := if a ≤ n then n + 1 else n
def shmI (K k At n : Int) : Int := if K = 5 then comI At n else if K = 6 then gonI k n else if K = 7 then (if n = k then At else comI At (gonI k n)) else n
def shmB (K k n : Int) : Bool := if K = 6 then !decide (n = k) else true
set_option maxRecDepth 100000 in
set_option maxHeartbeats 1000000 in
theorem sheetMoved_5 (k : Int) (sh : ByteArray) (At N : Int) (nm : ByteArray) (n : Int) (w : World) (h0 : 0 ≤ n) (h1 : n ≤ 140737488355328) :
    Calls Tryd.prog 50 #[.int .i64 k, .agg #[.int .i64 5, .string sh, .int .i64 At, .int .i64 N, .string nm], .int .i64 n] w fun e w' => e = .returned (.tuple #[.int .i64 (comI At n), .bool (true)]) ∧ Fr noB w w' := by
  have HN : Hid (∀ w, Calls Tryd.prog 60 #[.int .i64 At, .int .i64 n] w fun e w' => e = .returned (.int .i64 (comI At n)) ∧ w' = w) := fun w => behindNew_any At n w (by rw [IntKind.wrap_i64]; omega)
  have HG : Hid (∀ w, Calls Tryd.prog 61 #[.int .i64 k, .int .i64 n] w fun e w' => e = .returned (.int .i64 (gonI k n)) ∧ w' = w) := fun w => behindGone_any k n w (by rw [IntKind.wrap_i64]; omega)
  have HM : Hid (∀ w, Calls Tryd.prog 60 #[.int .i64 At, .int .i64 (gonI k n)] w fun e w' => e = .returned (.int .i64 (comI At (gonI k n))) ∧ w' = w) := fun w => behindNew_any At (gonI k n) w (by rw [IntKind.wrap_i64]; unfold gonI; split <;> omega)
  have HX := x_laid w 5 sh At N nm
  have HZ : Hid _ := fr_alloc w (.cells #[.int .i64 5, .string sh, .int .i64 At, .int .i64 N, .string nm] 24 (0, 0))
  have a0 := HX.c0; have a2 := HX.c2
  clear HX h0 h1
  generalize gonI k n = g at *
  generalize comI At n = m at *
  generalize comI At g = q at *
  · go_enter Tryd.func50, Tryd.ntmps50
    go_wp2_with (first
      | (go_at_call 61; (with_reducible refine (HG.out _).mono ?_); rintro e w1 ⟨rfl, rfl⟩)
      | (go_at_call 60; (with_reducible refine (HN.out _).mono ?_); rintro e w1 ⟨rfl, rfl⟩)
      | (go_at_call 60; (with_reducible refine (HM.out _).mono ?_); rintro e w1 ⟨rfl, rfl⟩))
    go_ret2
    exact ⟨rfl, HZ.out⟩
set_option maxRecDepth 100000 in
set_option maxHeartbeats 1000000 in
theorem sheetMoved_6 (k : Int) (sh : ByteArray) (At N : Int) (nm : ByteArray) (n : Int) (w : World) (h0 : 0 ≤ n) (h1 : n ≤ 140737488355328) :
    Calls Tryd.prog 50 #[.int .i64 k, .agg #[.int .i64 6, .string sh, .int .i64 At, .int .i64 N, .string nm], .int .i64 n] w fun e w' => e = .returned (.tuple #[.int .i64 (gonI k n), .bool (!decide (n = k))]) ∧ Fr noB w w' := by
  have HN : Hid (∀ w, Calls Tryd.prog 60 #[.int .i64 At, .int .i64 n] w fun e w' => e = .returned (.int .i64 (comI At n)) ∧ w' = w) := fun w => behindNew_any At n w (by rw [IntKind.wrap_i64]; omega)
  have HG : Hid (∀ w, Calls Tryd.prog 61 #[.int .i64 k, .int .i64 n] w fun e w' => e = .returned (.int .i64 (gonI k n)) ∧ w' = w) := fun w => behindGone_any k n w (by rw [IntKind.wrap_i64]; omega)
  have HM : Hid (∀ w, Calls Tryd.prog 60 #[.int .i64 At, .int .i64 (gonI k n)] w fun e w' => e = .returned (.int .i64 (comI At (gonI k n))) ∧ w' = w) := fun w => behindNew_any At (gonI k n) w (by rw [IntKind.wrap_i64]; unfold gonI; split <;> omega)
  have HX := x_laid w 6 sh At N nm
  have HZ : Hid _ := fr_alloc w (.cells #[.int .i64 6, .string sh, .int .i64 At, .int .i64 N, .string nm] 24 (0, 0))
  have a0 := HX.c0; have a2 := HX.c2
  clear HX h0 h1
  generalize gonI k n = g at *
  generalize comI At n = m at *
  generalize comI At g = q at *
  by_cases hk : n = k
  · subst hk
    rw [decide_eq_true rfl]
    go_enter Tryd.func50, Tryd.ntmps50
    go_wp2_with (first
      | (go_at_call 61; (with_reducible refine (HG.out _).mono ?_); rintro e w1 ⟨rfl, rfl⟩)
      | (go_at_call 60; (with_reducible refine (HN.out _).mono ?_); rintro e w1 ⟨rfl, rfl⟩)
      | (go_at_call 60; (with_reducible refine (HM.out _).mono ?_); rintro e w1 ⟨rfl, rfl⟩))
    go_ret2
    exact ⟨by simp, HZ.out⟩
  · have e1 : (n != k) = true := by simpa using hk
    rw [decide_eq_false hk]
    clear hk
    go_enter Tryd.func50, Tryd.ntmps50
    go_wp2_with (first
      | (go_at_call 61; (with_reducible refine (HG.out _).mono ?_); rintro e w1 ⟨rfl, rfl⟩)
      | (go_at_call 60; (with_reducible refine (HN.out _).mono ?_); rintro e w1 ⟨rfl, rfl⟩)
      | (go_at_call 60; (with_reducible refine (HM.out _).mono ?_); rintro e w1 ⟨rfl, rfl⟩))
    go_ret2
    exact ⟨rfl, HZ.out⟩
set_option maxRecDepth 100000 in
set_option maxHeartbeats 1000000 in
theorem sheetMoved_7 (k : Int) (sh : ByteArray) (At N : Int) (nm : ByteArray) (n : Int) (w : World) (h0 : 0 ≤ n) (h1 : n ≤ 140737488355328) :
    Calls Tryd.prog 50 #[.int .i64 k, .agg #[.int .i64 7, .string sh, .int .i64 At, .int .i64 N, .string nm], .int .i64 n] w fun e w' => e = .returned (.tuple #[.int .i64 (if n = k then At else comI At (gonI k n)), .bool (true)]) ∧ Fr noB w w' := by
  have HN : Hid (∀ w, Calls Tryd.prog 60 #[.int .i64 At, .int .i64 n] w fun e w' => e = .returned (.int .i64 (comI At n)) ∧ w' = w) := fun w => behindNew_any At n w (by rw [IntKind.wrap_i64]; omega)
  have HG : Hid (∀ w, Calls Tryd.prog 61 #[.int .i64 k, .int .i64 n] w fun e w' => e = .returned (.int .i64 (gonI k n)) ∧ w' = w) := fun w => behindGone_any k n w (by rw [IntKind.wrap_i64]; omega)
  have HM : Hid (∀ w, Calls Tryd.prog 60 #[.int .i64 At, .int .i64 (gonI k n)] w fun e w' => e = .returned (.int .i64 (comI At (gonI k n))) ∧ w' = w) := fun w => behindNew_any At (gonI k n) w (by rw [IntKind.wrap_i64]; unfold gonI; split <;> omega)
  have HX := x_laid w 7 sh At N nm
  have HZ : Hid _ := fr_alloc w (.cells #[.int .i64 7, .string sh, .int .i64 At, .int .i64 N, .string nm] 24 (0, 0))
  have a0 := HX.c0; have a2 := HX.c2
  clear HX h0 h1
  generalize gonI k n = g at *
  generalize comI At n = m at *
  generalize comI At g = q at *
  by_cases hk : n = k
  · subst hk
    rw [if_pos rfl]
    go_enter Tryd.func50, Tryd.ntmps50
    go_wp2_with (first
      | (go_at_call 61; (with_reducible refine (HG.out _).mono ?_); rintro e w1 ⟨rfl, rfl⟩)
      | (go_at_call 60; (with_reducible refine (HN.out _).mono ?_); rintro e w1 ⟨rfl, rfl⟩)
      | (go_at_call 60; (with_reducible refine (HM.out _).mono ?_); rintro e w1 ⟨rfl, rfl⟩))
    go_ret2
    exact ⟨rfl, HZ.out⟩
  · rw [if_neg hk]
    obtain ⟨W, hW⟩ : ∃ W, w.alloc (.cells #[.int .i64 7, .string sh, .int .i64 At, .int .i64 N, .string nm] 24 (0, 0)) = W := ⟨_, rfl⟩
    rw [hW] at a0 a2 HZ
    go_enter Tryd.func50, Tryd.ntmps50
    go_wp2_with fail
    go_quiet ((first | (go_at_call 61; exact Calls.quiet_of_same (HG.out _)) | (go_at_call 60; exact Calls.quiet_of_same (HM.out _))))
    go_wp2_with fail
    go_ret2
    exact ⟨rfl, HZ.out.drewN _⟩
set_option maxRecDepth 100000 in
set_option maxHeartbeats 1000000 in
theorem sheetMoved_8 (k : Int) (sh : ByteArray) (At N : Int) (nm : ByteArray) (n : Int) (w : World) (h0 : 0 ≤ n) (h1 : n ≤ 140737488355328) :
    Calls Tryd.prog 50 #[.int .i64 k, .agg #[.int .i64 8, .string sh, .int .i64 At, .int .i64 N, .string nm], .int .i64 n] w fun e w' => e = .returned (.tuple #[.int .i64 (n), .bool (true)]) ∧ Fr noB w w' := by
  have HN : Hid (∀ w, Calls Tryd.prog 60 #[.int .i64 At, .int .i64 n] w fun e w' => e = .returned (.int .i64 (comI At n)) ∧ w' = w) := fun w => behindNew_any At n w (by rw [IntKind.wrap_i64]; omega)
  have HG : Hid (∀ w, Calls Tryd.prog 61 #[.int .i64 k, .int .i64 n] w fun e w' => e = .returned (.int .i64 (gonI k n)) ∧ w' = w) := fun w => behindGone_any k n w (by rw [IntKind.wrap_i64]; omega)
  have HM : Hid (∀ w, Calls Tryd.prog 60 #[.int .i64 At, .int .i64 (gonI k n)] w fun e w' => e = .returned (.int .i64 (comI At (gonI k n))) ∧ w' = w) := fun w => behindNew_any At (gonI k n) w (by rw [IntKind.wrap_i64]; unfold gonI; split <;> omega)
  have HX := x_laid w 8 sh At N nm
  have HZ : Hid _ := fr_alloc w (.cells #[.int .i64 8, .string sh, .int .i64 At, .int .i64 N, .string nm] 24 (0, 0))
  have a0 := HX.c0; have a2 := HX.c2
  clear HX h0 h1
  generalize gonI k n = g at *
  generalize comI At n = m at *
  generalize comI At g = q at *
  · go_enter Tryd.func50, Tryd.ntmps50
    go_wp2_with (first
      | (go_at_call 61; (with_reducible refine (HG.out _).mono ?_); rintro e w1 ⟨rfl, rfl⟩)
      | (go_at_call 60; (with_reducible refine (HN.out _).mono ?_); rintro e w1 ⟨rfl, rfl⟩)
      | (go_at_call 60; (with_reducible refine (HM.out _).mono ?_); rintro e w1 ⟨rfl, rfl⟩))
    go_ret2
    exact ⟨rfl, HZ.out⟩
end Go.Proofs.YthokhnbecgkpbaaDoor
