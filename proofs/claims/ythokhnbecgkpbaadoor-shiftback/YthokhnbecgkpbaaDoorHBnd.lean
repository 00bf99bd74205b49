/- Rows and columns as one band: the program's bandOf, fits, moved. -/
import Derived.Test.YthokhnbecgkpbaaDoorHChk
namespace Go.Proofs.YthokhnbecgkpbaaDoor
open Go.RowKit

theorem old1 {w : World} {o x : Obj} {k : Nat} (h : w.heap[k]? = some x) : (w.alloc o).heap[k]? = some x := (Below.heap_alloc _ _ _ (lt_of_block h)).trans h
theorem new1 (w : World) (o : Obj) (k : Nat) (h : k = w.heap.size) : (w.alloc o).heap[k]? = some o := by subst h; exact heap_alloc_new w o
set_option maxRecDepth 100000 in
set_option maxHeartbeats 1000000 in
theorem bandOf_1 (sh : ByteArray) (At N : Int) (nm : ByteArray) (w : World) :
    Calls Tryd.prog 30 #[.agg #[.int .i64 1, .string sh, .int .i64 At, .int .i64 N, .string nm]] w fun e w' => e = .returned (.tuple #[.agg #[.int .i64 At, .int .i64 N, .int .i64 1048576, .bool true, .bool false], .bool true]) ∧ Fr noB w w' := by
  go_enter Tryd.func30, Tryd.ntmps30
  go_wp2_with fail
  obtain ⟨W, hW⟩ : ∃ W, (((w.alloc (.cells #[.int .i64 1, .string sh, .int .i64 At, .int .i64 N, .string nm] 24 (0, 0))).alloc (.cells #[.int .i64 At, .int .i64 N, .int .i64 1048576, .bool true, .bool false] 60 (0, 0))).alloc (.cells #[.int .i64 At, .int .i64 N, .int .i64 1048576, .bool true, .bool false] 60 (0, 0))) = W := ⟨_, rfl⟩
  have p : W.heap[w.heap.size + 1]? = some (.cells #[.int .i64 At, .int .i64 N, .int .i64 1048576, .bool true, .bool false] 60 (0, 0)) := by
    rw [← hW]
    exact old1 (new1 _ _ _ (by simp))
  have hF : Fr noB w W := by rw [← hW]; exact (((Fr.refl noB w).alloc _).alloc _).alloc _
  have p0 := cellOf (o := 0) p rfl
  have p1 := cellOf (o := 1) p rfl
  have p2 := cellOf (o := 2) p rfl
  have p3 := cellOf (o := 3) p rfl
  have p4 := cellOf (o := 4) p rfl
  rw [hW]
  refine bodyPost_ret ?_ rfl ⟨rfl, hF⟩
  simp [results, Tryd.results30, go_sem, p0, p1, p2, p3, p4]
set_option maxRecDepth 100000 in
set_option maxHeartbeats 1000000 in
theorem bandOf_2 (sh : ByteArray) (At N : Int) (nm : ByteArray) (w : World) :
    Calls Tryd.prog 30 #[.agg #[.int .i64 2, .string sh, .int .i64 At, .int .i64 N, .string nm]] w fun e w' => e = .returned (.tuple #[.agg #[.int .i64 At, .int .i64 N, .int .i64 1048576, .bool false, .bool false], .bool true]) ∧ Fr noB w w' := by
  go_enter Tryd.func30, Tryd.ntmps30
  go_wp2_with fail
  obtain ⟨W, hW⟩ : ∃ W, (((w.alloc (.cells #[.int .i64 2, .string sh, .int .i64 At, .int .i64 N, .string nm] 24 (0, 0))).alloc (.cells #[.int .i64 At, .int .i64 N, .int .i64 1048576, .bool false, .bool false] 60 (0, 0))).alloc (.cells #[.int .i64 At, .int .i64 N, .int .i64 1048576, .bool false, .bool false] 60 (0, 0))) = W := ⟨_, rfl⟩
  have p : W.heap[w.heap.size + 1]? = some (.cells #[.int .i64 At, .int .i64 N, .int .i64 1048576, .bool false, .bool false] 60 (0, 0)) := by
    rw [← hW]
    exact old1 (new1 _ _ _ (by simp))
  have hF : Fr noB w W := by rw [← hW]; exact (((Fr.refl noB w).alloc _).alloc _).alloc _
  have p0 := cellOf (o := 0) p rfl
  have p1 := cellOf (o := 1) p rfl
  have p2 := cellOf (o := 2) p rfl
  have p3 := cellOf (o := 3) p rfl
  have p4 := cellOf (o := 4) p rfl
  rw [hW]
  refine bodyPost_ret ?_ rfl ⟨rfl, hF⟩
  simp [results, Tryd.results30, go_sem, p0, p1, p2, p3, p4]
set_option maxRecDepth 100000 in
set_option maxHeartbeats 1000000 in
theorem bandOf_3 (sh : ByteArray) (At N : Int) (nm : ByteArray) (w : World) :
    Calls Tryd.prog 30 #[.agg #[.int .i64 3, .string sh, .int .i64 At, .int .i64 N, .string nm]] w fun e w' => e = .returned (.tuple #[.agg #[.int .i64 At, .int .i64 N, .int .i64 1024, .bool true, .bool true], .bool true]) ∧ Fr noB w w' := by
  go_enter Tryd.func30, Tryd.ntmps30
  go_wp2_with fail
  obtain ⟨W, hW⟩ : ∃ W, (((w.alloc (.cells #[.int .i64 3, .string sh, .int .i64 At, .int .i64 N, .string nm] 24 (0, 0))).alloc (.cells #[.int .i64 At, .int .i64 N, .int .i64 1024, .bool true, .bool true] 60 (0, 0))).alloc (.cells #[.int .i64 At, .int .i64 N, .int .i64 1024, .bool true, .bool true] 60 (0, 0))) = W := ⟨_, rfl⟩
  have p : W.heap[w.heap.size + 1]? = some (.cells #[.int .i64 At, .int .i64 N, .int .i64 1024, .bool true, .bool true] 60 (0, 0)) := by
    rw [← hW]
    exact old1 (new1 _ _ _ (by simp))
  have hF : Fr noB w W := by rw [← hW]; exact (((Fr.refl noB w).alloc _).alloc _).alloc _
  have p0 := cellOf (o := 0) p rfl
  have p1 := cellOf (o := 1) p rfl
  have p2 := cellOf (o := 2) p rfl
  have p3 := cellOf (o := 3) p rfl
  have p4 := cellOf (o := 4) p rfl
  rw [hW]
  refine bodyPost_ret ?_ rfl ⟨rfl, hF⟩
  simp [results, Tryd.results30, go_sem, p0, p1, p2, p3, p4]
set_option maxRecDepth 100000 in
set_option maxHeartbeats 1000000 in
theorem bandOf_4 (sh : ByteArray) (At N : Int) (nm : ByteArray) (w : World) :
    Calls Tryd.prog 30 #[.agg #[.int .i64 4, .string sh, .int .i64 At, .int .i64 N, .string nm]] w fun e w' => e = .returned (.tuple #[.agg #[.int .i64 At, .int .i64 N, .int .i64 1024, .bool false, .bool true], .bool true]) ∧ Fr noB w w' := by
  go_enter Tryd.func30, Tryd.ntmps30
  go_wp2_with fail
  obtain ⟨W, hW⟩ : ∃ W, (((w.alloc (.cells #[.int .i64 4, .string sh, .int .i64 At, .int .i64 N, .string nm] 24 (0, 0))).alloc (.cells #[.int .i64 At, .int .i64 N, .int .i64 1024, .bool false, .bool true] 60 (0, 0))).alloc (.cells #[.int .i64 At, .int .i64 N, .int .i64 1024, .bool false, .bool true] 60 (0, 0))) = W := ⟨_, rfl⟩
  have p : W.heap[w.heap.size + 1]? = some (.cells #[.int .i64 At, .int .i64 N, .int .i64 1024, .bool false, .bool true] 60 (0, 0)) := by
    rw [← hW]
    exact old1 (new1 _ _ _ (by simp))
  have hF : Fr noB w W := by rw [← hW]; exact (((Fr.refl noB w).alloc _).alloc _).alloc _
  have p0 := cellOf (o := 0) p rfl
  have p1 := cellOf (o := 1) p rfl
  have p2 := cellOf (o := 2) p rfl
  have p3 := cellOf (o := 3) p rfl
  have p4 := cellOf (o := 4) p rfl
  rw [hW]
  refine bodyPost_ret ?_ rfl ⟨rfl, hF⟩
  simp [results, Tryd.results30, go_sem, p0, p1, p2, p3, p4]
set_option maxRecDepth 100000 in
set_option maxHeartbeats 1000000 in
theorem bandOf_5 (sh : ByteArray) (At N : Int) (nm : ByteArray) (w : World) :
    Calls Tryd.prog 30 #[.agg #[.int .i64 5, .string sh, .int .i64 At, .int .i64 N, .string nm]] w fun e w' => e = .returned (.tuple #[.agg #[.int .i64 0, .int .i64 0, .int .i64 0, .bool false, .bool false], .bool false]) ∧ Fr noB w w' := by
  go_enter Tryd.func30, Tryd.ntmps30
  go_wp2_with fail
  obtain ⟨W, hW⟩ : ∃ W, (((w.alloc (.cells #[.int .i64 5, .string sh, .int .i64 At, .int .i64 N, .string nm] 24 (0, 0))).alloc (.cells #[.int .i64 0, .int .i64 0, .int .i64 0, .bool false, .bool false] 60 (0, 0))).alloc (.cells #[.int .i64 At, .int .i64 N, .int .i64 0, .bool false, .bool false] 60 (0, 0))) = W := ⟨_, rfl⟩
  have p : W.heap[w.heap.size + 1]? = some (.cells #[.int .i64 0, .int .i64 0, .int .i64 0, .bool false, .bool false] 60 (0, 0)) := by
    rw [← hW]
    exact old1 (new1 _ _ _ (by simp))
  have hF : Fr noB w W := by rw [← hW]; exact (((Fr.refl noB w).alloc _).alloc _).alloc _
  have p0 := cellOf (o := 0) p rfl
  have p1 := cellOf (o := 1) p rfl
  have p2 := cellOf (o := 2) p rfl
  have p3 := cellOf (o := 3) p rfl
  have p4 := cellOf (o := 4) p rfl
  rw [hW]
  refine bodyPost_ret ?_ rfl ⟨rfl, hF⟩
  simp [results, Tryd.results30, go_sem, p0, p1, p2, p3, p4]
set_option maxRecDepth 100000 in
set_option maxHeartbeats 1000000 in
theorem bandOf_6 (sh : ByteArray) (At N : Int) (nm : ByteArray) (w : World) :
    Calls Tryd.prog 30 #[.agg #[.int .i64 6, .string sh, .int .i64 At, .int .i64 N, .string nm]] w fun e w' => e = .returned (.tuple #[.agg #[.int .i64 0, .int .i64 0, .int .i64 0, .bool false, .bool false], .bool false]) ∧ Fr noB w w' := by
  go_enter Tryd.func30, Tryd.ntmps30
  go_wp2_with fail
  obtain ⟨W, hW⟩ : ∃ W, (((w.alloc (.cells #[.int .i64 6, .string sh, .int .i64 At, .int .i64 N, .string nm] 24 (0, 0))).alloc (.cells #[.int .i64 0, .int .i64 0, .int .i64 0, .bool false, .bool false] 60 (0, 0))).alloc (.cells #[.int .i64 At, .int .i64 N, .int .i64 0, .bool false, .bool false] 60 (0, 0))) = W := ⟨_, rfl⟩
  have p : W.heap[w.heap.size + 1]? = some (.cells #[.int .i64 0, .int .i64 0, .int .i64 0, .bool false, .bool false] 60 (0, 0)) := by
    rw [← hW]
    exact old1 (new1 _ _ _ (by simp))
  have hF : Fr noB w W := by rw [← hW]; exact (((Fr.refl noB w).alloc _).alloc _).alloc _
  have p0 := cellOf (o := 0) p rfl
  have p1 := cellOf (o := 1) p rfl
  have p2 := cellOf (o := 2) p rfl
  have p3 := cellOf (o := 3) p rfl
  have p4 := cellOf (o := 4) p rfl
  rw [hW]
  refine bodyPost_ret ?_ rfl ⟨rfl, hF⟩
  simp [results, Tryd.results30, go_sem, p0, p1, p2, p3, p4]
set_option maxRecDepth 100000 in
set_option maxHeartbeats 1000000 in
theorem bandOf_7 (sh : ByteArray) (At N : Int) (nm : ByteArray) (w : World) :
    Calls Tryd.prog 30 #[.agg #[.int .i64 7, .string sh, .int .i64 At, .int .i64 N, .string nm]] w fun e w' => e = .returned (.tuple #[.agg #[.int .i64 0, .int .i64 0, .int .i64 0, .bool false, .bool false], .bool false]) ∧ Fr noB w w' := by
  go_enter Tryd.func30, Tryd.ntmps30
  go_wp2_with fail
  obtain ⟨W, hW⟩ : ∃ W, (((w.alloc (.cells #[.int .i64 7, .string sh, .int .i64 At, .int .i64 N, .string nm] 24 (0, 0))).alloc (.cells #[.int .i64 0, .int .i64 0, .int .i64 0, .bool false, .bool false] 60 (0, 0))).alloc (.cells #[.int .i64 At, .int .i64 N, .int .i64 0, .bool false, .bool false] 60 (0, 0))) = W := ⟨_, rfl⟩
  have p : W.heap[w.heap.size + 1]? = some (.cells #[.int .i64 0, .int .i64 0, .int .i64 0, .bool false, .bool false] 60 (0, 0)) := by
    rw [← hW]
    exact old1 (new1 _ _ _ (by simp))
  have hF : Fr noB w W := by rw [← hW]; exact (((Fr.refl noB w).alloc _).alloc _).alloc _
  have p0 := cellOf (o := 0) p rfl
  have p1 := cellOf (o := 1) p rfl
  have p2 := cellOf (o := 2) p rfl
  have p3 := cellOf (o := 3) p rfl
  have p4 := cellOf (o := 4) p rfl
  rw [hW]
  refine bodyPost_ret ?_ rfl ⟨rfl, hF⟩
  simp [results, Tryd.results30, go_sem, p0, p1, p2, p3, p4]
set_option maxRecDepth 100000 in
set_option maxHeartbeats 1000000 in
theorem bandOf_8 (sh : ByteArray) (At N : Int) (nm : ByteArray) (w : World) :
    Calls Tryd.prog 30 #[.agg #[.int .i64 8, .string sh, .int .i64 At, .int .i64 N, .string nm]] w fun e w' => e = .returned (.tuple #[.agg #[.int .i64 0, .int .i64 0, .int .i64 0, .bool false, .bool false], .bool false]) ∧ Fr noB w w' := by
  go_enter Tryd.func30, Tryd.ntmps30
  go_wp2_with fail
  obtain ⟨W, hW⟩ : ∃ W, (((w.alloc (.cells #[.int .i64 8, .string sh, .int .i64 At, .int .i64 N, .string nm] 24 (0, 0))).alloc (.cells #[.int .i64 0, .int .i64 0, .int .i64 0, .bool false, .bool false] 60 (0, 0))).alloc (.cells #[.int .i64 At, .int .i64 N, .int .i64 0, .bool false, .bool false] 60 (0, 0))) = W := ⟨_, rfl⟩
  have p : W.heap[w.heap.size + 1]? = some (.cells #[.int .i64 0, .int .i64 0, .int .i64 0, .bool false, .bool false] 60 (0, 0)) := by
    rw [← hW]
    exact old1 (new1 _ _ _ (by simp))
  have hF : Fr noB w W := by rw [← hW]; exact (((Fr.refl noB w).alloc _).alloc _).alloc _
  have p0 := cellOf (o := 0) p rfl
  have p1 := cellOf (o := 1) p rfl
  have p2 := cellOf (o := 2) p rfl
  have p3 := cellOf (o := 3) p rfl
  have p4 := cellOf (o := 4) p rfl
  rw [hW]
  refine bodyPost_ret ?_ rfl ⟨rfl, hF⟩
  simp [results, Tryd.results30, go_sem, p0, p1, p2, p3, p4]
/-- Whether all of them lie within a sheet. -/
def fitB (At N lim : Int) : Bool := decide (1 ≤ N) && (decide (0 ≤ At) && decide (At ≤ lim - N))
set_option maxRecDepth 100000 in
set_option maxHeartbeats 1000000 in
theorem fits_any (At N lim : Int) (c a : Bool) (w : World) (h1 : 0 ≤ lim) (h2 : lim ≤ 1048576) (h3 : N ≤ 9223372036854775807) :
    Calls Tryd.prog 31 #[.agg #[.int .i64 At, .int .i64 N, .int .i64 lim, .bool c, .bool a]] w fun e w' => e = .returned (.bool (fitB At N lim)) ∧ Fr noB w w' := by
  unfold fitB
  by_cases n1 : 1 ≤ N
  case neg =>
    rw [decide_eq_false n1]
    go_enter Tryd.func31, Tryd.ntmps31
    go_wp2_with fail
    go_ret
    exact ⟨ret_bool (by simp), (Fr.refl noB w).alloc _⟩
  case pos =>
    have hw : IntKind.i64.wrap (lim - N) = lim - N := by rw [IntKind.wrap_i64]; omega
    by_cases n2 : 0 ≤ At
    case neg =>
      rw [decide_eq_false n2]
      go_enter Tryd.func31, Tryd.ntmps31
      go_wp2_with fail
      go_ret
      exact ⟨ret_bool (by simp), (Fr.refl noB w).alloc _⟩
    case pos =>
      obtain ⟨d, hd⟩ : ∃ d, lim - N = d := ⟨_, rfl⟩
      rw [decide_eq_true n1, decide_eq_true n2]
      rw [hd] at hw ⊢
      by_cases n3 : At ≤ d
      · go_enter Tryd.func31, Tryd.ntmps31
        go_wp2_with fail
        go_ret
        exact ⟨ret_bool (by simp [n3]), (Fr.refl noB w).alloc _⟩
      · go_enter Tryd.func31, Tryd.ntmps31
        go_wp2_with fail
        go_ret
        exact ⟨ret_bool (by simp [n3]), (Fr.refl noB w).alloc _⟩
theorem fit_iff (At N lim : Int) : fitB At N lim = true ↔ (1 ≤ N ∧ 0 ≤ At ∧ At + N ≤ lim) := by unfold fitB; simp; omega
theorem spn_fit (At N lim : Int) : (if (!fitB At N lim) = true then (150 : Int) else 0) = spnF At N lim := by
  unfold spnF
  by_cases h : 1 ≤ N ∧ 0 ≤ At ∧ At + N ≤ lim
  · rw [if_pos h, (fit_iff At N lim).2 h]
    rfl
  · have e : fitB At N lim = false := by
      cases hf : fitB At N lim with
      | true => exact absurd ((fit_iff At N lim).1 hf) h
      | false => rfl
    rw [if_neg h, e]
    rfl

set_option maxRecDepth 100000 in
set_option maxHeartbeats 1000000 in
theorem check_out (ao : Option Addr) (cap : Nat) (l : Nat) (K : Int) (sh : ByteArray) (At N : Int) (nm : ByteArray) (w : World) (h : K < 1 ∨ 8 < K) :
    Calls Tryd.prog 12 #[.slice ao l cap, .agg #[.int .i64 K, .string sh, .int .i64 At, .int .i64 N, .string nm]] w fun e w' => e = .returned (.int .i64 150) ∧ Fr noB w w' := by
  by_cases h1 : K < 1
  · clear h
    go_enter Tryd.func12, Tryd.ntmps12
    go_wp2_with fail
    go_ret
    exact ⟨rfl, (Fr.refl noB w).alloc _⟩
  · have h2 : 8 < K := by omega
    clear h
    go_enter Tryd.func12, Tryd.ntmps12
    go_wp2_with fail
    go_ret
    exact ⟨rfl, (Fr.refl noB w).alloc _⟩
set_option maxRecDepth 100000 in
set_option maxHeartbeats 1000000 in
theorem check_new (ao : Option Addr) (cap : Nat) (L : List ByteArray) (sh : ByteArray) (At N : Int) (nm : ByteArray) (w : World) (h : SsAt w ao L) (hl : L.length ≤ 140737488355328) :
    Calls Tryd.prog 12 #[.slice ao L.length cap, .agg #[.int .i64 5, .string sh, .int .i64 At, .int .i64 N, .string nm]] w fun e w' => e = .returned (.int .i64 (newF L At nm)) ∧ Fr noB w w' := by
  have HC : Hid (∀ W, Fr noB w W → Calls Tryd.prog 27 #[.slice ao L.length cap, .agg #[.int .i64 5, .string sh, .int .i64 At, .int .i64 N, .string nm]] W fun e w' => e = .returned (.int .i64 (newF L At nm)) ∧ Fr noB W w') := fun W hF => checkNew_any ao cap L 5 sh At N nm W (h.keep hF) hl
  have HX := x_laid w 5 sh At N nm
  have HZ := fr_alloc w (.cells #[.int .i64 5, .string sh, .int .i64 At, .int .i64 N, .string nm] 24 (0, 0))
  have a0 := HX.c0; have a1 := HX.c1; have a2 := HX.c2; have a3 := HX.c3; have a4 := HX.c4
  have HXZ : Hid _ := And.intro HX HZ
  clear h hl HX HZ
  generalize newF L At nm = v at *
  generalize L.length = l at *
  go_enter Tryd.func12, Tryd.ntmps12
  go_wp2_with (go_at_call 27; refine (HC.out _ HXZ.out.2).mono ?_; rintro e w1 ⟨rfl, hF1⟩)
  go_ret
  exact ⟨rfl, HXZ.out.2.trans hF1⟩
set_option maxRecDepth 100000 in
set_option maxHeartbeats 1000000 in
theorem check_none (ao : Option Addr) (cap : Nat) (L : List ByteArray) (K : Int) (sh : ByteArray) (At N : Int) (nm : ByteArray) (w : World) (h : SsAt w ao L) (hl : L.length ≤ 140737488355328) (k1 : ¬ K < 1) (k2 : ¬ 8 < K) (k3 : ¬ K = 5) (hb : fndB L sh = false) :
    Calls Tryd.prog 12 #[.slice ao L.length cap, .agg #[.int .i64 K, .string sh, .int .i64 At, .int .i64 N, .string nm]] w fun e w' => e = .returned (.int .i64 4) ∧ Fr noB w w' := by
  have HF : Hid (∀ W, Fr noB w W → Calls Tryd.prog 9 #[.slice ao L.length cap, .string sh] W fun e w' => e = .returned (.tuple #[.int .i64 (fndN L sh : Int), .bool false]) ∧ Fr noB W w') := fun W hF => by have := find_any ao cap L sh W (h.keep hF) hl; rw [hb] at this; exact this
  have HX := x_laid w K sh At N nm
  have HZ := fr_alloc w (.cells #[.int .i64 K, .string sh, .int .i64 At, .int .i64 N, .string nm] 24 (0, 0))
  have a0 := HX.c0; have a1 := HX.c1; have a2 := HX.c2; have a3 := HX.c3; have a4 := HX.c4
  have HXZ : Hid _ := And.intro HX HZ
  clear h hl HX HZ hb
  generalize fndN L sh = i at *
  generalize L.length = l at *
  go_enter Tryd.func12, Tryd.ntmps12
  go_wp2_with (go_at_call 9; refine (HF.out _ HXZ.out.2).mono ?_; rintro e w1 ⟨rfl, hF1⟩)
  go_ret
  exact ⟨rfl, HXZ.out.2.trans hF1⟩
set_option maxRecDepth 100000 in
set_option maxHeartbeats 1000000 in
theorem check_del (ao : Option Addr) (cap : Nat) (L : List ByteArray) (sh : ByteArray) (At N : Int) (nm : ByteArray) (w : World) (h : SsAt w ao L) (hl : L.length ≤ 140737488355328) (hb : fndB L sh = true) :
    Calls Tryd.prog 12 #[.slice ao L.length cap, .agg #[.int .i64 6, .string sh, .int .i64 At, .int .i64 N, .string nm]] w fun e w' => e = .returned (.int .i64 (if L.length = 1 then 151 else 0)) ∧ Fr noB w w' := by
  have HF : Hid (∀ W, Fr noB w W → Calls Tryd.prog 9 #[.slice ao L.length cap, .string sh] W fun e w' => e = .returned (.tuple #[.int .i64 (fndN L sh : Int), .bool (fndB L sh)]) ∧ Fr noB W w') := fun W hF => find_any ao cap L sh W (h.keep hF) hl
  have HN : Hid (∀ W, Fr noB w W → Calls Tryd.prog 29 #[.slice ao L.length cap, .int .i64 (fndN L sh : Int), .string nm] W fun e w' => e = .returned (.int .i64 (namF L sh nm)) ∧ Fr noB W w') := fun W hF => checkName_any ao cap L sh nm W (h.keep hF) hl
  have HT := told_any
  have HX := x_laid w 6 sh At N nm
  have HZ := fr_alloc w (.cells #[.int .i64 6, .string sh, .int .i64 At, .int .i64 N, .string nm] 24 (0, 0))
  have a0 := HX.c0; have a1 := HX.c1; have a2 := HX.c2; have a3 := HX.c3; have a4 := HX.c4
  have HXZ : Hid _ := And.intro HX HZ
  clear h hl HX HZ
  have HF : Hid (∀ W, Fr noB w W → Calls Tryd.prog 9 #[.slice ao L.length cap, .string sh] W fun e w' => e = .returned (.tuple #[.int .i64 (fndN L sh : Int), .bool true]) ∧ Fr noB W w') := fun W hF => by have := HF.out W hF; rw [hb] at this; exact this
  clear hb
  generalize namF L sh nm = nf at *
  generalize fndN L sh = i at *
  generalize L.length = l at *
  by_cases h1 : l = 1
  · have h2 : (l : Int) = 1 := by omega
    rw [if_pos h1]
    clear h1
    go_enter Tryd.func12, Tryd.ntmps12
    go_wp2_with (first
      | (go_at_call 9; refine (HF.out _ HXZ.out.2).mono ?_; rintro e w1 ⟨rfl, hF1⟩; have b0 := (HXZ.out.1.fr hF1).c0; have b1 := (HXZ.out.1.fr hF1).c1; have b2 := (HXZ.out.1.fr hF1).c2; have b3 := (HXZ.out.1.fr hF1).c3; have b4 := (HXZ.out.1.fr hF1).c4; have hG := HXZ.out.2.trans hF1)
      | (go_at_call 28; refine (HT _ _ _).mono ?_; rintro e w3 ⟨rfl, rfl⟩))
    go_ret
    exact ⟨ret_int_h (by simp), hG⟩
  · have h2 : ¬ (l : Int) = 1 := by omega
    rw [if_neg h1]
    clear h1
    go_enter Tryd.func12, Tryd.ntmps12
    go_wp2_with (first
      | (go_at_call 9; refine (HF.out _ HXZ.out.2).mono ?_; rintro e w1 ⟨rfl, hF1⟩; have b0 := (HXZ.out.1.fr hF1).c0; have b1 := (HXZ.out.1.fr hF1).c1; have b2 := (HXZ.out.1.fr hF1).c2; have b3 := (HXZ.out.1.fr hF1).c3; have b4 := (HXZ.out.1.fr hF1).c4; have hG := HXZ.out.2.trans hF1)
      | (go_at_call 28; refine (HT _ _ _).mono ?_; rintro e w3 ⟨rfl, rfl⟩))
    go_ret
    exact ⟨ret_int_h (by simp), hG⟩
set_option maxRecDepth 100000 in
set_option maxHeartbeats 1000000 in
theorem check_move (ao : Option Addr) (cap : Nat) (L : List ByteArray) (sh : ByteArray) (At N : Int) (nm : ByteArray) (w : World) (h : SsAt w ao L) (hl : L.length ≤ 140737488355328) (hb : fndB L sh = true) :
    Calls Tryd.prog 12 #[.slice ao L.length cap, .agg #[.int .i64 7, .string sh, .int .i64 At, .int .i64 N, .string nm]] w fun e w' => e = .returned (.int .i64 (if 0 ≤ At ∧ At < (L.length : Int) then 0 else 150)) ∧ Fr noB w w' := by
  have HF : Hid (∀ W, Fr noB w W → Calls Tryd.prog 9 #[.slice ao L.length cap, .string sh] W fun e w' => e = .returned (.tuple #[.int .i64 (fndN L sh : Int), .bool (fndB L sh)]) ∧ Fr noB W w') := fun W hF => find_any ao cap L sh W (h.keep hF) hl
  have HN : Hid (∀ W, Fr noB w W → Calls Tryd.prog 29 #[.slice ao L.length cap, .int .i64 (fndN L sh : Int), .string nm] W fun e w' => e = .returned (.int .i64 (namF L sh nm)) ∧ Fr noB W w') := fun W hF => checkName_any ao cap L sh nm W (h.keep hF) hl
  have HT := told_any
  have HX := x_laid w 7 sh At N nm
  have HZ := fr_alloc w (.cells #[.int .i64 7, .string sh, .int .i64 At, .int .i64 N, .string nm] 24 (0, 0))
  have a0 := HX.c0; have a1 := HX.c1; have a2 := HX.c2; have a3 := HX.c3; have a4 := HX.c4
  have HXZ : Hid _ := And.intro HX HZ
  clear h hl HX HZ
  have HF : Hid (∀ W, Fr noB w W → Calls Tryd.prog 9 #[.slice ao L.length cap, .string sh] W fun e w' => e = .returned (.tuple #[.int .i64 (fndN L sh : Int), .bool true]) ∧ Fr noB W w') := fun W hF => by have := HF.out W hF; rw [hb] at this; exact this
  clear hb
  generalize namF L sh nm = nf at *
  generalize fndN L sh = i at *
  generalize L.length = l at *
  by_cases h1 : At < 0
  · rw [if_neg (by omega)]
    go_enter Tryd.func12, Tryd.ntmps12
    go_wp2_with (first
      | (go_at_call 9; refine (HF.out _ HXZ.out.2).mono ?_; rintro e w1 ⟨rfl, hF1⟩; have b0 := (HXZ.out.1.fr hF1).c0; have b1 := (HXZ.out.1.fr hF1).c1; have b2 := (HXZ.out.1.fr hF1).c2; have b3 := (HXZ.out.1.fr hF1).c3; have b4 := (HXZ.out.1.fr hF1).c4; have hG := HXZ.out.2.trans hF1)
      | (go_at_call 28; refine (HT _ _ _).mono ?_; rintro e w3 ⟨rfl, rfl⟩))
    go_ret
    exact ⟨ret_int_h (by simp), hG⟩
  · by_cases h2 : (l : Int) ≤ At
    · rw [if_neg (by omega)]
      go_enter Tryd.func12, Tryd.ntmps12
      go_wp2_with (first
        | (go_at_call 9; refine (HF.out _ HXZ.out.2).mono ?_; rintro e w1 ⟨rfl, hF1⟩; have b0 := (HXZ.out.1.fr hF1).c0; have b1 := (HXZ.out.1.fr hF1).c1; have b2 := (HXZ.out.1.fr hF1).c2; have b3 := (HXZ.out.1.fr hF1).c3; have b4 := (HXZ.out.1.fr hF1).c4; have hG := HXZ.out.2.trans hF1)
        | (go_at_call 28; refine (HT _ _ _).mono ?_; rintro e w3 ⟨rfl, rfl⟩))
      go_ret
      exact ⟨ret_int_h (by simp), hG⟩
    · rw [if_pos (by omega)]
      go_enter Tryd.func12, Tryd.ntmps12
      go_wp2_with (first
        | (go_at_call 9; refine (HF.out _ HXZ.out.2).mono ?_; rintro e w1 ⟨rfl, hF1⟩; have b0 := (HXZ.out.1.fr hF1).c0; have b1 := (HXZ.out.1.fr hF1).c1; have b2 := (HXZ.out.1.fr hF1).c2; have b3 := (HXZ.out.1.fr hF1).c3; have b4 := (HXZ.out.1.fr hF1).c4; have hG := HXZ.out.2.trans hF1)
        | (go_at_call 28; refine (HT _ _ _).mono ?_; rintro e w3 ⟨rfl, rfl⟩))
      go_ret
      exact ⟨ret_int_h (by simp), hG⟩
set_option maxRecDepth 100000 in
set_option maxHeartbeats 1000000 in
theorem check_name (ao : Option Addr) (cap : Nat) (L : List ByteArray) (sh : ByteArray) (At N : Int) (nm : ByteArray) (w : World) (h : SsAt w ao L) (hl : L.length ≤ 140737488355328) (hb : fndB L sh = true) :
    Calls Tryd.prog 12 #[.slice ao L.length cap, .agg #[.int .i64 8, .string sh, .int .i64 At, .int .i64 N, .string nm]] w fun e w' => e = .returned (.int .i64 (namF L sh nm)) ∧ Fr noB w w' := by
  have HF : Hid (∀ W, Fr noB w W → Calls Tryd.prog 9 #[.slice ao L.length cap, .string sh] W fun e w' => e = .returned (.tuple #[.int .i64 (fndN L sh : Int), .bool (fndB L sh)]) ∧ Fr noB W w') := fun W hF => find_any ao cap L sh W (h.keep hF) hl
  have HN : Hid (∀ W, Fr noB w W → Calls Tryd.prog 29 #[.slice ao L.length cap, .int .i64 (fndN L sh : Int), .string nm] W fun e w' => e = .returned (.int .i64 (namF L sh nm)) ∧ Fr noB W w') := fun W hF => checkName_any ao cap L sh nm W (h.keep hF) hl
  have HT := told_any
  have HX := x_laid w 8 sh At N nm
  have HZ := fr_alloc w (.cells #[.int .i64 8, .string sh, .int .i64 At, .int .i64 N, .string nm] 24 (0, 0))
  have a0 := HX.c0; have a1 := HX.c1; have a2 := HX.c2; have a3 := HX.c3; have a4 := HX.c4
  have HXZ : Hid _ := And.intro HX HZ
  clear h hl HX HZ
  have HF : Hid (∀ W, Fr noB w W → Calls Tryd.prog 9 #[.slice ao L.length cap, .string sh] W fun e w' => e = .returned (.tuple #[.int .i64 (fndN L sh : Int), .bool true]) ∧ Fr noB W w') := fun W hF => by have := HF.out W hF; rw [hb] at this; exact this
  clear hb
  generalize namF L sh nm = nf at *
  generalize fndN L sh = i at *
  generalize L.length = l at *
  go_enter Tryd.func12, Tryd.ntmps12
  go_wp2_with (first
    | (go_at_call 9; refine (HF.out _ HXZ.out.2).mono ?_; rintro e w1 ⟨rfl, hF1⟩; have b0 := (HXZ.out.1.fr hF1).c0; have b1 := (HXZ.out.1.fr hF1).c1; have b2 := (HXZ.out.1.fr hF1).c2; have b3 := (HXZ.out.1.fr hF1).c3; have b4 := (HXZ.out.1.fr hF1).c4; have hG := HXZ.out.2.trans hF1)
    | (go_at_call 29; refine (HN.out _ hG).mono ?_; rintro e w2 ⟨rfl, hF2⟩))
  go_ret
  exact ⟨rfl, hG.trans hF2⟩
set_option maxRecDepth 100000 in
set_option maxHeartbeats 1000000 in
theorem check_band1 (ao : Option Addr) (cap : Nat) (L : List ByteArray) (sh : ByteArray) (At N : Int) (nm : ByteArray) (w : World) (h : SsAt w ao L) (hl : L.length ≤ 140737488355328) (hb : fndB L sh = true) (hN : N ≤ 9223372036854775807) :
    Calls Tryd.prog 12 #[.slice ao L.length cap, .agg #[.int .i64 1, .string sh, .int .i64 At, .int .i64 N, .string nm]] w fun e w' => e = .returned (.int .i64 (spnF At N 1048576)) ∧ Fr noB w w' := by
  have HF : Hid (∀ W, Fr noB w W → Calls Tryd.prog 9 #[.slice ao L.length cap, .string sh] W fun e w' => e = .returned (.tuple #[.int .i64 (fndN L sh : Int), .bool (fndB L sh)]) ∧ Fr noB W w') := fun W hF => find_any ao cap L sh W (h.keep hF) hl
  have HN : Hid (∀ W, Fr noB w W → Calls Tryd.prog 29 #[.slice ao L.length cap, .int .i64 (fndN L sh : Int), .string nm] W fun e w' => e = .returned (.int .i64 (namF L sh nm)) ∧ Fr noB W w') := fun W hF => checkName_any ao cap L sh nm W (h.keep hF) hl
  have HT := told_any
  have HX := x_laid w 1 sh At N nm
  have HZ := fr_alloc w (.cells #[.int .i64 1, .string sh, .int .i64 At, .int .i64 N, .string nm] 24 (0, 0))
  have a0 := HX.c0; have a1 := HX.c1; have a2 := HX.c2; have a3 := HX.c3; have a4 := HX.c4
  have HXZ : Hid _ := And.intro HX HZ
  clear h hl HX HZ
  have HF : Hid (∀ W, Fr noB w W → Calls Tryd.prog 9 #[.slice ao L.length cap, .string sh] W fun e w' => e = .returned (.tuple #[.int .i64 (fndN L sh : Int), .bool true]) ∧ Fr noB W w') := fun W hF => by have := HF.out W hF; rw [hb] at this; exact this
  clear hb
  have HB := bandOf_1 sh At N nm
  have HT2 := fits_any At N 1048576 true false
  have HV : Hid _ := spn_fit At N 1048576
  generalize fitB At N 1048576 = fb at *
  generalize spnF At N 1048576 = sv at *
  generalize namF L sh nm = nf at *
  generalize fndN L sh = i at *
  generalize L.length = l at *
  cases fb
  all_goals
    go_enter Tryd.func12, Tryd.ntmps12
    go_wp2_with (first
      | (go_at_call 9; refine (HF.out _ HXZ.out.2).mono ?_; rintro e w1 ⟨rfl, hF1⟩; have b0 := (HXZ.out.1.fr hF1).c0; have b1 := (HXZ.out.1.fr hF1).c1; have b2 := (HXZ.out.1.fr hF1).c2; have b3 := (HXZ.out.1.fr hF1).c3; have b4 := (HXZ.out.1.fr hF1).c4; have hG := HXZ.out.2.trans hF1)
      | (go_at_call 30; refine (HB _).mono ?_; rintro e w2 ⟨rfl, hF2⟩)
      | (go_at_call 31; refine (HT2 _ (by omega) (by omega) hN).mono ?_; rintro e w3 ⟨rfl, hF3⟩)
      | (go_at_call 28; refine (HT _ _ _).mono ?_; rintro e w4 ⟨rfl, rfl⟩))
    go_ret
    exact ⟨ret_int_h (by have := HV.out; simpa using this), hG.trans (hF2.trans (((Fr.refl noB w2).alloc _).trans hF3))⟩
set_option maxRecDepth 100000 in
set_option maxHeartbeats 1000000 in
theorem check_band2 (ao : Option Addr) (cap : Nat) (L : List ByteArray) (sh : ByteArray) (At N : Int) (nm : ByteArray) (w : World) (h : SsAt w ao L) (hl : L.length ≤ 140737488355328) (hb : fndB L sh = true) (hN : N ≤ 9223372036854775807) :
    Calls Tryd.prog 12 #[.slice ao L.length cap, .agg #[.int .i64 2, .string sh, .int .i64 At, .int .i64 N, .string nm]] w fun e w' => e = .returned (.int .i64 (spnF At N 1048576)) ∧ Fr noB w w' := by
  have HF : Hid (∀ W, Fr noB w W → Calls Tryd.prog 9 #[.slice ao L.length cap, .string sh] W fun e w' => e = .returned (.tuple #[.int .i64 (fndN L sh : Int), .bool (fndB L sh)]) ∧ Fr noB W w') := fun W hF => find_any ao cap L sh W (h.keep hF) hl
  have HN : Hid (∀ W, Fr noB w W → Calls Tryd.prog 29 #[.slice ao L.length cap, .int .i64 (fndN L sh : Int), .string nm] W fun e w' => e = .returned (.int .i64 (namF L sh nm)) ∧ Fr noB W w') := fun W hF => checkName_any ao cap L sh nm W (h.keep hF) hl
  have HT := told_any
  have HX := x_laid w 2 sh At N nm
  have HZ := fr_alloc w (.cells #[.int .i64 2, .string sh, .int .i64 At, .int .i64 N, .string nm] 24 (0, 0))
  have a0 := HX.c0; have a1 := HX.c1; have a2 := HX.c2; have a3 := HX.c3; have a4 := HX.c4
  have HXZ : Hid _ := And.intro HX HZ
  clear h hl HX HZ
  have HF : Hid (∀ W, Fr noB w W → Calls Tryd.prog 9 #[.slice ao L.length cap, .string sh] W fun e w' => e = .returned (.tuple #[.int .i64 (fndN L sh : Int), .bool true]) ∧ Fr noB W w') := fun W hF => by have := HF.out W hF; rw [hb] at this; exact this
  clear hb
  have HB := bandOf_2 sh At N nm
  have HT2 := fits_any At N 1048576 false false
  have HV : Hid _ := spn_fit At N 1048576
  generalize fitB At N 1048576 = fb at *
  generalize spnF At N 1048576 = sv at *
  generalize namF L sh nm = nf at *
  generalize fndN L sh = i at *
  generalize L.length = l at *
  cases fb
  all_goals
    go_enter Tryd.func12, Tryd.ntmps12
    go_wp2_with (first
      | (go_at_call 9; refine (HF.out _ HXZ.out.2).mono ?_; rintro e w1 ⟨rfl, hF1⟩; have b0 := (HXZ.out.1.fr hF1).c0; have b1 := (HXZ.out.1.fr hF1).c1; have b2 := (HXZ.out.1.fr hF1).c2; have b3 := (HXZ.out.1.fr hF1).c3; have b4 := (HXZ.out.1.fr hF1).c4; have hG := HXZ.out.2.trans hF1)
      | (go_at_call 30; refine (HB _).mono ?_; rintro e w2 ⟨rfl, hF2⟩)
      | (go_at_call 31; refine (HT2 _ (by omega) (by omega) hN).mono ?_; rintro e w3 ⟨rfl, hF3⟩)
      | (go_at_call 28; refine (HT _ _ _).mono ?_; rintro e w4 ⟨rfl, rfl⟩))
    go_ret
    exact ⟨ret_int_h (by have := HV.out; simpa using this), hG.trans (hF2.trans (((Fr.refl noB w2).alloc _).trans hF3))⟩
set_option maxRecDepth 100000 in
set_option maxHeartbeats 1000000 in
theorem check_band3 (ao : Option Addr) (cap : Nat) (L : List ByteArray) (sh : ByteArray) (At N : Int) (nm : ByteArray) (w : World) (h : SsAt w ao L) (hl : L.length ≤ 140737488355328) (hb : fndB L sh = true) (hN : N ≤ 9223372036854775807) :
    Calls Tryd.prog 12 #[.slice ao L.length cap, .agg #[.int .i64 3, .string sh, .int .i64 At, .int .i64 N, .string nm]] w fun e w' => e = .returned (.int .i64 (spnF At N 1024)) ∧ Fr noB w w' := by
  have HF : Hid (∀ W, Fr noB w W → Calls Tryd.prog 9 #[.slice ao L.length cap, .string sh] W fun e w' => e = .returned (.tuple #[.int .i64 (fndN L sh : Int), .bool (fndB L sh)]) ∧ Fr noB W w') := fun W hF => find_any ao cap L sh W (h.keep hF) hl
  have HN : Hid (∀ W, Fr noB w W → Calls Tryd.prog 29 #[.slice ao L.length cap, .int .i64 (fndN L sh : Int), .string nm] W fun e w' => e = .returned (.int .i64 (namF L sh nm)) ∧ Fr noB W w') := fun W hF => checkName_any ao cap L sh nm W (h.keep hF) hl
  have HT := told_any
  have HX := x_laid w 3 sh At N nm
  have HZ := fr_alloc w (.cells #[.int .i64 3, .string sh, .int .i64 At, .int .i64 N, .string nm] 24 (0, 0))
  have a0 := HX.c0; have a1 := HX.c1; have a2 := HX.c2; have a3 := HX.c3; have a4 := HX.c4
  have HXZ : Hid _ := And.intro HX HZ
  clear h hl HX HZ
  have HF : Hid (∀ W, Fr noB w W → Calls Tryd.prog 9 #[.slice ao L.length cap, .string sh] W fun e w' => e = .returned (.tuple #[.int .i64 (fndN L sh : Int), .bool true]) ∧ Fr noB W w') := fun W hF => by have := HF.out W hF; rw [hb] at this; exact this
  clear hb
  have HB := bandOf_3 sh At N nm
  have HT2 := fits_any At N 1024 true true
  have HV : Hid _ := spn_fit At N 1024
  generalize fitB At N 1024 = fb at *
  generalize spnF At N 1024 = sv at *
  generalize namF L sh nm = nf at *
  generalize fndN L sh = i at *
  generalize L.length = l at *
  cases fb
  all_goals
    go_enter Tryd.func12, Tryd.ntmps12
    go_wp2_with (first
      | (go_at_call 9; refine (HF.out _ HXZ.out.2).mono ?_; rintro e w1 ⟨rfl, hF1⟩; have b0 := (HXZ.out.1.fr hF1).c0; have b1 := (HXZ.out.1.fr hF1).c1; have b2 := (HXZ.out.1.fr hF1).c2; have b3 := (HXZ.out.1.fr hF1).c3; have b4 := (HXZ.out.1.fr hF1).c4; have hG := HXZ.out.2.trans hF1)
      | (go_at_call 30; refine (HB _).mono ?_; rintro e w2 ⟨rfl, hF2⟩)
      | (go_at_call 31; refine (HT2 _ (by omega) (by omega) hN).mono ?_; rintro e w3 ⟨rfl, hF3⟩)
      | (go_at_call 28; refine (HT _ _ _).mono ?_; rintro e w4 ⟨rfl, rfl⟩))
    go_ret
    exact ⟨ret_int_h (by have := HV.out; simpa using this), hG.trans (hF2.trans (((Fr.refl noB w2).alloc _).trans hF3))⟩
set_option maxRecDepth 100000 in
set_option maxHeartbeats 1000000 in
theorem check_band4 (ao : Option Addr) (cap : Nat) (L : List ByteArray) (sh : ByteArray) (At N : Int) (nm : ByteArray) (w : World) (h : SsAt w ao L) (hl : L.length ≤ 140737488355328) (hb : fndB L sh = true) (hN : N ≤ 9223372036854775807) :
    Calls Tryd.prog 12 #[.slice ao L.length cap, .agg #[.int .i64 4, .string sh, .int .i64 At, .int .i64 N, .string nm]] w fun e w' => e = .returned (.int .i64 (spnF At N 1024)) ∧ Fr noB w w' := by
  have HF : Hid (∀ W, Fr noB w W → Calls Tryd.prog 9 #[.slice ao L.length cap, .string sh] W fun e w' => e = .returned (.tuple #[.int .i64 (fndN L sh : Int), .bool (fndB L sh)]) ∧ Fr noB W w') := fun W hF => find_any ao cap L sh W (h.keep hF) hl
  have HN : Hid (∀ W, Fr noB w W → Calls Tryd.prog 29 #[.slice ao L.length cap, .int .i64 (fndN L sh : Int), .string nm] W fun e w' => e = .returned (.int .i64 (namF L sh nm)) ∧ Fr noB W w') := fun W hF => checkName_any ao cap L sh nm W (h.keep hF) hl
  have HT := told_any
  have HX := x_laid w 4 sh At N nm
  have HZ := fr_alloc w (.cells #[.int .i64 4, .string sh, .int .i64 At, .int .i64 N, .string nm] 24 (0, 0))
  have a0 := HX.c0; have a1 := HX.c1; have a2 := HX.c2; have a3 := HX.c3; have a4 := HX.c4
  have HXZ : Hid _ := And.intro HX HZ
  clear h hl HX HZ
  have HF : Hid (∀ W, Fr noB w W → Calls Tryd.prog 9 #[.slice ao L.length cap, .string sh] W fun e w' => e = .returned (.tuple #[.int .i64 (fndN L sh : Int), .bool true]) ∧ Fr noB W w') := fun W hF => by have := HF.out W hF; rw [hb] at this; exact this
  clear hb
  have HB := bandOf_4 sh At N nm
  have HT2 := fits_any At N 1024 false true
  have HV : Hid _ := spn_fit At N 1024
  generalize fitB At N 1024 = fb at *
  generalize spnF At N 1024 = sv at *
  generalize namF L sh nm = nf at *
  generalize fndN L sh = i at *
  generalize L.length = l at *
  cases fb
  all_goals
    go_enter Tryd.func12, Tryd.ntmps12
    go_wp2_with (first
      | (go_at_call 9; refine (HF.out _ HXZ.out.2).mono ?_; rintro e w1 ⟨rfl, hF1⟩; have b0 := (HXZ.out.1.fr hF1).c0; have b1 := (HXZ.out.1.fr hF1).c1; have b2 := (HXZ.out.1.fr hF1).c2; have b3 := (HXZ.out.1.fr hF1).c3; have b4 := (HXZ.out.1.fr hF1).c4; have hG := HXZ.out.2.trans hF1)
      | (go_at_call 30; refine (HB _).mono ?_; rintro e w2 ⟨rfl, hF2⟩)
      | (go_at_call 31; refine (HT2 _ (by omega) (by omega) hN).mono ?_; rintro e w3 ⟨rfl, hF3⟩)
      | (go_at_call 28; refine (HT _ _ _).mono ?_; rintro e w4 ⟨rfl, rfl⟩))
    go_ret
    exact ⟨ret_int_h (by have := HV.out; simpa using this), hG.trans (hF2.trans (((Fr.refl noB w2).alloc _).trans hF3))⟩
/-- Check of the program. -/
theorem check_all (ao : Option Addr) (cap : Nat) (L : List ByteArray) (K : Int) (sh : ByteArray) (At N : Int) (nm : ByteArray) (w : World) (h : SsAt w ao L) (hl : L.length ≤ 140737488355328) (hN : N ≤ 9223372036854775807) :
    Calls Tryd.prog 12 #[.slice ao L.length cap, .agg #[.int .i64 K, .string sh, .int .i64 At, .int .i64 N, .string nm]] w fun e w' => e = .returned (.int .i64 (chkS L K sh At N nm)) ∧ Fr noB w w' := by
  unfold chkS
  by_cases k0 : K < 1 ∨ 8 < K
  · rw [if_pos k0]; exact check_out ao cap _ K sh At N nm w k0
  rw [if_neg k0]
  by_cases k5 : K = 5
  · subst k5; rw [if_pos rfl]; exact check_new ao cap L sh At N nm w h hl
  rw [if_neg k5]
  cases hb : fndB L sh with
  | false => rw [if_pos rfl]; exact check_none ao cap L K sh At N nm w h hl (by omega) (by omega) k5 hb
  | true =>
    rw [if_neg (by simp)]
    have e : K = 1 ∨ K = 2 ∨ K = 3 ∨ K = 4 ∨ K = 6 ∨ K = 7 ∨ K = 8 := by omega
    rcases e with rfl | rfl | rfl | rfl | rfl | rfl | rfl
    · exact check_band1 ao cap L sh At N nm w h hl hb hN
    · exact check_band2 ao cap L sh At N nm w h hl hb hN
    · exact check_band3 ao cap L sh At N nm w h hl hb hN
    · exact check_band4 ao cap L sh At N nm w h hl hb hN
    · exact check_del ao cap L sh At N nm w h hl hb
    · exact check_move ao cap L sh At N nm w h hl hb
    · exact check_name ao cap L sh At N nm w h hl hb
#print axioms check_all
end Go.Proofs.YthokhnbecgkpbaaDoor
