/- Where a cell lies behind a shift: the document's side. -/
import Derived.Test.YthokhnbecgkpbaaDoorHCep
import Derived.Test.YthokhnbecgkpbaaDoorHRck
namespace Go.Proofs.YthokhnbecgkpbaaDoor
open Go.RowKit

def numI (n f t : Int) : Int := if n = f then t else if f < n ∧ n ≤ t then n - 1 else if n < f ∧ t ≤ n then n + 1 else n
theorem num_is (n k At : Int) : numI n k At = if n = k then At else comI At (gonI k n) := by
  unfold numI comI gonI
  by_cases h : n = k
  · rw [if_pos h, if_pos h]
  · rw [if_neg h, if_neg h]
    repeat' split
    all_goals omega
set_option maxRecDepth 100000 in
set_option maxHeartbeats 1000000 in
theorem rnum_any (n f t : Int) (w : World) (h0 : 0 ≤ n) (h1 : n ≤ 140737488355328) : Calls Tryd.prog 38 #[.int .i64 n, .int .i64 f, .int .i64 t] w fun e w' => e = .returned (.int .i64 (numI n f t)) ∧ w' = w := by
  have hw1 : IntKind.i64.wrap (n - 1) = n - 1 := by rw [IntKind.wrap_i64]; omega
  have hw2 : IntKind.i64.wrap (n + 1) = n + 1 := by rw [IntKind.wrap_i64]; omega
  have HV : Hid (numI n f t = if n = f then t else if f < n ∧ n ≤ t then n - 1 else if n < f ∧ t ≤ n then n + 1 else n) := rfl
  generalize numI n f t = v at *
  clear h0 h1
  obtain ⟨p, hp⟩ : ∃ p, n - 1 = p := ⟨_, rfl⟩
  obtain ⟨q, hq⟩ : ∃ q, n + 1 = q := ⟨_, rfl⟩
  rw [hp] at hw1 HV
  rw [hq] at hw2 HV
  by_cases c1 : n = f
  · have HX : Hid (v = t) := HV.out.trans (if_pos c1)
    clear HV
    go_enter Tryd.func38, Tryd.ntmps38
    go_wp2_with fail
    go_ret
    rw [HX.out]
    exact ⟨rfl, rfl⟩
  · have HV2 : Hid (v = if f < n ∧ n ≤ t then p else if n < f ∧ t ≤ n then q else n) := HV.out.trans (if_neg c1)
    clear HV
    by_cases c2 : f < n
    · by_cases c3 : n ≤ t
      · have HX : Hid (v = p) := HV2.out.trans (if_pos ⟨c2, c3⟩)
        clear HV2
        go_enter Tryd.func38, Tryd.ntmps38
        go_wp2_with fail
        go_ret
        rw [HX.out]
        exact ⟨rfl, rfl⟩
      · have c4 : ¬ n < f := by omega
        have HX : Hid (v = n) := HV2.out.trans ((if_neg (fun q => c3 q.2)).trans (if_neg (fun q => c4 q.1)))
        clear HV2
        go_enter Tryd.func38, Tryd.ntmps38
        go_wp2_with fail
        go_ret
        rw [HX.out]
        exact ⟨rfl, rfl⟩
    · have c3 : n < f := by omega
      by_cases c4 : t ≤ n
      · have HX : Hid (v = q) := HV2.out.trans ((if_neg (fun q => c2 q.1)).trans (if_pos ⟨c3, c4⟩))
        clear HV2
        go_enter Tryd.func38, Tryd.ntmps38
        go_wp2_with fail
        go_ret
        rw [HX.out]
        exact ⟨rfl, rfl⟩
      · have HX : Hid (v = n) := HV2.out.trans ((if_neg (fun q => c2 q.1)).trans (if_neg (fun q => c4 q.2)))
        clear HV2
        go_enter Tryd.func38, Tryd.ntmps38
        go_wp2_with fail
        go_ret
        rw [HX.out]
        exact ⟨rfl, rfl⟩
set_option maxRecDepth 100000 in
set_option maxHeartbeats 1000000 in
theorem rmoved_any (At N lim : Int) (cm : Bool) (line : Int) (w : World) (h1 : 0 ≤ At) (h2 : At ≤ 1048576) (h3 : 0 ≤ N) (h4 : N ≤ 1048576) (h5 : 0 ≤ line) (h6 : line ≤ 1048576) :
    Calls Tryd.prog 39 #[.int .i64 line, .int .i64 At, .int .i64 N, .int .i64 lim, .bool cm] w fun e w' => e = .returned (.tuple #[.int .i64 (movI At N cm line), .bool (movB At N lim cm line)]) ∧ Fr noB w w' := by
  unfold movI movB
  have hw1 : IntKind.i64.wrap (line + N) = line + N := by rw [IntKind.wrap_i64]; omega
  have hw2 : IntKind.i64.wrap (line - N) = line - N := by rw [IntKind.wrap_i64]; omega
  have hw3 : IntKind.i64.wrap (At + N) = At + N := by rw [IntKind.wrap_i64]; omega
  by_cases n1 : line < At
  · rw [if_pos n1, if_pos n1]
    go_enter Tryd.func39, Tryd.ntmps39
    go_wp2_with fail
    go_ret2
    exact ⟨rfl, Fr.refl _ _⟩
  · rw [if_neg n1, if_neg n1]
    clear h1 h2 h3 h4 h5 h6
    cases cm with
    | true =>
      rw [if_pos rfl, if_pos rfl]
      obtain ⟨q, hq⟩ : ∃ q, line + N = q := ⟨_, rfl⟩
      rw [hq] at hw1 ⊢
      go_enter Tryd.func39, Tryd.ntmps39
      go_wp2_with fail
      go_ret2
      exact ⟨rfl, Fr.refl _ _⟩
    | false =>
      rw [if_neg (by simp), if_neg (by simp)]
      obtain ⟨q, hq⟩ : ∃ q, line - N = q := ⟨_, rfl⟩
      obtain ⟨t, ht⟩ : ∃ t, At + N = t := ⟨_, rfl⟩
      rw [hq] at hw2 ⊢
      rw [ht] at hw3 ⊢
      go_enter Tryd.func39, Tryd.ntmps39
      go_wp2_with fail
      go_ret2
      exact ⟨rfl, Fr.refl _ _⟩
set_option maxRecDepth 100000 in
set_option maxHeartbeats 2000000 in
theorem rcell_no (ao : Option Addr) (cap : Nat) (L : List ByteArray) (K : Int) (sh : ByteArray) (At N : Int) (nm : ByteArray) (s r c : Int) (w : World) (h : SsAt w ao L) (hl : L.length ≤ 140737488355328) (hsh : sh.size ≤ 140737488355328) (hnm : nm.size ≤ 140737488355328) (hL : ∀ x ∈ L, x.size ≤ 140737488355328) (hT : Tabs w) (hc : ¬ chkS L K sh At N nm = 0) :
    Calls Tryd.prog 18 #[.slice ao L.length cap, .agg #[.int .i64 K, .string sh, .int .i64 At, .int .i64 N, .string nm], .agg #[.int .i64 s, .int .i64 r, .int .i64 c]] w fun e w' => e = .returned (.tuple #[.agg #[.int .i64 0, .int .i64 0, .int .i64 0], .bool false]) ∧ Fr noB w w' := by
  have HC : Hid (∀ W, Fr noB w W → Calls Tryd.prog 13 #[.slice ao L.length cap, .agg #[.int .i64 K, .string sh, .int .i64 At, .int .i64 N, .string nm]] W fun e w' => e = .returned (.int .i64 (chkS L K sh At N nm)) ∧ Fr noB W w') := fun W hF => rck_all ao cap L K sh At N nm W (h.keep hF) hl hsh hnm hL (hT.keep hF)
  have HF : Hid (∀ W, Fr noB w W → Calls Tryd.prog 10 #[.slice ao L.length cap, .string sh] W fun e w' => e = .returned (.tuple #[.int .i64 (fndN L sh : Int), .bool (fndB L sh)]) ∧ Fr noB W w') := fun W hF => rfind_any ao cap L sh W (h.keep hF) hl hsh hL
  obtain ⟨W0, hW0⟩ : ∃ W0, ((w.alloc (.cells #[.int .i64 K, .string sh, .int .i64 At, .int .i64 N, .string nm] 24 (0, 0))).alloc (.cells #[.int .i64 s, .int .i64 r, .int .i64 c] 38 (0, 0))).alloc (.cells #[.int .i64 0, .int .i64 0, .int .i64 0] 38 (0, 0)) = W0 := ⟨_, rfl⟩
  have hX : XAt W0 w.heap.size K sh At N nm := by rw [← hW0]; exact ⟨old1 (old1 (heap_alloc_new w _))⟩
  have hA : AAt W0 (w.heap.size + 1) s r c := by rw [← hW0]; exact ⟨old1 (new1 _ _ _ (by simp))⟩
  have hO : AAt W0 (w.heap.size + 1 + 1) 0 0 0 := by rw [← hW0]; exact ⟨new1 _ _ _ (by simp)⟩
  have hF0 : Fr noB w W0 := by rw [← hW0]; exact (((Fr.refl noB w).alloc _).alloc _).alloc _
  have a0 := hX.c0; have a1 := hX.c1; have a2 := hX.c2; have a3 := hX.c3; have a4 := hX.c4
  have HH : Hid _ := And.intro hX (And.intro hA (And.intro hO hF0))
  have a5 := hA.c0; have a6 := hA.c1; have a7 := hA.c2
  clear hX hA hO hF0 h hl hsh hnm hL hT HF
  generalize chkS L K sh At N nm = v at *
  generalize L.length = l at *
  have hv : (v != 0) = true := by simpa using hc
  clear hc
  go_enter Tryd.func18, Tryd.ntmps18
  go_wp2_with (go_at_call 13; refine (HC.out _ HH.out.2.2.2).mono ?_; rintro e w1 ⟨rfl, hF1⟩; have gX := HH.out.1.fr hF1; have gx0 := gX.c0; have gx1 := gX.c1; have gx2 := gX.c2; have gx3 := gX.c3; have gx4 := gX.c4; have gA := HH.out.2.1.fr hF1; have ga0 := gA.c0; have ga1 := gA.c1; have ga2 := gA.c2; have gO := HH.out.2.2.1.fr hF1; have go0 := gO.c0; have go1 := gO.c1; have go2 := gO.c2; have gf0 := gO.f 0; have gf1 := gO.f 1; have gf2 := gO.f 2; have HF1 : Hid _ := hF1; clear hF1 gX gA gO)
  all_goals
    obtain ⟨W, hW⟩ : ∃ W, (((w1).setCell ⟨w.heap.size + 1 + 1, 0, none⟩ (.int .i64 0)).setCell ⟨w.heap.size + 1 + 1, 1, none⟩ (.int .i64 0)).setCell ⟨w.heap.size + 1 + 1, 2, none⟩ (.int .i64 0) = W := ⟨_, rfl⟩
    have p : W.heap[w.heap.size + 1 + 1]? = some (.cells #[.int .i64 0, .int .i64 0, .int .i64 0] 38 (0, 0)) := by
      rw [← hW]
      exact setOf 2 _ (setOf 1 _ (setOf 0 _ (HH.out.2.2.1.fr HF1.out).o))
    have p0 := cellOf (o := 0) p rfl
    have p1 := cellOf (o := 1) p rfl
    have p2 := cellOf (o := 2) p rfl
    have hFW : Fr noB w W := by
      rw [← hW]
      exact (((HH.out.2.2.2.trans HF1.out).setCell ⟨w.heap.size + 1 + 1, 0, none⟩ (Or.inr (by show w.heap.size ≤ w.heap.size + 1 + 1; omega)) _).setCell ⟨w.heap.size + 1 + 1, 1, none⟩ (Or.inr (by show w.heap.size ≤ w.heap.size + 1 + 1; omega)) _).setCell ⟨w.heap.size + 1 + 1, 2, none⟩ (Or.inr (by show w.heap.size ≤ w.heap.size + 1 + 1; omega)) _
    try rw [hW]
    refine bodyPost_ret ?_ rfl ⟨rfl, hFW⟩
    simp [results, Tryd.results18, go_sem, p0, p1, p2]
set_option maxRecDepth 100000 in
set_option maxHeartbeats 2000000 in
theorem rcell_not (ao : Option Addr) (cap : Nat) (L : List ByteArray) (K : Int) (sh : ByteArray) (At N : Int) (nm : ByteArray) (s r c : Int) (w : World) (h : SsAt w ao L) (hl : L.length ≤ 140737488355328) (hsh : sh.size ≤ 140737488355328) (hnm : nm.size ≤ 140737488355328) (hL : ∀ x ∈ L, x.size ≤ 140737488355328) (hT : Tabs w) (hc : chkS L K sh At N nm = 0) (hi : inB L.length s r c = false) :
    Calls Tryd.prog 18 #[.slice ao L.length cap, .agg #[.int .i64 K, .string sh, .int .i64 At, .int .i64 N, .string nm], .agg #[.int .i64 s, .int .i64 r, .int .i64 c]] w fun e w' => e = .returned (.tuple #[.agg #[.int .i64 0, .int .i64 0, .int .i64 0], .bool false]) ∧ Fr noB w w' := by
  have HC : Hid (∀ W, Fr noB w W → Calls Tryd.prog 13 #[.slice ao L.length cap, .agg #[.int .i64 K, .string sh, .int .i64 At, .int .i64 N, .string nm]] W fun e w' => e = .returned (.int .i64 (chkS L K sh At N nm)) ∧ Fr noB W w') := fun W hF => rck_all ao cap L K sh At N nm W (h.keep hF) hl hsh hnm hL (hT.keep hF)
  have HF : Hid (∀ W, Fr noB w W → Calls Tryd.prog 10 #[.slice ao L.length cap, .string sh] W fun e w' => e = .returned (.tuple #[.int .i64 (fndN L sh : Int), .bool (fndB L sh)]) ∧ Fr noB W w') := fun W hF => rfind_any ao cap L sh W (h.keep hF) hl hsh hL
  obtain ⟨W0, hW0⟩ : ∃ W0, ((w.alloc (.cells #[.int .i64 K, .string sh, .int .i64 At, .int .i64 N, .string nm] 24 (0, 0))).alloc (.cells #[.int .i64 s, .int .i64 r, .int .i64 c] 38 (0, 0))).alloc (.cells #[.int .i64 0, .int .i64 0, .int .i64 0] 38 (0, 0)) = W0 := ⟨_, rfl⟩
  have hX : XAt W0 w.heap.size K sh At N nm := by rw [← hW0]; exact ⟨old1 (old1 (heap_alloc_new w _))⟩
  have hA : AAt W0 (w.heap.size + 1) s r c := by rw [← hW0]; exact ⟨old1 (new1 _ _ _ (by simp))⟩
  have hO : AAt W0 (w.heap.size + 1 + 1) 0 0 0 := by rw [← hW0]; exact ⟨new1 _ _ _ (by simp)⟩
  have hF0 : Fr noB w W0 := by rw [← hW0]; exact (((Fr.refl noB w).alloc _).alloc _).alloc _
  have a0 := hX.c0; have a1 := hX.c1; have a2 := hX.c2; have a3 := hX.c3; have a4 := hX.c4
  have HH : Hid _ := And.intro hX (And.intro hA (And.intro hO hF0))
  have a5 := hA.c0; have a6 := hA.c1; have a7 := hA.c2
  rw [hc] at HC
  have HN : Hid (¬ (0 ≤ s ∧ s < (L.length : Int) ∧ 0 ≤ r ∧ r < 1048576 ∧ 0 ≤ c ∧ c < 1024)) := of_decide_eq_false hi
  clear hX hA hO hF0 h hl hsh hnm hL hT HF hc hi
  generalize L.length = l at *
  by_cases h6 : c < 1024
  all_goals
    go_enter Tryd.func18, Tryd.ntmps18
    go_wp2_with (go_at_call 13; refine (HC.out _ HH.out.2.2.2).mono ?_; rintro e w1 ⟨rfl, hF1⟩; have gX := HH.out.1.fr hF1; have gx0 := gX.c0; have gx1 := gX.c1; have gx2 := gX.c2; have gx3 := gX.c3; have gx4 := gX.c4; have gA := HH.out.2.1.fr hF1; have ga0 := gA.c0; have ga1 := gA.c1; have ga2 := gA.c2; have gO := HH.out.2.2.1.fr hF1; have go0 := gO.c0; have go1 := gO.c1; have go2 := gO.c2; have gf0 := gO.f 0; have gf1 := gO.f 1; have gf2 := gO.f 2; have HF1 : Hid _ := hF1; clear hF1 gX gA gO)
    all_goals first
      | (exfalso; have := HN.out; omega)
      | skip
    all_goals
      obtain ⟨W, hW⟩ : ∃ W, (((w1).setCell ⟨w.heap.size + 1 + 1, 0, none⟩ (.int .i64 0)).setCell ⟨w.heap.size + 1 + 1, 1, none⟩ (.int .i64 0)).setCell ⟨w.heap.size + 1 + 1, 2, none⟩ (.int .i64 0) = W := ⟨_, rfl⟩
      have p : W.heap[w.heap.size + 1 + 1]? = some (.cells #[.int .i64 0, .int .i64 0, .int .i64 0] 38 (0, 0)) := by
        rw [← hW]
        exact setOf 2 _ (setOf 1 _ (setOf 0 _ (HH.out.2.2.1.fr HF1.out).o))
      have p0 := cellOf (o := 0) p rfl
      have p1 := cellOf (o := 1) p rfl
      have p2 := cellOf (o := 2) p rfl
      have hFW : Fr noB w W := by
        rw [← hW]
        exact (((HH.out.2.2.2.trans HF1.out).setCell ⟨w.heap.size + 1 + 1, 0, none⟩ (Or.inr (by show w.heap.size ≤ w.heap.size + 1 + 1; omega)) _).setCell ⟨w.heap.size + 1 + 1, 1, none⟩ (Or.inr (by show w.heap.size ≤ w.heap.size + 1 + 1; omega)) _).setCell ⟨w.heap.size + 1 + 1, 2, none⟩ (Or.inr (by show w.heap.size ≤ w.heap.size + 1 + 1; omega)) _
      try rw [hW]
      refine bodyPost_ret ?_ rfl ⟨rfl, hFW⟩
      simp [results, Tryd.results18, go_sem, p0, p1, p2]
set_option maxRecDepth 100000 in
set_option maxHeartbeats 2000000 in
theorem rcell_5 (ao : Option Addr) (cap : Nat) (L : List ByteArray) (sh : ByteArray) (At N : Int) (nm : ByteArray) (s r c : Int) (w : World) (h : SsAt w ao L) (hl : L.length ≤ 140737488355328) (hsh : sh.size ≤ 140737488355328) (hnm : nm.size ≤ 140737488355328) (hL : ∀ x ∈ L, x.size ≤ 140737488355328) (hT : Tabs w) (hc : chkS L 5 sh At N nm = 0) (hi : inB L.length s r c = true) :
    Calls Tryd.prog 18 #[.slice ao L.length cap, .agg #[.int .i64 5, .string sh, .int .i64 At, .int .i64 N, .string nm], .agg #[.int .i64 s, .int .i64 r, .int .i64 c]] w fun e w' => e = .returned (.tuple #[.agg #[.int .i64 (comI At s), .int .i64 (r), .int .i64 (c)], .bool true]) ∧ Fr noB w w' := by
  have HC : Hid (∀ W, Fr noB w W → Calls Tryd.prog 13 #[.slice ao L.length cap, .agg #[.int .i64 5, .string sh, .int .i64 At, .int .i64 N, .string nm]] W fun e w' => e = .returned (.int .i64 (chkS L 5 sh At N nm)) ∧ Fr noB W w') := fun W hF => rck_all ao cap L 5 sh At N nm W (h.keep hF) hl hsh hnm hL (hT.keep hF)
  have HF : Hid (∀ W, Fr noB w W → Calls Tryd.prog 10 #[.slice ao L.length cap, .string sh] W fun e w' => e = .returned (.tuple #[.int .i64 (fndN L sh : Int), .bool (fndB L sh)]) ∧ Fr noB W w') := fun W hF => rfind_any ao cap L sh W (h.keep hF) hl hsh hL
  obtain ⟨W0, hW0⟩ : ∃ W0, ((w.alloc (.cells #[.int .i64 5, .string sh, .int .i64 At, .int .i64 N, .string nm] 24 (0, 0))).alloc (.cells #[.int .i64 s, .int .i64 r, .int .i64 c] 38 (0, 0))).alloc (.cells #[.int .i64 0, .int .i64 0, .int .i64 0] 38 (0, 0)) = W0 := ⟨_, rfl⟩
  have hX : XAt W0 w.heap.size 5 sh At N nm := by rw [← hW0]; exact ⟨old1 (old1 (heap_alloc_new w _))⟩
  have hA : AAt W0 (w.heap.size + 1) s r c := by rw [← hW0]; exact ⟨old1 (new1 _ _ _ (by simp))⟩
  have hO : AAt W0 (w.heap.size + 1 + 1) 0 0 0 := by rw [← hW0]; exact ⟨new1 _ _ _ (by simp)⟩
  have hF0 : Fr noB w W0 := by rw [← hW0]; exact (((Fr.refl noB w).alloc _).alloc _).alloc _
  have a0 := hX.c0; have a1 := hX.c1; have a2 := hX.c2; have a3 := hX.c3; have a4 := hX.c4
  have HH : Hid _ := And.intro hX (And.intro hA (And.intro hO hF0))
  have a5 := hA.c0; have a6 := hA.c1; have a7 := hA.c2
  rw [hc] at HC
  obtain ⟨i1, i2, i3, i4, i5, i6⟩ := in_iff hi
  have hs47 : s ≤ 140737488355328 := by omega
  clear hX hA hO hF0 h hl hsh hnm hL hT hc hi
  generalize (fndN L sh : Int) = k at *
  generalize fndB L sh = bs at *
  generalize L.length = l at *
  unfold comI
  by_cases d : At ≤ s
  · rw [if_pos d]
    have hw : IntKind.i64.wrap (s + 1) = s + 1 := by rw [IntKind.wrap_i64]; omega
    obtain ⟨q, hq⟩ : ∃ q, s + 1 = q := ⟨_, rfl⟩
    rw [hq] at hw ⊢
    go_enter Tryd.func18, Tryd.ntmps18
    go_wp2_with (first
      | (go_at_call 13; refine (HC.out _ HH.out.2.2.2).mono ?_; rintro e w1 ⟨rfl, hF1⟩; have gX := HH.out.1.fr hF1; have gx0 := gX.c0; have gx1 := gX.c1; have gx2 := gX.c2; have gx3 := gX.c3; have gx4 := gX.c4; have gA := HH.out.2.1.fr hF1; have ga0 := gA.c0; have ga1 := gA.c1; have ga2 := gA.c2; have gO := HH.out.2.2.1.fr hF1; have go0 := gO.c0; have go1 := gO.c1; have go2 := gO.c2; have gf0 := gO.f 0; have gf1 := gO.f 1; have gf2 := gO.f 2; have HF1 : Hid _ := hF1; clear hF1 gX gA gO)
      | (go_at_call 10; refine (HF.out _ (HH.out.2.2.2.trans HF1.out)).mono ?_; rintro e w2 ⟨rfl, hF2⟩; have hG2 := HF1.out.trans hF2; have kX := HH.out.1.fr hG2; have kx0 := kX.c0; have kx1 := kX.c1; have kx2 := kX.c2; have kx3 := kX.c3; have kx4 := kX.c4; have kA := HH.out.2.1.fr hG2; have ka0 := kA.c0; have ka1 := kA.c1; have ka2 := kA.c2; have kO := HH.out.2.2.1.fr hG2; have ko0 := kO.c0; have ko1 := kO.c1; have ko2 := kO.c2; have kf0 := kO.f 0; have kf1 := kO.f 1; have kf2 := kO.f 2; have kg0 := kA.f 0; have HF2 : Hid _ := hG2; clear hF2 hG2 kX kA kO))
    obtain ⟨W, hW⟩ : ∃ W, ((((w2).setCell ⟨w.heap.size + 1, 0, none⟩ (.int .i64 q)).setCell ⟨w.heap.size + 1 + 1, 0, none⟩ (.int .i64 q)).setCell ⟨w.heap.size + 1 + 1, 1, none⟩ (.int .i64 r)).setCell ⟨w.heap.size + 1 + 1, 2, none⟩ (.int .i64 c) = W := ⟨_, rfl⟩
    have p : W.heap[w.heap.size + 1 + 1]? = some (.cells #[.int .i64 q, .int .i64 r, .int .i64 c] 38 (0, 0)) := by
      rw [← hW]
      exact setOf 2 _ (setOf 1 _ (setOf 0 _ ((Below.heap_setCell _ _ _ _ (by show w.heap.size + 1 + 1 ≠ w.heap.size + 1; omega)).trans (HH.out.2.2.1.fr HF2.out).o)))
    have p0 := cellOf (o := 0) p rfl
    have p1 := cellOf (o := 1) p rfl
    have p2 := cellOf (o := 2) p rfl
    have hFW : Fr noB w W := by
      rw [← hW]
      exact ((((HH.out.2.2.2.trans HF2.out).setCell ⟨w.heap.size + 1, 0, none⟩ (Or.inr (Nat.le_succ _)) _).setCell ⟨w.heap.size + 1 + 1, 0, none⟩ (Or.inr (by show w.heap.size ≤ w.heap.size + 1 + 1; omega)) _).setCell ⟨w.heap.size + 1 + 1, 1, none⟩ (Or.inr (by show w.heap.size ≤ w.heap.size + 1 + 1; omega)) _).setCell ⟨w.heap.size + 1 + 1, 2, none⟩ (Or.inr (by show w.heap.size ≤ w.heap.size + 1 + 1; omega)) _
    try rw [hW]
    refine bodyPost_ret ?_ rfl ⟨rfl, hFW⟩
    simp [results, Tryd.results18, go_sem, p0, p1, p2]
  · rw [if_neg d]
    go_enter Tryd.func18, Tryd.ntmps18
    go_wp2_with (first
      | (go_at_call 13; refine (HC.out _ HH.out.2.2.2).mono ?_; rintro e w1 ⟨rfl, hF1⟩; have gX := HH.out.1.fr hF1; have gx0 := gX.c0; have gx1 := gX.c1; have gx2 := gX.c2; have gx3 := gX.c3; have gx4 := gX.c4; have gA := HH.out.2.1.fr hF1; have ga0 := gA.c0; have ga1 := gA.c1; have ga2 := gA.c2; have gO := HH.out.2.2.1.fr hF1; have go0 := gO.c0; have go1 := gO.c1; have go2 := gO.c2; have gf0 := gO.f 0; have gf1 := gO.f 1; have gf2 := gO.f 2; have HF1 : Hid _ := hF1; clear hF1 gX gA gO)
      | (go_at_call 10; refine (HF.out _ (HH.out.2.2.2.trans HF1.out)).mono ?_; rintro e w2 ⟨rfl, hF2⟩; have hG2 := HF1.out.trans hF2; have kX := HH.out.1.fr hG2; have kx0 := kX.c0; have kx1 := kX.c1; have kx2 := kX.c2; have kx3 := kX.c3; have kx4 := kX.c4; have kA := HH.out.2.1.fr hG2; have ka0 := kA.c0; have ka1 := kA.c1; have ka2 := kA.c2; have kO := HH.out.2.2.1.fr hG2; have ko0 := kO.c0; have ko1 := kO.c1; have ko2 := kO.c2; have kf0 := kO.f 0; have kf1 := kO.f 1; have kf2 := kO.f 2; have kg0 := kA.f 0; have HF2 : Hid _ := hG2; clear hF2 hG2 kX kA kO))
    obtain ⟨W, hW⟩ : ∃ W, (((w2).setCell ⟨w.heap.size + 1 + 1, 0, none⟩ (.int .i64 s)).setCell ⟨w.heap.size + 1 + 1, 1, none⟩ (.int .i64 r)).setCell ⟨w.heap.size + 1 + 1, 2, none⟩ (.int .i64 c) = W := ⟨_, rfl⟩
    have p : W.heap[w.heap.size + 1 + 1]? = some (.cells #[.int .i64 s, .int .i64 r, .int .i64 c] 38 (0, 0)) := by
      rw [← hW]
      exact setOf 2 _ (setOf 1 _ (setOf 0 _ (HH.out.2.2.1.fr HF2.out).o))
    have p0 := cellOf (o := 0) p rfl
    have p1 := cellOf (o := 1) p rfl
    have p2 := cellOf (o := 2) p rfl
    have hFW : Fr noB w W := by
      rw [← hW]
      exact (((HH.out.2.2.2.trans HF2.out).setCell ⟨w.heap.size + 1 + 1, 0, none⟩ (Or.inr (by show w.heap.size ≤ w.heap.size + 1 + 1; omega)) _).setCell ⟨w.heap.size + 1 + 1, 1, none⟩ (Or.inr (by show w.heap.size ≤ w.heap.size + 1 + 1; omega)) _).setCell ⟨w.heap.size + 1 + 1, 2, none⟩ (Or.inr (by show w.heap.size ≤ w.heap.size + 1 + 1; omega)) _
    try rw [hW]
    refine bodyPost_ret ?_ rfl ⟨rfl, hFW⟩
    simp [results, Tryd.results18, go_sem, p0, p1, p2]
set_option maxRecDepth 100000 in
set_option maxHeartbeats 2000000 in
theorem rcell_6goes (ao : Option Addr) (cap : Nat) (L : List ByteArray) (sh : ByteArray) (At N : Int) (nm : ByteArray) (s r c : Int) (w : World) (h : SsAt w ao L) (hl : L.length ≤ 140737488355328) (hsh : sh.size ≤ 140737488355328) (hnm : nm.size ≤ 140737488355328) (hL : ∀ x ∈ L, x.size ≤ 140737488355328) (hT : Tabs w) (hc : chkS L 6 sh At N nm = 0) (hi : inB L.length s r c = true) (hs : s = (fndN L sh : Int)) :
    Calls Tryd.prog 18 #[.slice ao L.length cap, .agg #[.int .i64 6, .string sh, .int .i64 At, .int .i64 N, .string nm], .agg #[.int .i64 s, .int .i64 r, .int .i64 c]] w fun e w' => e = .returned (.tuple #[.agg #[.int .i64 0, .int .i64 0, .int .i64 0], .bool false]) ∧ Fr noB w w' := by
  have HC : Hid (∀ W, Fr noB w W → Calls Tryd.prog 13 #[.slice ao L.length cap, .agg #[.int .i64 6, .string sh, .int .i64 At, .int .i64 N, .string nm]] W fun e w' => e = .returned (.int .i64 (chkS L 6 sh At N nm)) ∧ Fr noB W w') := fun W hF => rck_all ao cap L 6 sh At N nm W (h.keep hF) hl hsh hnm hL (hT.keep hF)
  have HF : Hid (∀ W, Fr noB w W → Calls Tryd.prog 10 #[.slice ao L.length cap, .string sh] W fun e w' => e = .returned (.tuple #[.int .i64 (fndN L sh : Int), .bool (fndB L sh)]) ∧ Fr noB W w') := fun W hF => rfind_any ao cap L sh W (h.keep hF) hl hsh hL
  obtain ⟨W0, hW0⟩ : ∃ W0, ((w.alloc (.cells #[.int .i64 6, .string sh, .int .i64 At, .int .i64 N, .string nm] 24 (0, 0))).alloc (.cells #[.int .i64 s, .int .i64 r, .int .i64 c] 38 (0, 0))).alloc (.cells #[.int .i64 0, .int .i64 0, .int .i64 0] 38 (0, 0)) = W0 := ⟨_, rfl⟩
  have hX : XAt W0 w.heap.size 6 sh At N nm := by rw [← hW0]; exact ⟨old1 (old1 (heap_alloc_new w _))⟩
  have hA : AAt W0 (w.heap.size + 1) s r c := by rw [← hW0]; exact ⟨old1 (new1 _ _ _ (by simp))⟩
  have hO : AAt W0 (w.heap.size + 1 + 1) 0 0 0 := by rw [← hW0]; exact ⟨new1 _ _ _ (by simp)⟩
  have hF0 : Fr noB w W0 := by rw [← hW0]; exact (((Fr.refl noB w).alloc _).alloc _).alloc _
  have a0 := hX.c0; have a1 := hX.c1; have a2 := hX.c2; have a3 := hX.c3; have a4 := hX.c4
  have HH : Hid _ := And.intro hX (And.intro hA (And.intro hO hF0))
  have a5 := hA.c0; have a6 := hA.c1; have a7 := hA.c2
  rw [hc] at HC
  obtain ⟨i1, i2, i3, i4, i5, i6⟩ := in_iff hi
  have hs47 : s ≤ 140737488355328 := by omega
  rw [← hs] at HF
  clear hs hX hA hO hF0 h hl hsh hnm hL hT hc hi
  generalize (fndN L sh : Int) = k at *
  generalize fndB L sh = bs at *
  generalize L.length = l at *
  have hne : (s != s) = false := by simp
  go_enter Tryd.func18, Tryd.ntmps18
  go_wp2_with (first
    | (go_at_call 13; refine (HC.out _ HH.out.2.2.2).mono ?_; rintro e w1 ⟨rfl, hF1⟩; have gX := HH.out.1.fr hF1; have gx0 := gX.c0; have gx1 := gX.c1; have gx2 := gX.c2; have gx3 := gX.c3; have gx4 := gX.c4; have gA := HH.out.2.1.fr hF1; have ga0 := gA.c0; have ga1 := gA.c1; have ga2 := gA.c2; have gO := HH.out.2.2.1.fr hF1; have go0 := gO.c0; have go1 := gO.c1; have go2 := gO.c2; have gf0 := gO.f 0; have gf1 := gO.f 1; have gf2 := gO.f 2; have HF1 : Hid _ := hF1; clear hF1 gX gA gO)
    | (go_at_call 10; refine (HF.out _ (HH.out.2.2.2.trans HF1.out)).mono ?_; rintro e w2 ⟨rfl, hF2⟩; have hG2 := HF1.out.trans hF2; have kX := HH.out.1.fr hG2; have kx0 := kX.c0; have kx1 := kX.c1; have kx2 := kX.c2; have kx3 := kX.c3; have kx4 := kX.c4; have kA := HH.out.2.1.fr hG2; have ka0 := kA.c0; have ka1 := kA.c1; have ka2 := kA.c2; have kO := HH.out.2.2.1.fr hG2; have ko0 := kO.c0; have ko1 := kO.c1; have ko2 := kO.c2; have kf0 := kO.f 0; have kf1 := kO.f 1; have kf2 := kO.f 2; have kg0 := kA.f 0; have HF2 : Hid _ := hG2; clear hF2 hG2 kX kA kO))
  obtain ⟨W, hW⟩ : ∃ W, (((w2).setCell ⟨w.heap.size + 1 + 1, 0, none⟩ (.int .i64 0)).setCell ⟨w.heap.size + 1 + 1, 1, none⟩ (.int .i64 0)).setCell ⟨w.heap.size + 1 + 1, 2, none⟩ (.int .i64 0) = W := ⟨_, rfl⟩
  have p : W.heap[w.heap.size + 1 + 1]? = some (.cells #[.int .i64 0, .int .i64 0, .int .i64 0] 38 (0, 0)) := by
    rw [← hW]
    exact setOf 2 _ (setOf 1 _ (setOf 0 _ (HH.out.2.2.1.fr HF2.out).o))
  have p0 := cellOf (o := 0) p rfl
  have p1 := cellOf (o := 1) p rfl
  have p2 := cellOf (o := 2) p rfl
  have hFW : Fr noB w W := by
    rw [← hW]
    exact (((HH.out.2.2.2.trans HF2.out).setCell ⟨w.heap.size + 1 + 1, 0, none⟩ (Or.inr (by show w.heap.size ≤ w.heap.size + 1 + 1; omega)) _).setCell ⟨w.heap.size + 1 + 1, 1, none⟩ (Or.inr (by show w.heap.size ≤ w.heap.size + 1 + 1; omega)) _).setCell ⟨w.heap.size + 1 + 1, 2, none⟩ (Or.inr (by show w.heap.size ≤ w.heap.size + 1 + 1; omega)) _
  try rw [hW]
  refine bodyPost_ret ?_ rfl ⟨rfl, hFW⟩
  simp [results, Tryd.results18, go_sem, p0, p1, p2]
set_option maxRecDepth 100000 in
set_option maxHeartbeats 2000000 in
theorem rcell_6 (ao : Option Addr) (cap : Nat) (L : List ByteArray) (sh : ByteArray) (At N : Int) (nm : ByteArray) (s r c : Int) (w : World) (h : SsAt w ao L) (hl : L.length ≤ 140737488355328) (hsh : sh.size ≤ 140737488355328) (hnm : nm.size ≤ 140737488355328) (hL : ∀ x ∈ L, x.size ≤ 140737488355328) (hT : Tabs w) (hc : chkS L 6 sh At N nm = 0) (hi : inB L.length s r c = true) (hs : ¬ s = (fndN L sh : Int)) :
    Calls Tryd.prog 18 #[.slice ao L.length cap, .agg #[.int .i64 6, .string sh, .int .i64 At, .int .i64 N, .string nm], .agg #[.int .i64 s, .int .i64 r, .int .i64 c]] w fun e w' => e = .returned (.tuple #[.agg #[.int .i64 (gonI (fndN L sh : Int) s), .int .i64 (r), .int .i64 (c)], .bool true]) ∧ Fr noB w w' := by
  have HC : Hid (∀ W, Fr noB w W → Calls Tryd.prog 13 #[.slice ao L.length cap, .agg #[.int .i64 6, .string sh, .int .i64 At, .int .i64 N, .string nm]] W fun e w' => e = .returned (.int .i64 (chkS L 6 sh At N nm)) ∧ Fr noB W w') := fun W hF => rck_all ao cap L 6 sh At N nm W (h.keep hF) hl hsh hnm hL (hT.keep hF)
  have HF : Hid (∀ W, Fr noB w W → Calls Tryd.prog 10 #[.slice ao L.length cap, .string sh] W fun e w' => e = .returned (.tuple #[.int .i64 (fndN L sh : Int), .bool (fndB L sh)]) ∧ Fr noB W w') := fun W hF => rfind_any ao cap L sh W (h.keep hF) hl hsh hL
  obtain ⟨W0, hW0⟩ : ∃ W0, ((w.alloc (.cells #[.int .i64 6, .string sh, .int .i64 At, .int .i64 N, .string nm] 24 (0, 0))).alloc (.cells #[.int .i64 s, .int .i64 r, .int .i64 c] 38 (0, 0))).alloc (.cells #[.int .i64 0, .int .i64 0, .int .i64 0] 38 (0, 0)) = W0 := ⟨_, rfl⟩
  have hX : XAt W0 w.heap.size 6 sh At N nm := by rw [← hW0]; exact ⟨old1 (old1 (heap_alloc_new w _))⟩
  have hA : AAt W0 (w.heap.size + 1) s r c := by rw [← hW0]; exact ⟨old1 (new1 _ _ _ (by simp))⟩
  have hO : AAt W0 (w.heap.size + 1 + 1) 0 0 0 := by rw [← hW0]; exact ⟨new1 _ _ _ (by simp)⟩
  have hF0 : Fr noB w W0 := by rw [← hW0]; exact (((Fr.refl noB w).alloc _).alloc _).alloc _
  have a0 := hX.c0; have a1 := hX.c1; have a2 := hX.c2; have a3 := hX.c3; have a4 := hX.c4
  have HH : Hid _ := And.intro hX (And.intro hA (And.intro hO hF0))
  have a5 := hA.c0; have a6 := hA.c1; have a7 := hA.c2
  rw [hc] at HC
  obtain ⟨i1, i2, i3, i4, i5, i6⟩ := in_iff hi
  have hs47 : s ≤ 140737488355328 := by omega
  clear hX hA hO hF0 h hl hsh hnm hL hT hc hi
  generalize (fndN L sh : Int) = k at *
  generalize fndB L sh = bs at *
  generalize L.length = l at *
  have hne : (s != k) = true := by simpa using hs
  unfold gonI
  by_cases d : k < s
  · rw [if_pos d]
    have hw : IntKind.i64.wrap (s - 1) = s - 1 := by rw [IntKind.wrap_i64]; omega
    obtain ⟨q, hq⟩ : ∃ q, s - 1 = q := ⟨_, rfl⟩
    rw [hq] at hw ⊢
    clear hs
    go_enter Tryd.func18, Tryd.ntmps18
    go_wp2_with (first
      | (go_at_call 13; refine (HC.out _ HH.out.2.2.2).mono ?_; rintro e w1 ⟨rfl, hF1⟩; have gX := HH.out.1.fr hF1; have gx0 := gX.c0; have gx1 := gX.c1; have gx2 := gX.c2; have gx3 := gX.c3; have gx4 := gX.c4; have gA := HH.out.2.1.fr hF1; have ga0 := gA.c0; have ga1 := gA.c1; have ga2 := gA.c2; have gO := HH.out.2.2.1.fr hF1; have go0 := gO.c0; have go1 := gO.c1; have go2 := gO.c2; have gf0 := gO.f 0; have gf1 := gO.f 1; have gf2 := gO.f 2; have HF1 : Hid _ := hF1; clear hF1 gX gA gO)
      | (go_at_call 10; refine (HF.out _ (HH.out.2.2.2.trans HF1.out)).mono ?_; rintro e w2 ⟨rfl, hF2⟩; have hG2 := HF1.out.trans hF2; have kX := HH.out.1.fr hG2; have kx0 := kX.c0; have kx1 := kX.c1; have kx2 := kX.c2; have kx3 := kX.c3; have kx4 := kX.c4; have kA := HH.out.2.1.fr hG2; have ka0 := kA.c0; have ka1 := kA.c1; have ka2 := kA.c2; have kO := HH.out.2.2.1.fr hG2; have ko0 := kO.c0; have ko1 := kO.c1; have ko2 := kO.c2; have kf0 := kO.f 0; have kf1 := kO.f 1; have kf2 := kO.f 2; have kg0 := kA.f 0; have HF2 : Hid _ := hG2; clear hF2 hG2 kX kA kO))
    obtain ⟨W, hW⟩ : ∃ W, ((((w2).setCell ⟨w.heap.size + 1, 0, none⟩ (.int .i64 q)).setCell ⟨w.heap.size + 1 + 1, 0, none⟩ (.int .i64 q)).setCell ⟨w.heap.size + 1 + 1, 1, none⟩ (.int .i64 r)).setCell ⟨w.heap.size + 1 + 1, 2, none⟩ (.int .i64 c) = W := ⟨_, rfl⟩
    have p : W.heap[w.heap.size + 1 + 1]? = some (.cells #[.int .i64 q, .int .i64 r, .int .i64 c] 38 (0, 0)) := by
      rw [← hW]
      exact setOf 2 _ (setOf 1 _ (setOf 0 _ ((Below.heap_setCell _ _ _ _ (by show w.heap.size + 1 + 1 ≠ w.heap.size + 1; omega)).trans (HH.out.2.2.1.fr HF2.out).o)))
    have p0 := cellOf (o := 0) p rfl
    have p1 := cellOf (o := 1) p rfl
    have p2 := cellOf (o := 2) p rfl
    have hFW : Fr noB w W := by
      rw [← hW]
      exact ((((HH.out.2.2.2.trans HF2.out).setCell ⟨w.heap.size + 1, 0, none⟩ (Or.inr (Nat.le_succ _)) _).setCell ⟨w.heap.size + 1 + 1, 0, none⟩ (Or.inr (by show w.heap.size ≤ w.heap.size + 1 + 1; omega)) _).setCell ⟨w.heap.size + 1 + 1, 1, none⟩ (Or.inr (by show w.heap.size ≤ w.heap.size + 1 + 1; omega)) _).setCell ⟨w.heap.size + 1 + 1, 2, none⟩ (Or.inr (by show w.heap.size ≤ w.heap.size + 1 + 1; omega)) _
    try rw [hW]
    refine bodyPost_ret ?_ rfl ⟨rfl, hFW⟩
    simp [results, Tryd.results18, go_sem, p0, p1, p2]
  · rw [if_neg d]
    clear hs
    go_enter Tryd.func18, Tryd.ntmps18
    go_wp2_with (first
      | (go_at_call 13; refine (HC.out _ HH.out.2.2.2).mono ?_; rintro e w1 ⟨rfl, hF1⟩; have gX := HH.out.1.fr hF1; have gx0 := gX.c0; have gx1 := gX.c1; have gx2 := gX.c2; have gx3 := gX.c3; have gx4 := gX.c4; have gA := HH.out.2.1.fr hF1; have ga0 := gA.c0; have ga1 := gA.c1; have ga2 := gA.c2; have gO := HH.out.2.2.1.fr hF1; have go0 := gO.c0; have go1 := gO.c1; have go2 := gO.c2; have gf0 := gO.f 0; have gf1 := gO.f 1; have gf2 := gO.f 2; have HF1 : Hid _ := hF1; clear hF1 gX gA gO)
      | (go_at_call 10; refine (HF.out _ (HH.out.2.2.2.trans HF1.out)).mono ?_; rintro e w2 ⟨rfl, hF2⟩; have hG2 := HF1.out.trans hF2; have kX := HH.out.1.fr hG2; have kx0 := kX.c0; have kx1 := kX.c1; have kx2 := kX.c2; have kx3 := kX.c3; have kx4 := kX.c4; have kA := HH.out.2.1.fr hG2; have ka0 := kA.c0; have ka1 := kA.c1; have ka2 := kA.c2; have kO := HH.out.2.2.1.fr hG2; have ko0 := kO.c0; have ko1 := kO.c1; have ko2 := kO.c2; have kf0 := kO.f 0; have kf1 := kO.f 1; have kf2 := kO.f 2; have kg0 := kA.f 0; have HF2 : Hid _ := hG2; clear hF2 hG2 kX kA kO))
    obtain ⟨W, hW⟩ : ∃ W, (((w2).setCell ⟨w.heap.size + 1 + 1, 0, none⟩ (.int .i64 s)).setCell ⟨w.heap.size + 1 + 1, 1, none⟩ (.int .i64 r)).setCell ⟨w.heap.size + 1 + 1, 2, none⟩ (.int .i64 c) = W := ⟨_, rfl⟩
    have p : W.heap[w.heap.size + 1 + 1]? = some (.cells #[.int .i64 s, .int .i64 r, .int .i64 c] 38 (0, 0)) := by
      rw [← hW]
      exact setOf 2 _ (setOf 1 _ (setOf 0 _ (HH.out.2.2.1.fr HF2.out).o))
    have p0 := cellOf (o := 0) p rfl
    have p1 := cellOf (o := 1) p rfl
    have p2 := cellOf (o := 2) p rfl
    have hFW : Fr noB w W := by
      rw [← hW]
      exact (((HH.out.2.2.2.trans HF2.out).setCell ⟨w.heap.size + 1 + 1, 0, none⟩ (Or.inr (by show w.heap.size ≤ w.heap.size + 1 + 1; omega)) _).setCell ⟨w.heap.size + 1 + 1, 1, none⟩ (Or.inr (by show w.heap.size ≤ w.heap.size + 1 + 1; omega)) _).setCell ⟨w.heap.size + 1 + 1, 2, none⟩ (Or.inr (by show w.heap.size ≤ w.heap.size + 1 + 1; omega)) _
    try rw [hW]
    refine bodyPost_ret ?_ rfl ⟨rfl, hFW⟩
    simp [results, Tryd.results18, go_sem, p0, p1, p2]
set_option maxRecDepth 100000 in
set_option maxHeartbeats 2000000 in
theorem rcell_7 (ao : Option Addr) (cap : Nat) (L : List ByteArray) (sh : ByteArray) (At N : Int) (nm : ByteArray) (s r c : Int) (w : World) (h : SsAt w ao L) (hl : L.length ≤ 140737488355328) (hsh : sh.size ≤ 140737488355328) (hnm : nm.size ≤ 140737488355328) (hL : ∀ x ∈ L, x.size ≤ 140737488355328) (hT : Tabs w) (hc : chkS L 7 sh At N nm = 0) (hi : inB L.length s r c = true) :
    Calls Tryd.prog 18 #[.slice ao L.length cap, .agg #[.int .i64 7, .string sh, .int .i64 At, .int .i64 N, .string nm], .agg #[.int .i64 s, .int .i64 r, .int .i64 c]] w fun e w' => e = .returned (.tuple #[.agg #[.int .i64 (numI s (fndN L sh : Int) At), .int .i64 (r), .int .i64 (c)], .bool true]) ∧ Fr noB w w' := by
  have HC : Hid (∀ W, Fr noB w W → Calls Tryd.prog 13 #[.slice ao L.length cap, .agg #[.int .i64 7, .string sh, .int .i64 At, .int .i64 N, .string nm]] W fun e w' => e = .returned (.int .i64 (chkS L 7 sh At N nm)) ∧ Fr noB W w') := fun W hF => rck_all ao cap L 7 sh At N nm W (h.keep hF) hl hsh hnm hL (hT.keep hF)
  have HF : Hid (∀ W, Fr noB w W → Calls Tryd.prog 10 #[.slice ao L.length cap, .string sh] W fun e w' => e = .returned (.tuple #[.int .i64 (fndN L sh : Int), .bool (fndB L sh)]) ∧ Fr noB W w') := fun W hF => rfind_any ao cap L sh W (h.keep hF) hl hsh hL
  obtain ⟨W0, hW0⟩ : ∃ W0, ((w.alloc (.cells #[.int .i64 7, .string sh, .int .i64 At, .int .i64 N, .string nm] 24 (0, 0))).alloc (.cells #[.int .i64 s, .int .i64 r, .int .i64 c] 38 (0, 0))).alloc (.cells #[.int .i64 0, .int .i64 0, .int .i64 0] 38 (0, 0)) = W0 := ⟨_, rfl⟩
  have hX : XAt W0 w.heap.size 7 sh At N nm := by rw [← hW0]; exact ⟨old1 (old1 (heap_alloc_new w _))⟩
  have hA : AAt W0 (w.heap.size + 1) s r c := by rw [← hW0]; exact ⟨old1 (new1 _ _ _ (by simp))⟩
  have hO : AAt W0 (w.heap.size + 1 + 1) 0 0 0 := by rw [← hW0]; exact ⟨new1 _ _ _ (by simp)⟩
  have hF0 : Fr noB w W0 := by rw [← hW0]; exact (((Fr.refl noB w).alloc _).alloc _).alloc _
  have a0 := hX.c0; have a1 := hX.c1; have a2 := hX.c2; have a3 := hX.c3; have a4 := hX.c4
  have HH : Hid _ := And.intro hX (And.intro hA (And.intro hO hF0))
  have a5 := hA.c0; have a6 := hA.c1; have a7 := hA.c2
  rw [hc] at HC
  obtain ⟨i1, i2, i3, i4, i5, i6⟩ := in_iff hi
  have hs47 : s ≤ 140737488355328 := by omega
  have HU : Hid (∀ w, Calls Tryd.prog 38 #[.int .i64 s, .int .i64 (fndN L sh : Int), .int .i64 At] w fun e w' => e = .returned (.int .i64 (numI s (fndN L sh : Int) At)) ∧ Fr noB w w') := fun w => (rnum_any s _ At w i1 hs47).mono fun e w' ⟨h1, h2⟩ => ⟨h1, by rw [h2]; exact Fr.refl _ _⟩
  clear hX hA hO hF0 h hl hsh hnm hL hT hc hi
  generalize (fndN L sh : Int) = k at *
  generalize fndB L sh = bs at *
  generalize L.length = l at *
  generalize numI s k At = q at *
  go_enter Tryd.func18, Tryd.ntmps18
  go_wp2_with (first
    | (go_at_call 13; refine (HC.out _ HH.out.2.2.2).mono ?_; rintro e w1 ⟨rfl, hF1⟩; have gX := HH.out.1.fr hF1; have gx0 := gX.c0; have gx1 := gX.c1; have gx2 := gX.c2; have gx3 := gX.c3; have gx4 := gX.c4; have gA := HH.out.2.1.fr hF1; have ga0 := gA.c0; have ga1 := gA.c1; have ga2 := gA.c2; have gO := HH.out.2.2.1.fr hF1; have go0 := gO.c0; have go1 := gO.c1; have go2 := gO.c2; have gf0 := gO.f 0; have gf1 := gO.f 1; have gf2 := gO.f 2; have HF1 : Hid _ := hF1; clear hF1 gX gA gO)
    | (go_at_call 10; refine (HF.out _ (HH.out.2.2.2.trans HF1.out)).mono ?_; rintro e w2 ⟨rfl, hF2⟩; have hG2 := HF1.out.trans hF2; have kX := HH.out.1.fr hG2; have kx0 := kX.c0; have kx1 := kX.c1; have kx2 := kX.c2; have kx3 := kX.c3; have kx4 := kX.c4; have kA := HH.out.2.1.fr hG2; have ka0 := kA.c0; have ka1 := kA.c1; have ka2 := kA.c2; have kO := HH.out.2.2.1.fr hG2; have ko0 := kO.c0; have ko1 := kO.c1; have ko2 := kO.c2; have kf0 := kO.f 0; have kf1 := kO.f 1; have kf2 := kO.f 2; have kg0 := kA.f 0; have HF2 : Hid _ := hG2; clear hF2 hG2 kX kA kO)
    | (go_at_call 38; refine (HU.out _).mono ?_; rintro e w3 ⟨rfl, hF3⟩; have hG3 := HF2.out.trans hF3; have mX := HH.out.1.fr hG3; have mx0 := mX.c0; have mx1 := mX.c1; have mx2 := mX.c2; have mx3 := mX.c3; have mx4 := mX.c4; have mA := HH.out.2.1.fr hG3; have ma0 := mA.c0; have ma1 := mA.c1; have ma2 := mA.c2; have mO := HH.out.2.2.1.fr hG3; have mo0 := mO.c0; have mo1 := mO.c1; have mo2 := mO.c2; have mf0 := mO.f 0; have mf1 := mO.f 1; have mf2 := mO.f 2; have mg0 := mA.f 0; have mg1 := mA.f 1; have mg2 := mA.f 2; have HF3 : Hid _ := hG3; clear hF3 hG3 mX mA mO))
  obtain ⟨W, hW⟩ : ∃ W, ((((w3).setCell ⟨w.heap.size + 1, 0, none⟩ (.int .i64 q)).setCell ⟨w.heap.size + 1 + 1, 0, none⟩ (.int .i64 q)).setCell ⟨w.heap.size + 1 + 1, 1, none⟩ (.int .i64 r)).setCell ⟨w.heap.size + 1 + 1, 2, none⟩ (.int .i64 c) = W := ⟨_, rfl⟩
  have p : W.heap[w.heap.size + 1 + 1]? = some (.cells #[.int .i64 q, .int .i64 r, .int .i64 c] 38 (0, 0)) := by
    rw [← hW]
    exact setOf 2 _ (setOf 1 _ (setOf 0 _ ((Below.heap_setCell _ _ _ _ (by show w.heap.size + 1 + 1 ≠ w.heap.size + 1; omega)).trans (HH.out.2.2.1.fr HF3.out).o)))
  have p0 := cellOf (o := 0) p rfl
  have p1 := cellOf (o := 1) p rfl
  have p2 := cellOf (o := 2) p rfl
  have hFW : Fr noB w W := by
    rw [← hW]
    exact ((((HH.out.2.2.2.trans HF3.out).setCell ⟨w.heap.size + 1, 0, none⟩ (Or.inr (Nat.le_succ _)) _).setCell ⟨w.heap.size + 1 + 1, 0, none⟩ (Or.inr (by show w.heap.size ≤ w.heap.size + 1 + 1; omega)) _).setCell ⟨w.heap.size + 1 + 1, 1, none⟩ (Or.inr (by show w.heap.size ≤ w.heap.size + 1 + 1; omega)) _).setCell ⟨w.heap.size + 1 + 1, 2, none⟩ (Or.inr (by show w.heap.size ≤ w.heap.size + 1 + 1; omega)) _
  try rw [hW]
  refine bodyPost_ret ?_ rfl ⟨rfl, hFW⟩
  simp [results, Tryd.results18, go_sem, p0, p1, p2]
set_option maxRecDepth 100000 in
set_option maxHeartbeats 2000000 in
theorem rcell_8 (ao : Option Addr) (cap : Nat) (L : List ByteArray) (sh : ByteArray) (At N : Int) (nm : ByteArray) (s r c : Int) (w : World) (h : SsAt w ao L) (hl : L.length ≤ 140737488355328) (hsh : sh.size ≤ 140737488355328) (hnm : nm.size ≤ 140737488355328) (hL : ∀ x ∈ L, x.size ≤ 140737488355328) (hT : Tabs w) (hc : chkS L 8 sh At N nm = 0) (hi : inB L.length s r c = true) :
    Calls Tryd.prog 18 #[.slice ao L.length cap, .agg #[.int .i64 8, .string sh, .int .i64 At, .int .i64 N, .string nm], .agg #[.int .i64 s, .int .i64 r, .int .i64 c]] w fun e w' => e = .returned (.tuple #[.agg #[.int .i64 (s), .int .i64 (r), .int .i64 (c)], .bool true]) ∧ Fr noB w w' := by
  have HC : Hid (∀ W, Fr noB w W → Calls Tryd.prog 13 #[.slice ao L.length cap, .agg #[.int .i64 8, .string sh, .int .i64 At, .int .i64 N, .string nm]] W fun e w' => e = .returned (.int .i64 (chkS L 8 sh At N nm)) ∧ Fr noB W w') := fun W hF => rck_all ao cap L 8 sh At N nm W (h.keep hF) hl hsh hnm hL (hT.keep hF)
  have HF : Hid (∀ W, Fr noB w W → Calls Tryd.prog 10 #[.slice ao L.length cap, .string sh] W fun e w' => e = .returned (.tuple #[.int .i64 (fndN L sh : Int), .bool (fndB L sh)]) ∧ Fr noB W w') := fun W hF => rfind_any ao cap L sh W (h.keep hF) hl hsh hL
  obtain ⟨W0, hW0⟩ : ∃ W0, ((w.alloc (.cells #[.int .i64 8, .string sh, .int .i64 At, .int .i64 N, .string nm] 24 (0, 0))).alloc (.cells #[.int .i64 s, .int .i64 r, .int .i64 c] 38 (0, 0))).alloc (.cells #[.int .i64 0, .int .i64 0, .int .i64 0] 38 (0, 0)) = W0 := ⟨_, rfl⟩
  have hX : XAt W0 w.heap.size 8 sh At N nm := by rw [← hW0]; exact ⟨old1 (old1 (heap_alloc_new w _))⟩
  have hA : AAt W0 (w.heap.size + 1) s r c := by rw [← hW0]; exact ⟨old1 (new1 _ _ _ (by simp))⟩
  have hO : AAt W0 (w.heap.size + 1 + 1) 0 0 0 := by rw [← hW0]; exact ⟨new1 _ _ _ (by simp)⟩
  have hF0 : Fr noB w W0 := by rw [← hW0]; exact (((Fr.refl noB w).alloc _).alloc _).alloc _
  have a0 := hX.c0; have a1 := hX.c1; have a2 := hX.c2; have a3 := hX.c3; have a4 := hX.c4
  have HH : Hid _ := And.intro hX (And.intro hA (And.intro hO hF0))
  have a5 := hA.c0; have a6 := hA.c1; have a7 := hA.c2
  rw [hc] at HC
  obtain ⟨i1, i2, i3, i4, i5, i6⟩ := in_iff hi
  have hs47 : s ≤ 140737488355328 := by omega
  clear hX hA hO hF0 h hl hsh hnm hL hT hc hi
  generalize (fndN L sh : Int) = k at *
  generalize fndB L sh = bs at *
  generalize L.length = l at *
  go_enter Tryd.func18, Tryd.ntmps18
  go_wp2_with (first
    | (go_at_call 13; refine (HC.out _ HH.out.2.2.2).mono ?_; rintro e w1 ⟨rfl, hF1⟩; have gX := HH.out.1.fr hF1; have gx0 := gX.c0; have gx1 := gX.c1; have gx2 := gX.c2; have gx3 := gX.c3; have gx4 := gX.c4; have gA := HH.out.2.1.fr hF1; have ga0 := gA.c0; have ga1 := gA.c1; have ga2 := gA.c2; have gO := HH.out.2.2.1.fr hF1; have go0 := gO.c0; have go1 := gO.c1; have go2 := gO.c2; have gf0 := gO.f 0; have gf1 := gO.f 1; have gf2 := gO.f 2; have HF1 : Hid _ := hF1; clear hF1 gX gA gO)
    | (go_at_call 10; refine (HF.out _ (HH.out.2.2.2.trans HF1.out)).mono ?_; rintro e w2 ⟨rfl, hF2⟩; have hG2 := HF1.out.trans hF2; have kX := HH.out.1.fr hG2; have kx0 := kX.c0; have kx1 := kX.c1; have kx2 := kX.c2; have kx3 := kX.c3; have kx4 := kX.c4; have kA := HH.out.2.1.fr hG2; have ka0 := kA.c0; have ka1 := kA.c1; have ka2 := kA.c2; have kO := HH.out.2.2.1.fr hG2; have ko0 := kO.c0; have ko1 := kO.c1; have ko2 := kO.c2; have kf0 := kO.f 0; have kf1 := kO.f 1; have kf2 := kO.f 2; have kg0 := kA.f 0; have HF2 : Hid _ := hG2; clear hF2 hG2 kX kA kO))
  obtain ⟨W, hW⟩ : ∃ W, (((w2).setCell ⟨w.heap.size + 1 + 1, 0, none⟩ (.int .i64 s)).setCell ⟨w.heap.size + 1 + 1, 1, none⟩ (.int .i64 r)).setCell ⟨w.heap.size + 1 + 1, 2, none⟩ (.int .i64 c) = W := ⟨_, rfl⟩
  have p : W.heap[w.heap.size + 1 + 1]? = some (.cells #[.int .i64 s, .int .i64 r, .int .i64 c] 38 (0, 0)) := by
    rw [← hW]
    exact setOf 2 _ (setOf 1 _ (setOf 0 _ (HH.out.2.2.1.fr HF2.out).o))
  have p0 := cellOf (o := 0) p rfl
  have p1 := cellOf (o := 1) p rfl
  have p2 := cellOf (o := 2) p rfl
  have hFW : Fr noB w W := by
    rw [← hW]
    exact (((HH.out.2.2.2.trans HF2.out).setCell ⟨w.heap.size + 1 + 1, 0, none⟩ (Or.inr (by show w.heap.size ≤ w.heap.size + 1 + 1; omega)) _).setCell ⟨w.heap.size + 1 + 1, 1, none⟩ (Or.inr (by show w.heap.size ≤ w.heap.size + 1 + 1; omega)) _).setCell ⟨w.heap.size + 1 + 1, 2, none⟩ (Or.inr (by show w.heap.size ≤ w.heap.size + 1 + 1; omega)) _
  try rw [hW]
  refine bodyPost_ret ?_ rfl ⟨rfl, hFW⟩
  simp [results, Tryd.results18, go_sem, p0, p1, p2]
set_option maxRecDepth 100000 in
set_option maxHeartbeats 2000000 in
theorem rcell_1off (ao : Option Addr) (cap : Nat) (L : List ByteArray) (sh : ByteArray) (At N : Int) (nm : ByteArray) (s r c : Int) (w : World) (h : SsAt w ao L) (hl : L.length ≤ 140737488355328) (hsh : sh.size ≤ 140737488355328) (hnm : nm.size ≤ 140737488355328) (hL : ∀ x ∈ L, x.size ≤ 140737488355328) (hT : Tabs w) (hc : chkS L 1 sh At N nm = 0) (hi : inB L.length s r c = true) (hs : ¬ s = (fndN L sh : Int)) :
    Calls Tryd.prog 18 #[.slice ao L.length cap, .agg #[.int .i64 1, .string sh, .int .i64 At, .int .i64 N, .string nm], .agg #[.int .i64 s, .int .i64 r, .int .i64 c]] w fun e w' => e = .returned (.tuple #[.agg #[.int .i64 (s), .int .i64 (r), .int .i64 (c)], .bool true]) ∧ Fr noB w w' := by
  have HC : Hid (∀ W, Fr noB w W → Calls Tryd.prog 13 #[.slice ao L.length cap, .agg #[.int .i64 1, .string sh, .int .i64 At, .int .i64 N, .string nm]] W fun e w' => e = .returned (.int .i64 (chkS L 1 sh At N nm)) ∧ Fr noB W w') := fun W hF => rck_all ao cap L 1 sh At N nm W (h.keep hF) hl hsh hnm hL (hT.keep hF)
  have HF : Hid (∀ W, Fr noB w W → Calls Tryd.prog 10 #[.slice ao L.length cap, .string sh] W fun e w' => e = .returned (.tuple #[.int .i64 (fndN L sh : Int), .bool (fndB L sh)]) ∧ Fr noB W w') := fun W hF => rfind_any ao cap L sh W (h.keep hF) hl hsh hL
  obtain ⟨W0, hW0⟩ : ∃ W0, ((w.alloc (.cells #[.int .i64 1, .string sh, .int .i64 At, .int .i64 N, .string nm] 24 (0, 0))).alloc (.cells #[.int .i64 s, .int .i64 r, .int .i64 c] 38 (0, 0))).alloc (.cells #[.int .i64 0, .int .i64 0, .int .i64 0] 38 (0, 0)) = W0 := ⟨_, rfl⟩
  have hX : XAt W0 w.heap.size 1 sh At N nm := by rw [← hW0]; exact ⟨old1 (old1 (heap_alloc_new w _))⟩
  have hA : AAt W0 (w.heap.size + 1) s r c := by rw [← hW0]; exact ⟨old1 (new1 _ _ _ (by simp))⟩
  have hO : AAt W0 (w.heap.size + 1 + 1) 0 0 0 := by rw [← hW0]; exact ⟨new1 _ _ _ (by simp)⟩
  have hF0 : Fr noB w W0 := by rw [← hW0]; exact (((Fr.refl noB w).alloc _).alloc _).alloc _
  have a0 := hX.c0; have a1 := hX.c1; have a2 := hX.c2; have a3 := hX.c3; have a4 := hX.c4
  have HH : Hid _ := And.intro hX (And.intro hA (And.intro hO hF0))
  have a5 := hA.c0; have a6 := hA.c1; have a7 := hA.c2
  rw [hc] at HC
  obtain ⟨i1, i2, i3, i4, i5, i6⟩ := in_iff hi
  have hs47 : s ≤ 140737488355328 := by omega
  clear hX hA hO hF0 h hl hsh hnm hL hT hc hi
  generalize (fndN L sh : Int) = k at *
  generalize fndB L sh = bs at *
  generalize L.length = l at *
  have hne : (s != k) = true := by simpa using hs
  clear hs
  go_enter Tryd.func18, Tryd.ntmps18
  go_wp2_with (first
    | (go_at_call 13; refine (HC.out _ HH.out.2.2.2).mono ?_; rintro e w1 ⟨rfl, hF1⟩; have gX := HH.out.1.fr hF1; have gx0 := gX.c0; have gx1 := gX.c1; have gx2 := gX.c2; have gx3 := gX.c3; have gx4 := gX.c4; have gA := HH.out.2.1.fr hF1; have ga0 := gA.c0; have ga1 := gA.c1; have ga2 := gA.c2; have gO := HH.out.2.2.1.fr hF1; have go0 := gO.c0; have go1 := gO.c1; have go2 := gO.c2; have gf0 := gO.f 0; have gf1 := gO.f 1; have gf2 := gO.f 2; have HF1 : Hid _ := hF1; clear hF1 gX gA gO)
    | (go_at_call 10; refine (HF.out _ (HH.out.2.2.2.trans HF1.out)).mono ?_; rintro e w2 ⟨rfl, hF2⟩; have hG2 := HF1.out.trans hF2; have kX := HH.out.1.fr hG2; have kx0 := kX.c0; have kx1 := kX.c1; have kx2 := kX.c2; have kx3 := kX.c3; have kx4 := kX.c4; have kA := HH.out.2.1.fr hG2; have ka0 := kA.c0; have ka1 := kA.c1; have ka2 := kA.c2; have kO := HH.out.2.2.1.fr hG2; have ko0 := kO.c0; have ko1 := kO.c1; have ko2 := kO.c2; have kf0 := kO.f 0; have kf1 := kO.f 1; have kf2 := kO.f 2; have kg0 := kA.f 0; have HF2 : Hid _ := hG2; clear hF2 hG2 kX kA kO))
  obtain ⟨W, hW⟩ : ∃ W, (((w2).setCell ⟨w.heap.size + 1 + 1, 0, none⟩ (.int .i64 s)).setCell ⟨w.heap.size + 1 + 1, 1, none⟩ (.int .i64 r)).setCell ⟨w.heap.size + 1 + 1, 2, none⟩ (.int .i64 c) = W := ⟨_, rfl⟩
  have p : W.heap[w.heap.size + 1 + 1]? = some (.cells #[.int .i64 s, .int .i64 r, .int .i64 c] 38 (0, 0)) := by
    rw [← hW]
    exact setOf 2 _ (setOf 1 _ (setOf 0 _ (HH.out.2.2.1.fr HF2.out).o))
  have p0 := cellOf (o := 0) p rfl
  have p1 := cellOf (o := 1) p rfl
  have p2 := cellOf (o := 2) p rfl
  have hFW : Fr noB w W := by
    rw [← hW]
    exact (((HH.out.2.2.2.trans HF2.out).setCell ⟨w.heap.size + 1 + 1, 0, none⟩ (Or.inr (by show w.heap.size ≤ w.heap.size + 1 + 1; omega)) _).setCell ⟨w.heap.size + 1 + 1, 1, none⟩ (Or.inr (by show w.heap.size ≤ w.heap.size + 1 + 1; omega)) _).setCell ⟨w.heap.size + 1 + 1, 2, none⟩ (Or.inr (by show w.heap.size ≤ w.heap.size + 1 + 1; omega)) _
  try rw [hW]
  refine bodyPost_ret ?_ rfl ⟨rfl, hFW⟩
  simp [results, Tryd.results18, go_sem, p0, p1, p2]
set_option maxRecDepth 100000 in
set_option maxHeartbeats 2000000 in
theorem rcell_1goes (ao : Option Addr) (cap : Nat) (L : List ByteArray) (sh : ByteArray) (At N : Int) (nm : ByteArray) (s r c : Int) (w : World) (h : SsAt w ao L) (hl : L.length ≤ 140737488355328) (hsh : sh.size ≤ 140737488355328) (hnm : nm.size ≤ 140737488355328) (hL : ∀ x ∈ L, x.size ≤ 140737488355328) (hT : Tabs w) (hc : chkS L 1 sh At N nm = 0) (hi : inB L.length s r c = true) (hs : s = (fndN L sh : Int)) (hb : movB At N 1048576 true r = false) :
    Calls Tryd.prog 18 #[.slice ao L.length cap, .agg #[.int .i64 1, .string sh, .int .i64 At, .int .i64 N, .string nm], .agg #[.int .i64 s, .int .i64 r, .int .i64 c]] w fun e w' => e = .returned (.tuple #[.agg #[.int .i64 0, .int .i64 0, .int .i64 0], .bool false]) ∧ Fr noB w w' := by
  have HC : Hid (∀ W, Fr noB w W → Calls Tryd.prog 13 #[.slice ao L.length cap, .agg #[.int .i64 1, .string sh, .int .i64 At, .int .i64 N, .string nm]] W fun e w' => e = .returned (.int .i64 (chkS L 1 sh At N nm)) ∧ Fr noB W w') := fun W hF => rck_all ao cap L 1 sh At N nm W (h.keep hF) hl hsh hnm hL (hT.keep hF)
  have HF : Hid (∀ W, Fr noB w W → Calls Tryd.prog 10 #[.slice ao L.length cap, .string sh] W fun e w' => e = .returned (.tuple #[.int .i64 (fndN L sh : Int), .bool (fndB L sh)]) ∧ Fr noB W w') := fun W hF => rfind_any ao cap L sh W (h.keep hF) hl hsh hL
  obtain ⟨W0, hW0⟩ : ∃ W0, ((w.alloc (.cells #[.int .i64 1, .string sh, .int .i64 At, .int .i64 N, .string nm] 24 (0, 0))).alloc (.cells #[.int .i64 s, .int .i64 r, .int .i64 c] 38 (0, 0))).alloc (.cells #[.int .i64 0, .int .i64 0, .int .i64 0] 38 (0, 0)) = W0 := ⟨_, rfl⟩
  have hX : XAt W0 w.heap.size 1 sh At N nm := by rw [← hW0]; exact ⟨old1 (old1 (heap_alloc_new w _))⟩
  have hA : AAt W0 (w.heap.size + 1) s r c := by rw [← hW0]; exact ⟨old1 (new1 _ _ _ (by simp))⟩
  have hO : AAt W0 (w.heap.size + 1 + 1) 0 0 0 := by rw [← hW0]; exact ⟨new1 _ _ _ (by simp)⟩
  have hF0 : Fr noB w W0 := by rw [← hW0]; exact (((Fr.refl noB w).alloc _).alloc _).alloc _
  have a0 := hX.c0; have a1 := hX.c1; have a2 := hX.c2; have a3 := hX.c3; have a4 := hX.c4
  have HH : Hid _ := And.intro hX (And.intro hA (And.intro hO hF0))
  have a5 := hA.c0; have a6 := hA.c1; have a7 := hA.c2
  rw [hc] at HC
  obtain ⟨i1, i2, i3, i4, i5, i6⟩ := in_iff hi
  have hs47 : s ≤ 140737488355328 := by omega
  have hs4 := chk_span hc (by omega)
  unfold limF at hs4
  rw [if_pos (by decide)] at hs4
  have HU : Hid (∀ w, Calls Tryd.prog 39 #[.int .i64 r, .int .i64 At, .int .i64 N, .int .i64 1048576, .bool true] w fun e w' => e = .returned (.tuple #[.int .i64 (movI At N true r), .bool (movB At N 1048576 true r)]) ∧ Fr noB w w') := fun w => rmoved_any At N 1048576 true r w (by omega) (by omega) (by omega) (by omega) (by omega) (by omega)
  rw [hb] at HU
  clear hb
  rw [← hs] at HF
  have hne : (s != s) = false := by simp
  clear hs hs4
  clear hX hA hO hF0 h hl hsh hnm hL hT hc hi
  generalize (fndN L sh : Int) = k at *
  generalize fndB L sh = bs at *
  generalize L.length = l at *
  generalize movI At N true r = q at *
  go_enter Tryd.func18, Tryd.ntmps18
  go_wp2_with (first
    | (go_at_call 13; refine (HC.out _ HH.out.2.2.2).mono ?_; rintro e w1 ⟨rfl, hF1⟩; have gX := HH.out.1.fr hF1; have gx0 := gX.c0; have gx1 := gX.c1; have gx2 := gX.c2; have gx3 := gX.c3; have gx4 := gX.c4; have gA := HH.out.2.1.fr hF1; have ga0 := gA.c0; have ga1 := gA.c1; have ga2 := gA.c2; have gO := HH.out.2.2.1.fr hF1; have go0 := gO.c0; have go1 := gO.c1; have go2 := gO.c2; have gf0 := gO.f 0; have gf1 := gO.f 1; have gf2 := gO.f 2; have HF1 : Hid _ := hF1; clear hF1 gX gA gO)
    | (go_at_call 10; refine (HF.out _ (HH.out.2.2.2.trans HF1.out)).mono ?_; rintro e w2 ⟨rfl, hF2⟩; have hG2 := HF1.out.trans hF2; have kX := HH.out.1.fr hG2; have kx0 := kX.c0; have kx1 := kX.c1; have kx2 := kX.c2; have kx3 := kX.c3; have kx4 := kX.c4; have kA := HH.out.2.1.fr hG2; have ka0 := kA.c0; have ka1 := kA.c1; have ka2 := kA.c2; have kO := HH.out.2.2.1.fr hG2; have ko0 := kO.c0; have ko1 := kO.c1; have ko2 := kO.c2; have kf0 := kO.f 0; have kf1 := kO.f 1; have kf2 := kO.f 2; have kg0 := kA.f 0; have HF2 : Hid _ := hG2; clear hF2 hG2 kX kA kO)
    | (go_at_call 39; refine (HU.out _).mono ?_; rintro e w3 ⟨rfl, hF3⟩; have hG3 := HF2.out.trans hF3; have mX := HH.out.1.fr hG3; have mx0 := mX.c0; have mx1 := mX.c1; have mx2 := mX.c2; have mx3 := mX.c3; have mx4 := mX.c4; have mA := HH.out.2.1.fr hG3; have ma0 := mA.c0; have ma1 := mA.c1; have ma2 := mA.c2; have mO := HH.out.2.2.1.fr hG3; have mo0 := mO.c0; have mo1 := mO.c1; have mo2 := mO.c2; have mf0 := mO.f 0; have mf1 := mO.f 1; have mf2 := mO.f 2; have mg0 := mA.f 0; have mg1 := mA.f 1; have mg2 := mA.f 2; have HF3 : Hid _ := hG3; clear hF3 hG3 mX mA mO))
  obtain ⟨W, hW⟩ : ∃ W, ((((w3).setCell ⟨w.heap.size + 1, 1, none⟩ (.int .i64 q)).setCell ⟨w.heap.size + 1 + 1, 0, none⟩ (.int .i64 0)).setCell ⟨w.heap.size + 1 + 1, 1, none⟩ (.int .i64 0)).setCell ⟨w.heap.size + 1 + 1, 2, none⟩ (.int .i64 0) = W := ⟨_, rfl⟩
  have p : W.heap[w.heap.size + 1 + 1]? = some (.cells #[.int .i64 0, .int .i64 0, .int .i64 0] 38 (0, 0)) := by
    rw [← hW]
    exact setOf 2 _ (setOf 1 _ (setOf 0 _ ((Below.heap_setCell _ _ _ _ (by show w.heap.size + 1 + 1 ≠ w.heap.size + 1; omega)).trans (HH.out.2.2.1.fr HF3.out).o)))
  have p0 := cellOf (o := 0) p rfl
  have p1 := cellOf (o := 1) p rfl
  have p2 := cellOf (o := 2) p rfl
  have hFW : Fr noB w W := by
    rw [← hW]
    exact ((((HH.out.2.2.2.trans HF3.out).setCell ⟨w.heap.size + 1, 1, none⟩ (Or.inr (Nat.le_succ _)) _).setCell ⟨w.heap.size + 1 + 1, 0, none⟩ (Or.inr (by show w.heap.size ≤ w.heap.size + 1 + 1; omega)) _).setCell ⟨w.heap.size + 1 + 1, 1, none⟩ (Or.inr (by show w.heap.size ≤ w.heap.size + 1 + 1; omega)) _).setCell ⟨w.heap.size + 1 + 1, 2, none⟩ (Or.inr (by show w.heap.size ≤ w.heap.size + 1 + 1; omega)) _
  try rw [hW]
  refine bodyPost_ret ?_ rfl ⟨rfl, hFW⟩
  simp [results, Tryd.results18, go_sem, p0, p1, p2]
set_option maxRecDepth 100000 in
set_option maxHeartbeats 2000000 in
theorem rcell_1on (ao : Option Addr) (cap : Nat) (L : List ByteArray) (sh : ByteArray) (At N : Int) (nm : ByteArray) (s r c : Int) (w : World) (h : SsAt w ao L) (hl : L.length ≤ 140737488355328) (hsh : sh.size ≤ 140737488355328) (hnm : nm.size ≤ 140737488355328) (hL : ∀ x ∈ L, x.size ≤ 140737488355328) (hT : Tabs w) (hc : chkS L 1 sh At N nm = 0) (hi : inB L.length s r c = true) (hs : s = (fndN L sh : Int)) (hb : movB At N 1048576 true r = true) :
    Calls Tryd.prog 18 #[.slice ao L.length cap, .agg #[.int .i64 1, .string sh, .int .i64 At, .int .i64 N, .string nm], .agg #[.int .i64 s, .int .i64 r, .int .i64 c]] w fun e w' => e = .returned (.tuple #[.agg #[.int .i64 (s), .int .i64 (movI At N true r), .int .i64 (c)], .bool true]) ∧ Fr noB w w' := by
  have HC : Hid (∀ W, Fr noB w W → Calls Tryd.prog 13 #[.slice ao L.length cap, .agg #[.int .i64 1, .string sh, .int .i64 At, .int .i64 N, .string nm]] W fun e w' => e = .returned (.int .i64 (chkS L 1 sh At N nm)) ∧ Fr noB W w') := fun W hF => rck_all ao cap L 1 sh At N nm W (h.keep hF) hl hsh hnm hL (hT.keep hF)
  have HF : Hid (∀ W, Fr noB w W → Calls Tryd.prog 10 #[.slice ao L.length cap, .string sh] W fun e w' => e = .returned (.tuple #[.int .i64 (fndN L sh : Int), .bool (fndB L sh)]) ∧ Fr noB W w') := fun W hF => rfind_any ao cap L sh W (h.keep hF) hl hsh hL
  obtain ⟨W0, hW0⟩ : ∃ W0, ((w.alloc (.cells #[.int .i64 1, .string sh, .int .i64 At, .int .i64 N, .string nm] 24 (0, 0))).alloc (.cells #[.int .i64 s, .int .i64 r, .int .i64 c] 38 (0, 0))).alloc (.cells #[.int .i64 0, .int .i64 0, .int .i64 0] 38 (0, 0)) = W0 := ⟨_, rfl⟩
  have hX : XAt W0 w.heap.size 1 sh At N nm := by rw [← hW0]; exact ⟨old1 (old1 (heap_alloc_new w _))⟩
  have hA : AAt W0 (w.heap.size + 1) s r c := by rw [← hW0]; exact ⟨old1 (new1 _ _ _ (by simp))⟩
  have hO : AAt W0 (w.heap.size + 1 + 1) 0 0 0 := by rw [← hW0]; exact ⟨new1 _ _ _ (by simp)⟩
  have hF0 : Fr noB w W0 := by rw [← hW0]; exact (((Fr.refl noB w).alloc _).alloc _).alloc _
  have a0 := hX.c0; have a1 := hX.c1; have a2 := hX.c2; have a3 := hX.c3; have a4 := hX.c4
  have HH : Hid _ := And.intro hX (And.intro hA (And.intro hO hF0))
  have a5 := hA.c0; have a6 := hA.c1; have a7 := hA.c2
  rw [hc] at HC
  obtain ⟨i1, i2, i3, i4, i5, i6⟩ := in_iff hi
  have hs47 : s ≤ 140737488355328 := by omega
  have hs4 := chk_span hc (by omega)
  unfold limF at hs4
  rw [if_pos (by decide)] at hs4
  have HU : Hid (∀ w, Calls Tryd.prog 39 #[.int .i64 r, .int .i64 At, .int .i64 N, .int .i64 1048576, .bool true] w fun e w' => e = .returned (.tuple #[.int .i64 (movI At N true r), .bool (movB At N 1048576 true r)]) ∧ Fr noB w w') := fun w => rmoved_any At N 1048576 true r w (by omega) (by omega) (by omega) (by omega) (by omega) (by omega)
  rw [hb] at HU
  clear hb
  rw [← hs] at HF
  have hne : (s != s) = false := by simp
  clear hs hs4
  clear hX hA hO hF0 h hl hsh hnm hL hT hc hi
  generalize (fndN L sh : Int) = k at *
  generalize fndB L sh = bs at *
  generalize L.length = l at *
  generalize movI At N true r = q at *
  go_enter Tryd.func18, Tryd.ntmps18
  go_wp2_with (first
    | (go_at_call 13; refine (HC.out _ HH.out.2.2.2).mono ?_; rintro e w1 ⟨rfl, hF1⟩; have gX := HH.out.1.fr hF1; have gx0 := gX.c0; have gx1 := gX.c1; have gx2 := gX.c2; have gx3 := gX.c3; have gx4 := gX.c4; have gA := HH.out.2.1.fr hF1; have ga0 := gA.c0; have ga1 := gA.c1; have ga2 := gA.c2; have gO := HH.out.2.2.1.fr hF1; have go0 := gO.c0; have go1 := gO.c1; have go2 := gO.c2; have gf0 := gO.f 0; have gf1 := gO.f 1; have gf2 := gO.f 2; have HF1 : Hid _ := hF1; clear hF1 gX gA gO)
    | (go_at_call 10; refine (HF.out _ (HH.out.2.2.2.trans HF1.out)).mono ?_; rintro e w2 ⟨rfl, hF2⟩; have hG2 := HF1.out.trans hF2; have kX := HH.out.1.fr hG2; have kx0 := kX.c0; have kx1 := kX.c1; have kx2 := kX.c2; have kx3 := kX.c3; have kx4 := kX.c4; have kA := HH.out.2.1.fr hG2; have ka0 := kA.c0; have ka1 := kA.c1; have ka2 := kA.c2; have kO := HH.out.2.2.1.fr hG2; have ko0 := kO.c0; have ko1 := kO.c1; have ko2 := kO.c2; have kf0 := kO.f 0; have kf1 := kO.f 1; have kf2 := kO.f 2; have kg0 := kA.f 0; have HF2 : Hid _ := hG2; clear hF2 hG2 kX kA kO)
    | (go_at_call 39; refine (HU.out _).mono ?_; rintro e w3 ⟨rfl, hF3⟩; have hG3 := HF2.out.trans hF3; have mX := HH.out.1.fr hG3; have mx0 := mX.c0; have mx1 := mX.c1; have mx2 := mX.c2; have mx3 := mX.c3; have mx4 := mX.c4; have mA := HH.out.2.1.fr hG3; have ma0 := mA.c0; have ma1 := mA.c1; have ma2 := mA.c2; have mO := HH.out.2.2.1.fr hG3; have mo0 := mO.c0; have mo1 := mO.c1; have mo2 := mO.c2; have mf0 := mO.f 0; have mf1 := mO.f 1; have mf2 := mO.f 2; have mg0 := mA.f 0; have mg1 := mA.f 1; have mg2 := mA.f 2; have HF3 : Hid _ := hG3; clear hF3 hG3 mX mA mO))
  obtain ⟨W, hW⟩ : ∃ W, ((((w3).setCell ⟨w.heap.size + 1, 1, none⟩ (.int .i64 q)).setCell ⟨w.heap.size + 1 + 1, 0, none⟩ (.int .i64 s)).setCell ⟨w.heap.size + 1 + 1, 1, none⟩ (.int .i64 q)).setCell ⟨w.heap.size + 1 + 1, 2, none⟩ (.int .i64 c) = W := ⟨_, rfl⟩
  have p : W.heap[w.heap.size + 1 + 1]? = some (.cells #[.int .i64 s, .int .i64 q, .int .i64 c] 38 (0, 0)) := by
    rw [← hW]
    exact setOf 2 _ (setOf 1 _ (setOf 0 _ ((Below.heap_setCell _ _ _ _ (by show w.heap.size + 1 + 1 ≠ w.heap.size + 1; omega)).trans (HH.out.2.2.1.fr HF3.out).o)))
  have p0 := cellOf (o := 0) p rfl
  have p1 := cellOf (o := 1) p rfl
  have p2 := cellOf (o := 2) p rfl
  have hFW : Fr noB w W := by
    rw [← hW]
    exact ((((HH.out.2.2.2.trans HF3.out).setCell ⟨w.heap.size + 1, 1, none⟩ (Or.inr (Nat.le_succ _)) _).setCell ⟨w.heap.size + 1 + 1, 0, none⟩ (Or.inr (by show w.heap.size ≤ w.heap.size + 1 + 1; omega)) _).setCell ⟨w.heap.size + 1 + 1, 1, none⟩ (Or.inr (by show w.heap.size ≤ w.heap.size + 1 + 1; omega)) _).setCell ⟨w.heap.size + 1 + 1, 2, none⟩ (Or.inr (by show w.heap.size ≤ w.heap.size + 1 + 1; omega)) _
  try rw [hW]
  refine bodyPost_ret ?_ rfl ⟨rfl, hFW⟩
  simp [results, Tryd.results18, go_sem, p0, p1, p2]
set_option maxRecDepth 100000 in
set_option maxHeartbeats 2000000 in
theorem rcell_2off (ao : Option Addr) (cap : Nat) (L : List ByteArray) (sh : ByteArray) (At N : Int) (nm : ByteArray) (s r c : Int) (w : World) (h : SsAt w ao L) (hl : L.length ≤ 140737488355328) (hsh : sh.size ≤ 140737488355328) (hnm : nm.size ≤ 140737488355328) (hL : ∀ x ∈ L, x.size ≤ 140737488355328) (hT : Tabs w) (hc : chkS L 2 sh At N nm = 0) (hi : inB L.length s r c = true) (hs : ¬ s = (fndN L sh : Int)) :
    Calls Tryd.prog 18 #[.slice ao L.length cap, .agg #[.int .i64 2, .string sh, .int .i64 At, .int .i64 N, .string nm], .agg #[.int .i64 s, .int .i64 r, .int .i64 c]] w fun e w' => e = .returned (.tuple #[.agg #[.int .i64 (s), .int .i64 (r), .int .i64 (c)], .bool true]) ∧ Fr noB w w' := by
  have HC : Hid (∀ W, Fr noB w W → Calls Tryd.prog 13 #[.slice ao L.length cap, .agg #[.int .i64 2, .string sh, .int .i64 At, .int .i64 N, .string nm]] W fun e w' => e = .returned (.int .i64 (chkS L 2 sh At N nm)) ∧ Fr noB W w') := fun W hF => rck_all ao cap L 2 sh At N nm W (h.keep hF) hl hsh hnm hL (hT.keep hF)
  have HF : Hid (∀ W, Fr noB w W → Calls Tryd.prog 10 #[.slice ao L.length cap, .string sh] W fun e w' => e = .returned (.tuple #[.int .i64 (fndN L sh : Int), .bool (fndB L sh)]) ∧ Fr noB W w') := fun W hF => rfind_any ao cap L sh W (h.keep hF) hl hsh hL
  obtain ⟨W0, hW0⟩ : ∃ W0, ((w.alloc (.cells #[.int .i64 2, .string sh, .int .i64 At, .int .i64 N, .string nm] 24 (0, 0))).alloc (.cells #[.int .i64 s, .int .i64 r, .int .i64 c] 38 (0, 0))).alloc (.cells #[.int .i64 0, .int .i64 0, .int .i64 0] 38 (0, 0)) = W0 := ⟨_, rfl⟩
  have hX : XAt W0 w.heap.size 2 sh At N nm := by rw [← hW0]; exact ⟨old1 (old1 (heap_alloc_new w _))⟩
  have hA : AAt W0 (w.heap.size + 1) s r c := by rw [← hW0]; exact ⟨old1 (new1 _ _ _ (by simp))⟩
  have hO : AAt W0 (w.heap.size + 1 + 1) 0 0 0 := by rw [← hW0]; exact ⟨new1 _ _ _ (by simp)⟩
  have hF0 : Fr noB w W0 := by rw [← hW0]; exact (((Fr.refl noB w).alloc _).alloc _).alloc _
  have a0 := hX.c0; have a1 := hX.c1; have a2 := hX.c2; have a3 := hX.c3; have a4 := hX.c4
  have HH : Hid _ := And.intro hX (And.intro hA (And.intro hO hF0))
  have a5 := hA.c0; have a6 := hA.c1; have a7 := hA.c2
  rw [hc] at HC
  obtain ⟨i1, i2, i3, i4, i5, i6⟩ := in_iff hi
  have hs47 : s ≤ 140737488355328 := by omega
  clear hX hA hO hF0 h hl hsh hnm hL hT hc hi
  generalize (fndN L sh : Int) = k at *
  generalize fndB L sh = bs at *
  generalize L.length = l at *
  have hne : (s != k) = true := by simpa using hs
  clear hs
  go_enter Tryd.func18, Tryd.ntmps18
  go_wp2_with (first
    | (go_at_call 13; refine (HC.out _ HH.out.2.2.2).mono ?_; rintro e w1 ⟨rfl, hF1⟩; have gX := HH.out.1.fr hF1; have gx0 := gX.c0; have gx1 := gX.c1; have gx2 := gX.c2; have gx3 := gX.c3; have gx4 := gX.c4; have gA := HH.out.2.1.fr hF1; have ga0 := gA.c0; have ga1 := gA.c1; have ga2 := gA.c2; have gO := HH.out.2.2.1.fr hF1; have go0 := gO.c0; have go1 := gO.c1; have go2 := gO.c2; have gf0 := gO.f 0; have gf1 := gO.f 1; have gf2 := gO.f 2; have HF1 : Hid _ := hF1; clear hF1 gX gA gO)
    | (go_at_call 10; refine (HF.out _ (HH.out.2.2.2.trans HF1.out)).mono ?_; rintro e w2 ⟨rfl, hF2⟩; have hG2 := HF1.out.trans hF2; have kX := HH.out.1.fr hG2; have kx0 := kX.c0; have kx1 := kX.c1; have kx2 := kX.c2; have kx3 := kX.c3; have kx4 := kX.c4; have kA := HH.out.2.1.fr hG2; have ka0 := kA.c0; have ka1 := kA.c1; have ka2 := kA.c2; have kO := HH.out.2.2.1.fr hG2; have ko0 := kO.c0; have ko1 := kO.c1; have ko2 := kO.c2; have kf0 := kO.f 0; have kf1 := kO.f 1; have kf2 := kO.f 2; have kg0 := kA.f 0; have HF2 : Hid _ := hG2; clear hF2 hG2 kX kA kO))
  obtain ⟨W, hW⟩ : ∃ W, (((w2).setCell ⟨w.heap.size + 1 + 1, 0, none⟩ (.int .i64 s)).setCell ⟨w.heap.size + 1 + 1, 1, none⟩ (.int .i64 r)).setCell ⟨w.heap.size + 1 + 1, 2, none⟩ (.int .i64 c) = W := ⟨_, rfl⟩
  have p : W.heap[w.heap.size + 1 + 1]? = some (.cells #[.int .i64 s, .int .i64 r, .int .i64 c] 38 (0, 0)) := by
    rw [← hW]
    exact setOf 2 _ (setOf 1 _ (setOf 0 _ (HH.out.2.2.1.fr HF2.out).o))
  have p0 := cellOf (o := 0) p rfl
  have p1 := cellOf (o := 1) p rfl
  have p2 := cellOf (o := 2) p rfl
  have hFW : Fr noB w W := by
    rw [← hW]
    exact (((HH.out.2.2.2.trans HF2.out).setCell ⟨w.heap.size + 1 + 1, 0, none⟩ (Or.inr (by show w.heap.size ≤ w.heap.size + 1 + 1; omega)) _).setCell ⟨w.heap.size + 1 + 1, 1, none⟩ (Or.inr (by show w.heap.size ≤ w.heap.size + 1 + 1; omega)) _).setCell ⟨w.heap.size + 1 + 1, 2, none⟩ (Or.inr (by show w.heap.size ≤ w.heap.size + 1 + 1; omega)) _
  try rw [hW]
  refine bodyPost_ret ?_ rfl ⟨rfl, hFW⟩
  simp [results, Tryd.results18, go_sem, p0, p1, p2]
set_option maxRecDepth 100000 in
set_option maxHeartbeats 2000000 in
theorem rcell_2goes (ao : Option Addr) (cap : Nat) (L : List ByteArray) (sh : ByteArray) (At N : Int) (nm : ByteArray) (s r c : Int) (w : World) (h : SsAt w ao L) (hl : L.length ≤ 140737488355328) (hsh : sh.size ≤ 140737488355328) (hnm : nm.size ≤ 140737488355328) (hL : ∀ x ∈ L, x.size ≤ 140737488355328) (hT : Tabs w) (hc : chkS L 2 sh At N nm = 0) (hi : inB L.length s r c = true) (hs : s = (fndN L sh : Int)) (hb : movB At N 1048576 false r = false) :
    Calls Tryd.prog 18 #[.slice ao L.length cap, .agg #[.int .i64 2, .string sh, .int .i64 At, .int .i64 N, .string nm], .agg #[.int .i64 s, .int .i64 r, .int .i64 c]] w fun e w' => e = .returned (.tuple #[.agg #[.int .i64 0, .int .i64 0, .int .i64 0], .bool false]) ∧ Fr noB w w' := by
  have HC : Hid (∀ W, Fr noB w W → Calls Tryd.prog 13 #[.slice ao L.length cap, .agg #[.int .i64 2, .string sh, .int .i64 At, .int .i64 N, .string nm]] W fun e w' => e = .returned (.int .i64 (chkS L 2 sh At N nm)) ∧ Fr noB W w') := fun W hF => rck_all ao cap L 2 sh At N nm W (h.keep hF) hl hsh hnm hL (hT.keep hF)
  have HF : Hid (∀ W, Fr noB w W → Calls Tryd.prog 10 #[.slice ao L.length cap, .string sh] W fun e w' => e = .returned (.tuple #[.int .i64 (fndN L sh : Int), .bool (fndB L sh)]) ∧ Fr noB W w') := fun W hF => rfind_any ao cap L sh W (h.keep hF) hl hsh hL
  obtain ⟨W0, hW0⟩ : ∃ W0, ((w.alloc (.cells #[.int .i64 2, .string sh, .int .i64 At, .int .i64 N, .string nm] 24 (0, 0))).alloc (.cells #[.int .i64 s, .int .i64 r, .int .i64 c] 38 (0, 0))).alloc (.cells #[.int .i64 0, .int .i64 0, .int .i64 0] 38 (0, 0)) = W0 := ⟨_, rfl⟩
  have hX : XAt W0 w.heap.size 2 sh At N nm := by rw [← hW0]; exact ⟨old1 (old1 (heap_alloc_new w _))⟩
  have hA : AAt W0 (w.heap.size + 1) s r c := by rw [← hW0]; exact ⟨old1 (new1 _ _ _ (by simp))⟩
  have hO : AAt W0 (w.heap.size + 1 + 1) 0 0 0 := by rw [← hW0]; exact ⟨new1 _ _ _ (by simp)⟩
  have hF0 : Fr noB w W0 := by rw [← hW0]; exact (((Fr.refl noB w).alloc _).alloc _).alloc _
  have a0 := hX.c0; have a1 := hX.c1; have a2 := hX.c2; have a3 := hX.c3; have a4 := hX.c4
  have HH : Hid _ := And.intro hX (And.intro hA (And.intro hO hF0))
  have a5 := hA.c0; have a6 := hA.c1; have a7 := hA.c2
  rw [hc] at HC
  obtain ⟨i1, i2, i3, i4, i5, i6⟩ := in_iff hi
  have hs47 : s ≤ 140737488355328 := by omega
  have hs4 := chk_span hc (by omega)
  unfold limF at hs4
  rw [if_pos (by decide)] at hs4
  have HU : Hid (∀ w, Calls Tryd.prog 39 #[.int .i64 r, .int .i64 At, .int .i64 N, .int .i64 1048576, .bool false] w fun e w' => e = .returned (.tuple #[.int .i64 (movI At N false r), .bool (movB At N 1048576 false r)]) ∧ Fr noB w w') := fun w => rmoved_any At N 1048576 false r w (by omega) (by omega) (by omega) (by omega) (by omega) (by omega)
  rw [hb] at HU
  clear hb
  rw [← hs] at HF
  have hne : (s != s) = false := by simp
  clear hs hs4
  clear hX hA hO hF0 h hl hsh hnm hL hT hc hi
  generalize (fndN L sh : Int) = k at *
  generalize fndB L sh = bs at *
  generalize L.length = l at *
  generalize movI At N false r = q at *
  go_enter Tryd.func18, Tryd.ntmps18
  go_wp2_with (first
    | (go_at_call 13; refine (HC.out _ HH.out.2.2.2).mono ?_; rintro e w1 ⟨rfl, hF1⟩; have gX := HH.out.1.fr hF1; have gx0 := gX.c0; have gx1 := gX.c1; have gx2 := gX.c2; have gx3 := gX.c3; have gx4 := gX.c4; have gA := HH.out.2.1.fr hF1; have ga0 := gA.c0; have ga1 := gA.c1; have ga2 := gA.c2; have gO := HH.out.2.2.1.fr hF1; have go0 := gO.c0; have go1 := gO.c1; have go2 := gO.c2; have gf0 := gO.f 0; have gf1 := gO.f 1; have gf2 := gO.f 2; have HF1 : Hid _ := hF1; clear hF1 gX gA gO)
    | (go_at_call 10; refine (HF.out _ (HH.out.2.2.2.trans HF1.out)).mono ?_; rintro e w2 ⟨rfl, hF2⟩; have hG2 := HF1.out.trans hF2; have kX := HH.out.1.fr hG2; have kx0 := kX.c0; have kx1 := kX.c1; have kx2 := kX.c2; have kx3 := kX.c3; have kx4 := kX.c4; have kA := HH.out.2.1.fr hG2; have ka0 := kA.c0; have ka1 := kA.c1; have ka2 := kA.c2; have kO := HH.out.2.2.1.fr hG2; have ko0 := kO.c0; have ko1 := kO.c1; have ko2 := kO.c2; have kf0 := kO.f 0; have kf1 := kO.f 1; have kf2 := kO.f 2; have kg0 := kA.f 0; have HF2 : Hid _ := hG2; clear hF2 hG2 kX kA kO)
    | (go_at_call 39; refine (HU.out _).mono ?_; rintro e w3 ⟨rfl, hF3⟩; have hG3 := HF2.out.trans hF3; have mX := HH.out.1.fr hG3; have mx0 := mX.c0; have mx1 := mX.c1; have mx2 := mX.c2; have mx3 := mX.c3; have mx4 := mX.c4; have mA := HH.out.2.1.fr hG3; have ma0 := mA.c0; have ma1 := mA.c1; have ma2 := mA.c2; have mO := HH.out.2.2.1.fr hG3; have mo0 := mO.c0; have mo1 := mO.c1; have mo2 := mO.c2; have mf0 := mO.f 0; have mf1 := mO.f 1; have mf2 := mO.f 2; have mg0 := mA.f 0; have mg1 := mA.f 1; have mg2 := mA.f 2; have HF3 : Hid _ := hG3; clear hF3 hG3 mX mA mO))
  obtain ⟨W, hW⟩ : ∃ W, ((((w3).setCell ⟨w.heap.size + 1, 1, none⟩ (.int .i64 q)).setCell ⟨w.heap.size + 1 + 1, 0, none⟩ (.int .i64 0)).setCell ⟨w.heap.size + 1 + 1, 1, none⟩ (.int .i64 0)).setCell ⟨w.heap.size + 1 + 1, 2, none⟩ (.int .i64 0) = W := ⟨_, rfl⟩
  have p : W.heap[w.heap.size + 1 + 1]? = some (.cells #[.int .i64 0, .int .i64 0, .int .i64 0] 38 (0, 0)) := by
    rw [← hW]
    exact setOf 2 _ (setOf 1 _ (setOf 0 _ ((Below.heap_setCell _ _ _ _ (by show w.heap.size + 1 + 1 ≠ w.heap.size + 1; omega)).trans (HH.out.2.2.1.fr HF3.out).o)))
  have p0 := cellOf (o := 0) p rfl
  have p1 := cellOf (o := 1) p rfl
  have p2 := cellOf (o := 2) p rfl
  have hFW : Fr noB w W := by
    rw [← hW]
    exact ((((HH.out.2.2.2.trans HF3.out).setCell ⟨w.heap.size + 1, 1, none⟩ (Or.inr (Nat.le_succ _)) _).setCell ⟨w.heap.size + 1 + 1, 0, none⟩ (Or.inr (by show w.heap.size ≤ w.heap.size + 1 + 1; omega)) _).setCell ⟨w.heap.size + 1 + 1, 1, none⟩ (Or.inr (by show w.heap.size ≤ w.heap.size + 1 + 1; omega)) _).setCell ⟨w.heap.size + 1 + 1, 2, none⟩ (Or.inr (by show w.heap.size ≤ w.heap.size + 1 + 1; omega)) _
  try rw [hW]
  refine bodyPost_ret ?_ rfl ⟨rfl, hFW⟩
  simp [results, Tryd.results18, go_sem, p0, p1, p2]
set_option maxRecDepth 100000 in
set_option maxHeartbeats 2000000 in
theorem rcell_2on (ao : Option Addr) (cap : Nat) (L : List ByteArray) (sh : ByteArray) (At N : Int) (nm : ByteArray) (s r c : Int) (w : World) (h : SsAt w ao L) (hl : L.length ≤ 140737488355328) (hsh : sh.size ≤ 140737488355328) (hnm : nm.size ≤ 140737488355328) (hL : ∀ x ∈ L, x.size ≤ 140737488355328) (hT : Tabs w) (hc : chkS L 2 sh At N nm = 0) (hi : inB L.length s r c = true) (hs : s = (fndN L sh : Int)) (hb : movB At N 1048576 false r = true) :
    Calls Tryd.prog 18 #[.slice ao L.length cap, .agg #[.int .i64 2, .string sh, .int .i64 At, .int .i64 N, .string nm], .agg #[.int .i64 s, .int .i64 r, .int .i64 c]] w fun e w' => e = .returned (.tuple #[.agg #[.int .i64 (s), .int .i64 (movI At N false r), .int .i64 (c)], .bool true]) ∧ Fr noB w w' := by
  have HC : Hid (∀ W, Fr noB w W → Calls Tryd.prog 13 #[.slice ao L.length cap, .agg #[.int .i64 2, .string sh, .int .i64 At, .int .i64 N, .string nm]] W fun e w' => e = .returned (.int .i64 (chkS L 2 sh At N nm)) ∧ Fr noB W w') := fun W hF => rck_all ao cap L 2 sh At N nm W (h.keep hF) hl hsh hnm hL (hT.keep hF)
  have HF : Hid (∀ W, Fr noB w W → Calls Tryd.prog 10 #[.slice ao L.length cap, .string sh] W fun e w' => e = .returned (.tuple #[.int .i64 (fndN L sh : Int), .bool (fndB L sh)]) ∧ Fr noB W w') := fun W hF => rfind_any ao cap L sh W (h.keep hF) hl hsh hL
  obtain ⟨W0, hW0⟩ : ∃ W0, ((w.alloc (.cells #[.int .i64 2, .string sh, .int .i64 At, .int .i64 N, .string nm] 24 (0, 0))).alloc (.cells #[.int .i64 s, .int .i64 r, .int .i64 c] 38 (0, 0))).alloc (.cells #[.int .i64 0, .int .i64 0, .int .i64 0] 38 (0, 0)) = W0 := ⟨_, rfl⟩
  have hX : XAt W0 w.heap.size 2 sh At N nm := by rw [← hW0]; exact ⟨old1 (old1 (heap_alloc_new w _))⟩
  have hA : AAt W0 (w.heap.size + 1) s r c := by rw [← hW0]; exact ⟨old1 (new1 _ _ _ (by simp))⟩
  have hO : AAt W0 (w.heap.size + 1 + 1) 0 0 0 := by rw [← hW0]; exact ⟨new1 _ _ _ (by simp)⟩
  have hF0 : Fr noB w W0 := by rw [← hW0]; exact (((Fr.refl noB w).alloc _).alloc _).alloc _
  have a0 := hX.c0; have a1 := hX.c1; have a2 := hX.c2; have a3 := hX.c3; have a4 := hX.c4
  have HH : Hid _ := And.intro hX (And.intro hA (And.intro hO hF0))
  have a5 := hA.c0; have a6 := hA.c1; have a7 := hA.c2
  rw [hc] at HC
  obtain ⟨i1, i2, i3, i4, i5, i6⟩ := in_iff hi
  have hs47 : s ≤ 140737488355328 := by omega
  have hs4 := chk_span hc (by omega)
  unfold limF at hs4
  rw [if_pos (by decide)] at hs4
  have HU : Hid (∀ w, Calls Tryd.prog 39 #[.int .i64 r, .int .i64 At, .int .i64 N, .int .i64 1048576, .bool false] w fun e w' => e = .returned (.tuple #[.int .i64 (movI At N false r), .bool (movB At N 1048576 false r)]) ∧ Fr noB w w') := fun w => rmoved_any At N 1048576 false r w (by omega) (by omega) (by omega) (by omega) (by omega) (by omega)
  rw [hb] at HU
  clear hb
  rw [← hs] at HF
  have hne : (s != s) = false := by simp
  clear hs hs4
  clear hX hA hO hF0 h hl hsh hnm hL hT hc hi
  generalize (fndN L sh : Int) = k at *
  generalize fndB L sh = bs at *
  generalize L.length = l at *
  generalize movI At N false r = q at *
  go_enter Tryd.func18, Tryd.ntmps18
  go_wp2_with (first
    | (go_at_call 13; refine (HC.out _ HH.out.2.2.2).mono ?_; rintro e w1 ⟨rfl, hF1⟩; have gX := HH.out.1.fr hF1; have gx0 := gX.c0; have gx1 := gX.c1; have gx2 := gX.c2; have gx3 := gX.c3; have gx4 := gX.c4; have gA := HH.out.2.1.fr hF1; have ga0 := gA.c0; have ga1 := gA.c1; have ga2 := gA.c2; have gO := HH.out.2.2.1.fr hF1; have go0 := gO.c0; have go1 := gO.c1; have go2 := gO.c2; have gf0 := gO.f 0; have gf1 := gO.f 1; have gf2 := gO.f 2; have HF1 : Hid _ := hF1; clear hF1 gX gA gO)
    | (go_at_call 10; refine (HF.out _ (HH.out.2.2.2.trans HF1.out)).mono ?_; rintro e w2 ⟨rfl, hF2⟩; have hG2 := HF1.out.trans hF2; have kX := HH.out.1.fr hG2; have kx0 := kX.c0; have kx1 := kX.c1; have kx2 := kX.c2; have kx3 := kX.c3; have kx4 := kX.c4; have kA := HH.out.2.1.fr hG2; have ka0 := kA.c0; have ka1 := kA.c1; have ka2 := kA.c2; have kO := HH.out.2.2.1.fr hG2; have ko0 := kO.c0; have ko1 := kO.c1; have ko2 := kO.c2; have kf0 := kO.f 0; have kf1 := kO.f 1; have kf2 := kO.f 2; have kg0 := kA.f 0; have HF2 : Hid _ := hG2; clear hF2 hG2 kX kA kO)
    | (go_at_call 39; refine (HU.out _).mono ?_; rintro e w3 ⟨rfl, hF3⟩; have hG3 := HF2.out.trans hF3; have mX := HH.out.1.fr hG3; have mx0 := mX.c0; have mx1 := mX.c1; have mx2 := mX.c2; have mx3 := mX.c3; have mx4 := mX.c4; have mA := HH.out.2.1.fr hG3; have ma0 := mA.c0; have ma1 := mA.c1; have ma2 := mA.c2; have mO := HH.out.2.2.1.fr hG3; have mo0 := mO.c0; have mo1 := mO.c1; have mo2 := mO.c2; have mf0 := mO.f 0; have mf1 := mO.f 1; have mf2 := mO.f 2; have mg0 := mA.f 0; have mg1 := mA.f 1; have mg2 := mA.f 2; have HF3 : Hid _ := hG3; clear hF3 hG3 mX mA mO))
  obtain ⟨W, hW⟩ : ∃ W, ((((w3).setCell ⟨w.heap.size + 1, 1, none⟩ (.int .i64 q)).setCell ⟨w.heap.size + 1 + 1, 0, none⟩ (.int .i64 s)).setCell ⟨w.heap.size + 1 + 1, 1, none⟩ (.int .i64 q)).setCell ⟨w.heap.size + 1 + 1, 2, none⟩ (.int .i64 c) = W := ⟨_, rfl⟩
  have p : W.heap[w.heap.size + 1 + 1]? = some (.cells #[.int .i64 s, .int .i64 q, .int .i64 c] 38 (0, 0)) := by
    rw [← hW]
    exact setOf 2 _ (setOf 1 _ (setOf 0 _ ((Below.heap_setCell _ _ _ _ (by show w.heap.size + 1 + 1 ≠ w.heap.size + 1; omega)).trans (HH.out.2.2.1.fr HF3.out).o)))
  have p0 := cellOf (o := 0) p rfl
  have p1 := cellOf (o := 1) p rfl
  have p2 := cellOf (o := 2) p rfl
  have hFW : Fr noB w W := by
    rw [← hW]
    exact ((((HH.out.2.2.2.trans HF3.out).setCell ⟨w.heap.size + 1, 1, none⟩ (Or.inr (Nat.le_succ _)) _).setCell ⟨w.heap.size + 1 + 1, 0, none⟩ (Or.inr (by show w.heap.size ≤ w.heap.size + 1 + 1; omega)) _).setCell ⟨w.heap.size + 1 + 1, 1, none⟩ (Or.inr (by show w.heap.size ≤ w.heap.size + 1 + 1; omega)) _).setCell ⟨w.heap.size + 1 + 1, 2, none⟩ (Or.inr (by show w.heap.size ≤ w.heap.size + 1 + 1; omega)) _
  try rw [hW]
  refine bodyPost_ret ?_ rfl ⟨rfl, hFW⟩
  simp [results, Tryd.results18, go_sem, p0, p1, p2]
set_option maxRecDepth 100000 in
set_option maxHeartbeats 2000000 in
theorem rcell_3off (ao : Option Addr) (cap : Nat) (L : List ByteArray) (sh : ByteArray) (At N : Int) (nm : ByteArray) (s r c : Int) (w : World) (h : SsAt w ao L) (hl : L.length ≤ 140737488355328) (hsh : sh.size ≤ 140737488355328) (hnm : nm.size ≤ 140737488355328) (hL : ∀ x ∈ L, x.size ≤ 140737488355328) (hT : Tabs w) (hc : chkS L 3 sh At N nm = 0) (hi : inB L.length s r c = true) (hs : ¬ s = (fndN L sh : Int)) :
    Calls Tryd.prog 18 #[.slice ao L.length cap, .agg #[.int .i64 3, .string sh, .int .i64 At, .int .i64 N, .string nm], .agg #[.int .i64 s, .int .i64 r, .int .i64 c]] w fun e w' => e = .returned (.tuple #[.agg #[.int .i64 (s), .int .i64 (r), .int .i64 (c)], .bool true]) ∧ Fr noB w w' := by
  have HC : Hid (∀ W, Fr noB w W → Calls Tryd.prog 13 #[.slice ao L.length cap, .agg #[.int .i64 3, .string sh, .int .i64 At, .int .i64 N, .string nm]] W fun e w' => e = .returned (.int .i64 (chkS L 3 sh At N nm)) ∧ Fr noB W w') := fun W hF => rck_all ao cap L 3 sh At N nm W (h.keep hF) hl hsh hnm hL (hT.keep hF)
  have HF : Hid (∀ W, Fr noB w W → Calls Tryd.prog 10 #[.slice ao L.length cap, .string sh] W fun e w' => e = .returned (.tuple #[.int .i64 (fndN L sh : Int), .bool (fndB L sh)]) ∧ Fr noB W w') := fun W hF => rfind_any ao cap L sh W (h.keep hF) hl hsh hL
  obtain ⟨W0, hW0⟩ : ∃ W0, ((w.alloc (.cells #[.int .i64 3, .string sh, .int .i64 At, .int .i64 N, .string nm] 24 (0, 0))).alloc (.cells #[.int .i64 s, .int .i64 r, .int .i64 c] 38 (0, 0))).alloc (.cells #[.int .i64 0, .int .i64 0, .int .i64 0] 38 (0, 0)) = W0 := ⟨_, rfl⟩
  have hX : XAt W0 w.heap.size 3 sh At N nm := by rw [← hW0]; exact ⟨old1 (old1 (heap_alloc_new w _))⟩
  have hA : AAt W0 (w.heap.size + 1) s r c := by rw [← hW0]; exact ⟨old1 (new1 _ _ _ (by simp))⟩
  have hO : AAt W0 (w.heap.size + 1 + 1) 0 0 0 := by rw [← hW0]; exact ⟨new1 _ _ _ (by simp)⟩
  have hF0 : Fr noB w W0 := by rw [← hW0]; exact (((Fr.refl noB w).alloc _).alloc _).alloc _
  have a0 := hX.c0; have a1 := hX.c1; have a2 := hX.c2; have a3 := hX.c3; have a4 := hX.c4
  have HH : Hid _ := And.intro hX (And.intro hA (And.intro hO hF0))
  have a5 := hA.c0; have a6 := hA.c1; have a7 := hA.c2
  rw [hc] at HC
  obtain ⟨i1, i2, i3, i4, i5, i6⟩ := in_iff hi
  have hs47 : s ≤ 140737488355328 := by omega
  clear hX hA hO hF0 h hl hsh hnm hL hT hc hi
  generalize (fndN L sh : Int) = k at *
  generalize fndB L sh = bs at *
  generalize L.length = l at *
  have hne : (s != k) = true := by simpa using hs
  clear hs
  go_enter Tryd.func18, Tryd.ntmps18
  go_wp2_with (first
    | (go_at_call 13; refine (HC.out _ HH.out.2.2.2).mono ?_; rintro e w1 ⟨rfl, hF1⟩; have gX := HH.out.1.fr hF1; have gx0 := gX.c0; have gx1 := gX.c1; have gx2 := gX.c2; have gx3 := gX.c3; have gx4 := gX.c4; have gA := HH.out.2.1.fr hF1; have ga0 := gA.c0; have ga1 := gA.c1; have ga2 := gA.c2; have gO := HH.out.2.2.1.fr hF1; have go0 := gO.c0; have go1 := gO.c1; have go2 := gO.c2; have gf0 := gO.f 0; have gf1 := gO.f 1; have gf2 := gO.f 2; have HF1 : Hid _ := hF1; clear hF1 gX gA gO)
    | (go_at_call 10; refine (HF.out _ (HH.out.2.2.2.trans HF1.out)).mono ?_; rintro e w2 ⟨rfl, hF2⟩; have hG2 := HF1.out.trans hF2; have kX := HH.out.1.fr hG2; have kx0 := kX.c0; have kx1 := kX.c1; have kx2 := kX.c2; have kx3 := kX.c3; have kx4 := kX.c4; have kA := HH.out.2.1.fr hG2; have ka0 := kA.c0; have ka1 := kA.c1; have ka2 := kA.c2; have kO := HH.out.2.2.1.fr hG2; have ko0 := kO.c0; have ko1 := kO.c1; have ko2 := kO.c2; have kf0 := kO.f 0; have kf1 := kO.f 1; have kf2 := kO.f 2; have kg0 := kA.f 0; have HF2 : Hid _ := hG2; clear hF2 hG2 kX kA kO))
  obtain ⟨W, hW⟩ : ∃ W, (((w2).setCell ⟨w.heap.size + 1 + 1, 0, none⟩ (.int .i64 s)).setCell ⟨w.heap.size + 1 + 1, 1, none⟩ (.int .i64 r)).setCell ⟨w.heap.size + 1 + 1, 2, none⟩ (.int .i64 c) = W := ⟨_, rfl⟩
  have p : W.heap[w.heap.size + 1 + 1]? = some (.cells #[.int .i64 s, .int .i64 r, .int .i64 c] 38 (0, 0)) := by
    rw [← hW]
    exact setOf 2 _ (setOf 1 _ (setOf 0 _ (HH.out.2.2.1.fr HF2.out).o))
  have p0 := cellOf (o := 0) p rfl
  have p1 := cellOf (o := 1) p rfl
  have p2 := cellOf (o := 2) p rfl
  have hFW : Fr noB w W := by
    rw [← hW]
    exact (((HH.out.2.2.2.trans HF2.out).setCell ⟨w.heap.size + 1 + 1, 0, none⟩ (Or.inr (by show w.heap.size ≤ w.heap.size + 1 + 1; omega)) _).setCell ⟨w.heap.size + 1 + 1, 1, none⟩ (Or.inr (by show w.heap.size ≤ w.heap.size + 1 + 1; omega)) _).setCell ⟨w.heap.size + 1 + 1, 2, none⟩ (Or.inr (by show w.heap.size ≤ w.heap.size + 1 + 1; omega)) _
  try rw [hW]
  refine bodyPost_ret ?_ rfl ⟨rfl, hFW⟩
  simp [results, Tryd.results18, go_sem, p0, p1, p2]
set_option maxRecDepth 100000 in
set_option maxHeartbeats 2000000 in
theorem rcell_3goes (ao : Option Addr) (cap : Nat) (L : List ByteArray) (sh : ByteArray) (At N : Int) (nm : ByteArray) (s r c : Int) (w : World) (h : SsAt w ao L) (hl : L.length ≤ 140737488355328) (hsh : sh.size ≤ 140737488355328) (hnm : nm.size ≤ 140737488355328) (hL : ∀ x ∈ L, x.size ≤ 140737488355328) (hT : Tabs w) (hc : chkS L 3 sh At N nm = 0) (hi : inB L.length s r c = true) (hs : s = (fndN L sh : Int)) (hb : movB At N 1024 true c = false) :
    Calls Tryd.prog 18 #[.slice ao L.length cap, .agg #[.int .i64 3, .string sh, .int .i64 At, .int .i64 N, .string nm], .agg #[.int .i64 s, .int .i64 r, .int .i64 c]] w fun e w' => e = .returned (.tuple #[.agg #[.int .i64 0, .int .i64 0, .int .i64 0], .bool false]) ∧ Fr noB w w' := by
  have HC : Hid (∀ W, Fr noB w W → Calls Tryd.prog 13 #[.slice ao L.length cap, .agg #[.int .i64 3, .string sh, .int .i64 At, .int .i64 N, .string nm]] W fun e w' => e = .returned (.int .i64 (chkS L 3 sh At N nm)) ∧ Fr noB W w') := fun W hF => rck_all ao cap L 3 sh At N nm W (h.keep hF) hl hsh hnm hL (hT.keep hF)
  have HF : Hid (∀ W, Fr noB w W → Calls Tryd.prog 10 #[.slice ao L.length cap, .string sh] W fun e w' => e = .returned (.tuple #[.int .i64 (fndN L sh : Int), .bool (fndB L sh)]) ∧ Fr noB W w') := fun W hF => rfind_any ao cap L sh W (h.keep hF) hl hsh hL
  obtain ⟨W0, hW0⟩ : ∃ W0, ((w.alloc (.cells #[.int .i64 3, .string sh, .int .i64 At, .int .i64 N, .string nm] 24 (0, 0))).alloc (.cells #[.int .i64 s, .int .i64 r, .int .i64 c] 38 (0, 0))).alloc (.cells #[.int .i64 0, .int .i64 0, .int .i64 0] 38 (0, 0)) = W0 := ⟨_, rfl⟩
  have hX : XAt W0 w.heap.size 3 sh At N nm := by rw [← hW0]; exact ⟨old1 (old1 (heap_alloc_new w _))⟩
  have hA : AAt W0 (w.heap.size + 1) s r c := by rw [← hW0]; exact ⟨old1 (new1 _ _ _ (by simp))⟩
  have hO : AAt W0 (w.heap.size + 1 + 1) 0 0 0 := by rw [← hW0]; exact ⟨new1 _ _ _ (by simp)⟩
  have hF0 : Fr noB w W0 := by rw [← hW0]; exact (((Fr.refl noB w).alloc _).alloc _).alloc _
  have a0 := hX.c0; have a1 := hX.c1; have a2 := hX.c2; have a3 := hX.c3; have a4 := hX.c4
  have HH : Hid _ := And.intro hX (And.intro hA (And.intro hO hF0))
  have a5 := hA.c0; have a6 := hA.c1; have a7 := hA.c2
  rw [hc] at HC
  obtain ⟨i1, i2, i3, i4, i5, i6⟩ := in_iff hi
  have hs47 : s ≤ 140737488355328 := by omega
  have hs4 := chk_span hc (by omega)
  unfold limF at hs4
  rw [if_neg (by decide)] at hs4
  have HU : Hid (∀ w, Calls Tryd.prog 39 #[.int .i64 c, .int .i64 At, .int .i64 N, .int .i64 1024, .bool true] w fun e w' => e = .returned (.tuple #[.int .i64 (movI At N true c), .bool (movB At N 1024 true c)]) ∧ Fr noB w w') := fun w => rmoved_any At N 1024 true c w (by omega) (by omega) (by omega) (by omega) (by omega) (by omega)
  rw [hb] at HU
  clear hb
  rw [← hs] at HF
  have hne : (s != s) = false := by simp
  clear hs hs4
  clear hX hA hO hF0 h hl hsh hnm hL hT hc hi
  generalize (fndN L sh : Int) = k at *
  generalize fndB L sh = bs at *
  generalize L.length = l at *
  generalize movI At N true c = q at *
  go_enter Tryd.func18, Tryd.ntmps18
  go_wp2_with (first
    | (go_at_call 13; refine (HC.out _ HH.out.2.2.2).mono ?_; rintro e w1 ⟨rfl, hF1⟩; have gX := HH.out.1.fr hF1; have gx0 := gX.c0; have gx1 := gX.c1; have gx2 := gX.c2; have gx3 := gX.c3; have gx4 := gX.c4; have gA := HH.out.2.1.fr hF1; have ga0 := gA.c0; have ga1 := gA.c1; have ga2 := gA.c2; have gO := HH.out.2.2.1.fr hF1; have go0 := gO.c0; have go1 := gO.c1; have go2 := gO.c2; have gf0 := gO.f 0; have gf1 := gO.f 1; have gf2 := gO.f 2; have HF1 : Hid _ := hF1; clear hF1 gX gA gO)
    | (go_at_call 10; refine (HF.out _ (HH.out.2.2.2.trans HF1.out)).mono ?_; rintro e w2 ⟨rfl, hF2⟩; have hG2 := HF1.out.trans hF2; have kX := HH.out.1.fr hG2; have kx0 := kX.c0; have kx1 := kX.c1; have kx2 := kX.c2; have kx3 := kX.c3; have kx4 := kX.c4; have kA := HH.out.2.1.fr hG2; have ka0 := kA.c0; have ka1 := kA.c1; have ka2 := kA.c2; have kO := HH.out.2.2.1.fr hG2; have ko0 := kO.c0; have ko1 := kO.c1; have ko2 := kO.c2; have kf0 := kO.f 0; have kf1 := kO.f 1; have kf2 := kO.f 2; have kg0 := kA.f 0; have HF2 : Hid _ := hG2; clear hF2 hG2 kX kA kO)
    | (go_at_call 39; refine (HU.out _).mono ?_; rintro e w3 ⟨rfl, hF3⟩; have hG3 := HF2.out.trans hF3; have mX := HH.out.1.fr hG3; have mx0 := mX.c0; have mx1 := mX.c1; have mx2 := mX.c2; have mx3 := mX.c3; have mx4 := mX.c4; have mA := HH.out.2.1.fr hG3; have ma0 := mA.c0; have ma1 := mA.c1; have ma2 := mA.c2; have mO := HH.out.2.2.1.fr hG3; have mo0 := mO.c0; have mo1 := mO.c1; have mo2 := mO.c2; have mf0 := mO.f 0; have mf1 := mO.f 1; have mf2 := mO.f 2; have mg0 := mA.f 0; have mg1 := mA.f 1; have mg2 := mA.f 2; have HF3 : Hid _ := hG3; clear hF3 hG3 mX mA mO))
  obtain ⟨W, hW⟩ : ∃ W, ((((w3).setCell ⟨w.heap.size + 1, 2, none⟩ (.int .i64 q)).setCell ⟨w.heap.size + 1 + 1, 0, none⟩ (.int .i64 0)).setCell ⟨w.heap.size + 1 + 1, 1, none⟩ (.int .i64 0)).setCell ⟨w.heap.size + 1 + 1, 2, none⟩ (.int .i64 0) = W := ⟨_, rfl⟩
  have p : W.heap[w.heap.size + 1 + 1]? = some (.cells #[.int .i64 0, .int .i64 0, .int .i64 0] 38 (0, 0)) := by
    rw [← hW]
    exact setOf 2 _ (setOf 1 _ (setOf 0 _ ((Below.heap_setCell _ _ _ _ (by show w.heap.size + 1 + 1 ≠ w.heap.size + 1; omega)).trans (HH.out.2.2.1.fr HF3.out).o)))
  have p0 := cellOf (o := 0) p rfl
  have p1 := cellOf (o := 1) p rfl
  have p2 := cellOf (o := 2) p rfl
  have hFW : Fr noB w W := by
    rw [← hW]
    exact ((((HH.out.2.2.2.trans HF3.out).setCell ⟨w.heap.size + 1, 2, none⟩ (Or.inr (Nat.le_succ _)) _).setCell ⟨w.heap.size + 1 + 1, 0, none⟩ (Or.inr (by show w.heap.size ≤ w.heap.size + 1 + 1; omega)) _).setCell ⟨w.heap.size + 1 + 1, 1, none⟩ (Or.inr (by show w.heap.size ≤ w.heap.size + 1 + 1; omega)) _).setCell ⟨w.heap.size + 1 + 1, 2, none⟩ (Or.inr (by show w.heap.size ≤ w.heap.size + 1 + 1; omega)) _
  try rw [hW]
  refine bodyPost_ret ?_ rfl ⟨rfl, hFW⟩
  simp [results, Tryd.results18, go_sem, p0, p1, p2]
set_option maxRecDepth 100000 in
set_option maxHeartbeats 2000000 in
theorem rcell_3on (ao : Option Addr) (cap : Nat) (L : List ByteArray) (sh : ByteArray) (At N : Int) (nm : ByteArray) (s r c : Int) (w : World) (h : SsAt w ao L) (hl : L.length ≤ 140737488355328) (hsh : sh.size ≤ 140737488355328) (hnm : nm.size ≤ 140737488355328) (hL : ∀ x ∈ L, x.size ≤ 140737488355328) (hT : Tabs w) (hc : chkS L 3 sh At N nm = 0) (hi : inB L.length s r c = true) (hs : s = (fndN L sh : Int)) (hb : movB At N 1024 true c = true) :
    Calls Tryd.prog 18 #[.slice ao L.length cap, .agg #[.int .i64 3, .string sh, .int .i64 At, .int .i64 N, .string nm], .agg #[.int .i64 s, .int .i64 r, .int .i64 c]] w fun e w' => e = .returned (.tuple #[.agg #[.int .i64 (s), .int .i64 (r), .int .i64 (movI At N true c)], .bool true]) ∧ Fr noB w w' := by
  have HC : Hid (∀ W, Fr noB w W → Calls Tryd.prog 13 #[.slice ao L.length cap, .agg #[.int .i64 3, .string sh, .int .i64 At, .int .i64 N, .string nm]] W fun e w' => e = .returned (.int .i64 (chkS L 3 sh At N nm)) ∧ Fr noB W w') := fun W hF => rck_all ao cap L 3 sh At N nm W (h.keep hF) hl hsh hnm hL (hT.keep hF)
  have HF : Hid (∀ W, Fr noB w W → Calls Tryd.prog 10 #[.slice ao L.length cap, .string sh] W fun e w' => e = .returned (.tuple #[.int .i64 (fndN L sh : Int), .bool (fndB L sh)]) ∧ Fr noB W w') := fun W hF => rfind_any ao cap L sh W (h.keep hF) hl hsh hL
  obtain ⟨W0, hW0⟩ : ∃ W0, ((w.alloc (.cells #[.int .i64 3, .string sh, .int .i64 At, .int .i64 N, .string nm] 24 (0, 0))).alloc (.cells #[.int .i64 s, .int .i64 r, .int .i64 c] 38 (0, 0))).alloc (.cells #[.int .i64 0, .int .i64 0, .int .i64 0] 38 (0, 0)) = W0 := ⟨_, rfl⟩
  have hX : XAt W0 w.heap.size 3 sh At N nm := by rw [← hW0]; exact ⟨old1 (old1 (heap_alloc_new w _))⟩
  have hA : AAt W0 (w.heap.size + 1) s r c := by rw [← hW0]; exact ⟨old1 (new1 _ _ _ (by simp))⟩
  have hO : AAt W0 (w.heap.size + 1 + 1) 0 0 0 := by rw [← hW0]; exact ⟨new1 _ _ _ (by simp)⟩
  have hF0 : Fr noB w W0 := by rw [← hW0]; exact (((Fr.refl noB w).alloc _).alloc _).alloc _
  have a0 := hX.c0; have a1 := hX.c1; have a2 := hX.c2; have a3 := hX.c3; have a4 := hX.c4
  have HH : Hid _ := And.intro hX (And.intro hA (And.intro hO hF0))
  have a5 := hA.c0; have a6 := hA.c1; have a7 := hA.c2
  rw [hc] at HC
  obtain ⟨i1, i2, i3, i4, i5, i6⟩ := in_iff hi
  have hs47 : s ≤ 140737488355328 := by omega
  have hs4 := chk_span hc (by omega)
  unfold limF at hs4
  rw [if_neg (by decide)] at hs4
  have HU : Hid (∀ w, Calls Tryd.prog 39 #[.int .i64 c, .int .i64 At, .int .i64 N, .int .i64 1024, .bool true] w fun e w' => e = .returned (.tuple #[.int .i64 (movI At N true c), .bool (movB At N 1024 true c)]) ∧ Fr noB w w') := fun w => rmoved_any At N 1024 true c w (by omega) (by omega) (by omega) (by omega) (by omega) (by omega)
  rw [hb] at HU
  clear hb
  rw [← hs] at HF
  have hne : (s != s) = false := by simp
  clear hs hs4
  clear hX hA hO hF0 h hl hsh hnm hL hT hc hi
  generalize (fndN L sh : Int) = k at *
  generalize fndB L sh = bs at *
  generalize L.length = l at *
  generalize movI At N true c = q at *
  go_enter Tryd.func18, Tryd.ntmps18
  go_wp2_with (first
    | (go_at_call 13; refine (HC.out _ HH.out.2.2.2).mono ?_; rintro e w1 ⟨rfl, hF1⟩; have gX := HH.out.1.fr hF1; have gx0 := gX.c0; have gx1 := gX.c1; have gx2 := gX.c2; have gx3 := gX.c3; have gx4 := gX.c4; have gA := HH.out.2.1.fr hF1; have ga0 := gA.c0; have ga1 := gA.c1; have ga2 := gA.c2; have gO := HH.out.2.2.1.fr hF1; have go0 := gO.c0; have go1 := gO.c1; have go2 := gO.c2; have gf0 := gO.f 0; have gf1 := gO.f 1; have gf2 := gO.f 2; have HF1 : Hid _ := hF1; clear hF1 gX gA gO)
    | (go_at_call 10; refine (HF.out _ (HH.out.2.2.2.trans HF1.out)).mono ?_; rintro e w2 ⟨rfl, hF2⟩; have hG2 := HF1.out.trans hF2; have kX := HH.out.1.fr hG2; have kx0 := kX.c0; have kx1 := kX.c1; have kx2 := kX.c2; have kx3 := kX.c3; have kx4 := kX.c4; have kA := HH.out.2.1.fr hG2; have ka0 := kA.c0; have ka1 := kA.c1; have ka2 := kA.c2; have kO := HH.out.2.2.1.fr hG2; have ko0 := kO.c0; have ko1 := kO.c1; have ko2 := kO.c2; have kf0 := kO.f 0; have kf1 := kO.f 1; have kf2 := kO.f 2; have kg0 := kA.f 0; have HF2 : Hid _ := hG2; clear hF2 hG2 kX kA kO)
    | (go_at_call 39; refine (HU.out _).mono ?_; rintro e w3 ⟨rfl, hF3⟩; have hG3 := HF2.out.trans hF3; have mX := HH.out.1.fr hG3; have mx0 := mX.c0; have mx1 := mX.c1; have mx2 := mX.c2; have mx3 := mX.c3; have mx4 := mX.c4; have mA := HH.out.2.1.fr hG3; have ma0 := mA.c0; have ma1 := mA.c1; have ma2 := mA.c2; have mO := HH.out.2.2.1.fr hG3; have mo0 := mO.c0; have mo1 := mO.c1; have mo2 := mO.c2; have mf0 := mO.f 0; have mf1 := mO.f 1; have mf2 := mO.f 2; have mg0 := mA.f 0; have mg1 := mA.f 1; have mg2 := mA.f 2; have HF3 : Hid _ := hG3; clear hF3 hG3 mX mA mO))
  obtain ⟨W, hW⟩ : ∃ W, ((((w3).setCell ⟨w.heap.size + 1, 2, none⟩ (.int .i64 q)).setCell ⟨w.heap.size + 1 + 1, 0, none⟩ (.int .i64 s)).setCell ⟨w.heap.size + 1 + 1, 1, none⟩ (.int .i64 r)).setCell ⟨w.heap.size + 1 + 1, 2, none⟩ (.int .i64 q) = W := ⟨_, rfl⟩
  have p : W.heap[w.heap.size + 1 + 1]? = some (.cells #[.int .i64 s, .int .i64 r, .int .i64 q] 38 (0, 0)) := by
    rw [← hW]
    exact setOf 2 _ (setOf 1 _ (setOf 0 _ ((Below.heap_setCell _ _ _ _ (by show w.heap.size + 1 + 1 ≠ w.heap.size + 1; omega)).trans (HH.out.2.2.1.fr HF3.out).o)))
  have p0 := cellOf (o := 0) p rfl
  have p1 := cellOf (o := 1) p rfl
  have p2 := cellOf (o := 2) p rfl
  have hFW : Fr noB w W := by
    rw [← hW]
    exact ((((HH.out.2.2.2.trans HF3.out).setCell ⟨w.heap.size + 1, 2, none⟩ (Or.inr (Nat.le_succ _)) _).setCell ⟨w.heap.size + 1 + 1, 0, none⟩ (Or.inr (by show w.heap.size ≤ w.heap.size + 1 + 1; omega)) _).setCell ⟨w.heap.size + 1 + 1, 1, none⟩ (Or.inr (by show w.heap.size ≤ w.heap.size + 1 + 1; omega)) _).setCell ⟨w.heap.size + 1 + 1, 2, none⟩ (Or.inr (by show w.heap.size ≤ w.heap.size + 1 + 1; omega)) _
  try rw [hW]
  refine bodyPost_ret ?_ rfl ⟨rfl, hFW⟩
  simp [results, Tryd.results18, go_sem, p0, p1, p2]
set_option maxRecDepth 100000 in
set_option maxHeartbeats 2000000 in
theorem rcell_4off (ao : Option Addr) (cap : Nat) (L : List ByteArray) (sh : ByteArray) (At N : Int) (nm : ByteArray) (s r c : Int) (w : World) (h : SsAt w ao L) (hl : L.length ≤ 140737488355328) (hsh : sh.size ≤ 140737488355328) (hnm : nm.size ≤ 140737488355328) (hL : ∀ x ∈ L, x.size ≤ 140737488355328) (hT : Tabs w) (hc : chkS L 4 sh At N nm = 0) (hi : inB L.length s r c = true) (hs : ¬ s = (fndN L sh : Int)) :
    Calls Tryd.prog 18 #[.slice ao L.length cap, .agg #[.int .i64 4, .string sh, .int .i64 At, .int .i64 N, .string nm], .agg #[.int .i64 s, .int .i64 r, .int .i64 c]] w fun e w' => e = .returned (.tuple #[.agg #[.int .i64 (s), .int .i64 (r), .int .i64 (c)], .bool true]) ∧ Fr noB w w' := by
  have HC : Hid (∀ W, Fr noB w W → Calls Tryd.prog 13 #[.slice ao L.length cap, .agg #[.int .i64 4, .string sh, .int .i64 At, .int .i64 N, .string nm]] W fun e w' => e = .returned (.int .i64 (chkS L 4 sh At N nm)) ∧ Fr noB W w') := fun W hF => rck_all ao cap L 4 sh At N nm W (h.keep hF) hl hsh hnm hL (hT.keep hF)
  have HF : Hid (∀ W, Fr noB w W → Calls Tryd.prog 10 #[.slice ao L.length cap, .string sh] W fun e w' => e = .returned (.tuple #[.int .i64 (fndN L sh : Int), .bool (fndB L sh)]) ∧ Fr noB W w') := fun W hF => rfind_any ao cap L sh W (h.keep hF) hl hsh hL
  obtain ⟨W0, hW0⟩ : ∃ W0, ((w.alloc (.cells #[.int .i64 4, .string sh, .int .i64 At, .int .i64 N, .string nm] 24 (0, 0))).alloc (.cells #[.int .i64 s, .int .i64 r, .int .i64 c] 38 (0, 0))).alloc (.cells #[.int .i64 0, .int .i64 0, .int .i64 0] 38 (0, 0)) = W0 := ⟨_, rfl⟩
  have hX : XAt W0 w.heap.size 4 sh At N nm := by rw [← hW0]; exact ⟨old1 (old1 (heap_alloc_new w _))⟩
  have hA : AAt W0 (w.heap.size + 1) s r c := by rw [← hW0]; exact ⟨old1 (new1 _ _ _ (by simp))⟩
  have hO : AAt W0 (w.heap.size + 1 + 1) 0 0 0 := by rw [← hW0]; exact ⟨new1 _ _ _ (by simp)⟩
  have hF0 : Fr noB w W0 := by rw [← hW0]; exact (((Fr.refl noB w).alloc _).alloc _).alloc _
  have a0 := hX.c0; have a1 := hX.c1; have a2 := hX.c2; have a3 := hX.c3; have a4 := hX.c4
  have HH : Hid _ := And.intro hX (And.intro hA (And.intro hO hF0))
  have a5 := hA.c0; have a6 := hA.c1; have a7 := hA.c2
  rw [hc] at HC
  obtain ⟨i1, i2, i3, i4, i5, i6⟩ := in_iff hi
  have hs47 : s ≤ 140737488355328 := by omega
  clear hX hA hO hF0 h hl hsh hnm hL hT hc hi
  generalize (fndN L sh : Int) = k at *
  generalize fndB L sh = bs at *
  generalize L.length = l at *
  have hne : (s != k) = true := by simpa using hs
  clear hs
  go_enter Tryd.func18, Tryd.ntmps18
  go_wp2_with (first
    | (go_at_call 13; refine (HC.out _ HH.out.2.2.2).mono ?_; rintro e w1 ⟨rfl, hF1⟩; have gX := HH.out.1.fr hF1; have gx0 := gX.c0; have gx1 := gX.c1; have gx2 := gX.c2; have gx3 := gX.c3; have gx4 := gX.c4; have gA := HH.out.2.1.fr hF1; have ga0 := gA.c0; have ga1 := gA.c1; have ga2 := gA.c2; have gO := HH.out.2.2.1.fr hF1; have go0 := gO.c0; have go1 := gO.c1; have go2 := gO.c2; have gf0 := gO.f 0; have gf1 := gO.f 1; have gf2 := gO.f 2; have HF1 : Hid _ := hF1; clear hF1 gX gA gO)
    | (go_at_call 10; refine (HF.out _ (HH.out.2.2.2.trans HF1.out)).mono ?_; rintro e w2 ⟨rfl, hF2⟩; have hG2 := HF1.out.trans hF2; have kX := HH.out.1.fr hG2; have kx0 := kX.c0; have kx1 := kX.c1; have kx2 := kX.c2; have kx3 := kX.c3; have kx4 := kX.c4; have kA := HH.out.2.1.fr hG2; have ka0 := kA.c0; have ka1 := kA.c1; have ka2 := kA.c2; have kO := HH.out.2.2.1.fr hG2; have ko0 := kO.c0; have ko1 := kO.c1; have ko2 := kO.c2; have kf0 := kO.f 0; have kf1 := kO.f 1; have kf2 := kO.f 2; have kg0 := kA.f 0; have HF2 : Hid _ := hG2; clear hF2 hG2 kX kA kO))
  obtain ⟨W, hW⟩ : ∃ W, (((w2).setCell ⟨w.heap.size + 1 + 1, 0, none⟩ (.int .i64 s)).setCell ⟨w.heap.size + 1 + 1, 1, none⟩ (.int .i64 r)).setCell ⟨w.heap.size + 1 + 1, 2, none⟩ (.int .i64 c) = W := ⟨_, rfl⟩
  have p : W.heap[w.heap.size + 1 + 1]? = some (.cells #[.int .i64 s, .int .i64 r, .int .i64 c] 38 (0, 0)) := by
    rw [← hW]
    exact setOf 2 _ (setOf 1 _ (setOf 0 _ (HH.out.2.2.1.fr HF2.out).o))
  have p0 := cellOf (o := 0) p rfl
  have p1 := cellOf (o := 1) p rfl
  have p2 := cellOf (o := 2) p rfl
  have hFW : Fr noB w W := by
    rw [← hW]
    exact (((HH.out.2.2.2.trans HF2.out).setCell ⟨w.heap.size + 1 + 1, 0, none⟩ (Or.inr (by show w.heap.size ≤ w.heap.size + 1 + 1; omega)) _).setCell ⟨w.heap.size + 1 + 1, 1, none⟩ (Or.inr (by show w.heap.size ≤ w.heap.size + 1 + 1; omega)) _).setCell ⟨w.heap.size + 1 + 1, 2, none⟩ (Or.inr (by show w.heap.size ≤ w.heap.size + 1 + 1; omega)) _
  try rw [hW]
  refine bodyPost_ret ?_ rfl ⟨rfl, hFW⟩
  simp [results, Tryd.results18, go_sem, p0, p1, p2]
set_option maxRecDepth 100000 in
set_option maxHeartbeats 2000000 in
theorem rcell_4goes (ao : Option Addr) (cap : Nat) (L : List ByteArray) (sh : ByteArray) (At N : Int) (nm : ByteArray) (s r c : Int) (w : World) (h : SsAt w ao L) (hl : L.length ≤ 140737488355328) (hsh : sh.size ≤ 140737488355328) (hnm : nm.size ≤ 140737488355328) (hL : ∀ x ∈ L, x.size ≤ 140737488355328) (hT : Tabs w) (hc : chkS L 4 sh At N nm = 0) (hi : inB L.length s r c = true) (hs : s = (fndN L sh : Int)) (hb : movB At N 1024 false c = false) :
    Calls Tryd.prog 18 #[.slice ao L.length cap, .agg #[.int .i64 4, .string sh, .int .i64 At, .int .i64 N, .string nm], .agg #[.int .i64 s, .int .i64 r, .int .i64 c]] w fun e w' => e = .returned (.tuple #[.agg #[.int .i64 0, .int .i64 0, .int .i64 0], .bool false]) ∧ Fr noB w w' := by
  have HC : Hid (∀ W, Fr noB w W → Calls Tryd.prog 13 #[.slice ao L.length cap, .agg #[.int .i64 4, .string sh, .int .i64 At, .int .i64 N, .string nm]] W fun e w' => e = .returned (.int .i64 (chkS L 4 sh At N nm)) ∧ Fr noB W w') := fun W hF => rck_all ao cap L 4 sh At N nm W (h.keep hF) hl hsh hnm hL (hT.keep hF)
  have HF : Hid (∀ W, Fr noB w W → Calls Tryd.prog 10 #[.slice ao L.length cap, .string sh] W fun e w' => e = .returned (.tuple #[.int .i64 (fndN L sh : Int), .bool (fndB L sh)]) ∧ Fr noB W w') := fun W hF => rfind_any ao cap L sh W (h.keep hF) hl hsh hL
  obtain ⟨W0, hW0⟩ : ∃ W0, ((w.alloc (.cells #[.int .i64 4, .string sh, .int .i64 At, .int .i64 N, .string nm] 24 (0, 0))).alloc (.cells #[.int .i64 s, .int .i64 r, .int .i64 c] 38 (0, 0))).alloc (.cells #[.int .i64 0, .int .i64 0, .int .i64 0] 38 (0, 0)) = W0 := ⟨_, rfl⟩
  have hX : XAt W0 w.heap.size 4 sh At N nm := by rw [← hW0]; exact ⟨old1 (old1 (heap_alloc_new w _))⟩
  have hA : AAt W0 (w.heap.size + 1) s r c := by rw [← hW0]; exact ⟨old1 (new1 _ _ _ (by simp))⟩
  have hO : AAt W0 (w.heap.size + 1 + 1) 0 0 0 := by rw [← hW0]; exact ⟨new1 _ _ _ (by simp)⟩
  have hF0 : Fr noB w W0 := by rw [← hW0]; exact (((Fr.refl noB w).alloc _).alloc _).alloc _
  have a0 := hX.c0; have a1 := hX.c1; have a2 := hX.c2; have a3 := hX.c3; have a4 := hX.c4
  have HH : Hid _ := And.intro hX (And.intro hA (And.intro hO hF0))
  have a5 := hA.c0; have a6 := hA.c1; have a7 := hA.c2
  rw [hc] at HC
  obtain ⟨i1, i2, i3, i4, i5, i6⟩ := in_iff hi
  have hs47 : s ≤ 140737488355328 := by omega
  have hs4 := chk_span hc (by omega)
  unfold limF at hs4
  rw [if_neg (by decide)] at hs4
  have HU : Hid (∀ w, Calls Tryd.prog 39 #[.int .i64 c, .int .i64 At, .int .i64 N, .int .i64 1024, .bool false] w fun e w' => e = .returned (.tuple #[.int .i64 (movI At N false c), .bool (movB At N 1024 false c)]) ∧ Fr noB w w') := fun w => rmoved_any At N 1024 false c w (by omega) (by omega) (by omega) (by omega) (by omega) (by omega)
  rw [hb] at HU
  clear hb
  rw [← hs] at HF
  have hne : (s != s) = false := by simp
  clear hs hs4
  clear hX hA hO hF0 h hl hsh hnm hL hT hc hi
  generalize (fndN L sh : Int) = k at *
  generalize fndB L sh = bs at *
  generalize L.length = l at *
  generalize movI At N false c = q at *
  go_enter Tryd.func18, Tryd.ntmps18
  go_wp2_with (first
    | (go_at_call 13; refine (HC.out _ HH.out.2.2.2).mono ?_; rintro e w1 ⟨rfl, hF1⟩; have gX := HH.out.1.fr hF1; have gx0 := gX.c0; have gx1 := gX.c1; have gx2 := gX.c2; have gx3 := gX.c3; have gx4 := gX.c4; have gA := HH.out.2.1.fr hF1; have ga0 := gA.c0; have ga1 := gA.c1; have ga2 := gA.c2; have gO := HH.out.2.2.1.fr hF1; have go0 := gO.c0; have go1 := gO.c1; have go2 := gO.c2; have gf0 := gO.f 0; have gf1 := gO.f 1; have gf2 := gO.f 2; have HF1 : Hid _ := hF1; clear hF1 gX gA gO)
    | (go_at_call 10; refine (HF.out _ (HH.out.2.2.2.trans HF1.out)).mono ?_; rintro e w2 ⟨rfl, hF2⟩; have hG2 := HF1.out.trans hF2; have kX := HH.out.1.fr hG2; have kx0 := kX.c0; have kx1 := kX.c1; have kx2 := kX.c2; have kx3 := kX.c3; have kx4 := kX.c4; have kA := HH.out.2.1.fr hG2; have ka0 := kA.c0; have ka1 := kA.c1; have ka2 := kA.c2; have kO := HH.out.2.2.1.fr hG2; have ko0 := kO.c0; have ko1 := kO.c1; have ko2 := kO.c2; have kf0 := kO.f 0; have kf1 := kO.f 1; have kf2 := kO.f 2; have kg0 := kA.f 0; have HF2 : Hid _ := hG2; clear hF2 hG2 kX kA kO)
    | (go_at_call 39; refine (HU.out _).mono ?_; rintro e w3 ⟨rfl, hF3⟩; have hG3 := HF2.out.trans hF3; have mX := HH.out.1.fr hG3; have mx0 := mX.c0; have mx1 := mX.c1; have mx2 := mX.c2; have mx3 := mX.c3; have mx4 := mX.c4; have mA := HH.out.2.1.fr hG3; have ma0 := mA.c0; have ma1 := mA.c1; have ma2 := mA.c2; have mO := HH.out.2.2.1.fr hG3; have mo0 := mO.c0; have mo1 := mO.c1; have mo2 := mO.c2; have mf0 := mO.f 0; have mf1 := mO.f 1; have mf2 := mO.f 2; have mg0 := mA.f 0; have mg1 := mA.f 1; have mg2 := mA.f 2; have HF3 : Hid _ := hG3; clear hF3 hG3 mX mA mO))
  obtain ⟨W, hW⟩ : ∃ W, ((((w3).setCell ⟨w.heap.size + 1, 2, none⟩ (.int .i64 q)).setCell ⟨w.heap.size + 1 + 1, 0, none⟩ (.int .i64 0)).setCell ⟨w.heap.size + 1 + 1, 1, none⟩ (.int .i64 0)).setCell ⟨w.heap.size + 1 + 1, 2, none⟩ (.int .i64 0) = W := ⟨_, rfl⟩
  have p : W.heap[w.heap.size + 1 + 1]? = some (.cells #[.int .i64 0, .int .i64 0, .int .i64 0] 38 (0, 0)) := by
    rw [← hW]
    exact setOf 2 _ (setOf 1 _ (setOf 0 _ ((Below.heap_setCell _ _ _ _ (by show w.heap.size + 1 + 1 ≠ w.heap.size + 1; omega)).trans (HH.out.2.2.1.fr HF3.out).o)))
  have p0 := cellOf (o := 0) p rfl
  have p1 := cellOf (o := 1) p rfl
  have p2 := cellOf (o := 2) p rfl
  have hFW : Fr noB w W := by
    rw [← hW]
    exact ((((HH.out.2.2.2.trans HF3.out).setCell ⟨w.heap.size + 1, 2, none⟩ (Or.inr (Nat.le_succ _)) _).setCell ⟨w.heap.size + 1 + 1, 0, none⟩ (Or.inr (by show w.heap.size ≤ w.heap.size + 1 + 1; omega)) _).setCell ⟨w.heap.size + 1 + 1, 1, none⟩ (Or.inr (by show w.heap.size ≤ w.heap.size + 1 + 1; omega)) _).setCell ⟨w.heap.size + 1 + 1, 2, none⟩ (Or.inr (by show w.heap.size ≤ w.heap.size + 1 + 1; omega)) _
  try rw [hW]
  refine bodyPost_ret ?_ rfl ⟨rfl, hFW⟩
  simp [results, Tryd.results18, go_sem, p0, p1, p2]
set_option maxRecDepth 100000 in
set_option maxHeartbeats 2000000 in
theorem rcell_4on (ao : Option Addr) (cap : Nat) (L : List ByteArray) (sh : ByteArray) (At N : Int) (nm : ByteArray) (s r c : Int) (w : World) (h : SsAt w ao L) (hl : L.length ≤ 140737488355328) (hsh : sh.size ≤ 140737488355328) (hnm : nm.size ≤ 140737488355328) (hL : ∀ x ∈ L, x.size ≤ 140737488355328) (hT : Tabs w) (hc : chkS L 4 sh At N nm = 0) (hi : inB L.length s r c = true) (hs : s = (fndN L sh : Int)) (hb : movB At N 1024 false c = true) :
    Calls Tryd.prog 18 #[.slice ao L.length cap, .agg #[.int .i64 4, .string sh, .int .i64 At, .int .i64 N, .string nm], .agg #[.int .i64 s, .int .i64 r, .int .i64 c]] w fun e w' => e = .returned (.tuple #[.agg #[.int .i64 (s), .int .i64 (r), .int .i64 (movI At N false c)], .bool true]) ∧ Fr noB w w' := by
  have HC : Hid (∀ W, Fr noB w W → Calls Tryd.prog 13 #[.slice ao L.length cap, .agg #[.int .i64 4, .string sh, .int .i64 At, .int .i64 N, .string nm]] W fun e w' => e = .returned (.int .i64 (chkS L 4 sh At N nm)) ∧ Fr noB W w') := fun W hF => rck_all ao cap L 4 sh At N nm W (h.keep hF) hl hsh hnm hL (hT.keep hF)
  have HF : Hid (∀ W, Fr noB w W → Calls Tryd.prog 10 #[.slice ao L.length cap, .string sh] W fun e w' => e = .returned (.tuple #[.int .i64 (fndN L sh : Int), .bool (fndB L sh)]) ∧ Fr noB W w') := fun W hF => rfind_any ao cap L sh W (h.keep hF) hl hsh hL
  obtain ⟨W0, hW0⟩ : ∃ W0, ((w.alloc (.cells #[.int .i64 4, .string sh, .int .i64 At, .int .i64 N, .string nm] 24 (0, 0))).alloc (.cells #[.int .i64 s, .int .i64 r, .int .i64 c] 38 (0, 0))).alloc (.cells #[.int .i64 0, .int .i64 0, .int .i64 0] 38 (0, 0)) = W0 := ⟨_, rfl⟩
  have hX : XAt W0 w.heap.size 4 sh At N nm := by rw [← hW0]; exact ⟨old1 (old1 (heap_alloc_new w _))⟩
  have hA : AAt W0 (w.heap.size + 1) s r c := by rw [← hW0]; exact ⟨old1 (new1 _ _ _ (by simp))⟩
  have hO : AAt W0 (w.heap.size + 1 + 1) 0 0 0 := by rw [← hW0]; exact ⟨new1 _ _ _ (by simp)⟩
  have hF0 : Fr noB w W0 := by rw [← hW0]; exact (((Fr.refl noB w).alloc _).alloc _).alloc _
  have a0 := hX.c0; have a1 := hX.c1; have a2 := hX.c2; have a3 := hX.c3; have a4 := hX.c4
  have HH : Hid _ := And.intro hX (And.intro hA (And.intro hO hF0))
  have a5 := hA.c0; have a6 := hA.c1; have a7 := hA.c2
  rw [hc] at HC
  obtain ⟨i1, i2, i3, i4, i5, i6⟩ := in_iff hi
  have hs47 : s ≤ 140737488355328 := by omega
  have hs4 := chk_span hc (by omega)
  unfold limF at hs4
  rw [if_neg (by decide)] at hs4
  have HU : Hid (∀ w, Calls Tryd.prog 39 #[.int .i64 c, .int .i64 At, .int .i64 N, .int .i64 1024, .bool false] w fun e w' => e = .returned (.tuple #[.int .i64 (movI At N false c), .bool (movB At N 1024 false c)]) ∧ Fr noB w w') := fun w => rmoved_any At N 1024 false c w (by omega) (by omega) (by omega) (by omega) (by omega) (by omega)
  rw [hb] at HU
  clear hb
  rw [← hs] at HF
  have hne : (s != s) = false := by simp
  clear hs hs4
  clear hX hA hO hF0 h hl hsh hnm hL hT hc hi
  generalize (fndN L sh : Int) = k at *
  generalize fndB L sh = bs at *
  generalize L.length = l at *
  generalize movI At N false c = q at *
  go_enter Tryd.func18, Tryd.ntmps18
  go_wp2_with (first
    | (go_at_call 13; refine (HC.out _ HH.out.2.2.2).mono ?_; rintro e w1 ⟨rfl, hF1⟩; have gX := HH.out.1.fr hF1; have gx0 := gX.c0; have gx1 := gX.c1; have gx2 := gX.c2; have gx3 := gX.c3; have gx4 := gX.c4; have gA := HH.out.2.1.fr hF1; have ga0 := gA.c0; have ga1 := gA.c1; have ga2 := gA.c2; have gO := HH.out.2.2.1.fr hF1; have go0 := gO.c0; have go1 := gO.c1; have go2 := gO.c2; have gf0 := gO.f 0; have gf1 := gO.f 1; have gf2 := gO.f 2; have HF1 : Hid _ := hF1; clear hF1 gX gA gO)
    | (go_at_call 10; refine (HF.out _ (HH.out.2.2.2.trans HF1.out)).mono ?_; rintro e w2 ⟨rfl, hF2⟩; have hG2 := HF1.out.trans hF2; have kX := HH.out.1.fr hG2; have kx0 := kX.c0; have kx1 := kX.c1; have kx2 := kX.c2; have kx3 := kX.c3; have kx4 := kX.c4; have kA := HH.out.2.1.fr hG2; have ka0 := kA.c0; have ka1 := kA.c1; have ka2 := kA.c2; have kO := HH.out.2.2.1.fr hG2; have ko0 := kO.c0; have ko1 := kO.c1; have ko2 := kO.c2; have kf0 := kO.f 0; have kf1 := kO.f 1; have kf2 := kO.f 2; have kg0 := kA.f 0; have HF2 : Hid _ := hG2; clear hF2 hG2 kX kA kO)
    | (go_at_call 39; refine (HU.out _).mono ?_; rintro e w3 ⟨rfl, hF3⟩; have hG3 := HF2.out.trans hF3; have mX := HH.out.1.fr hG3; have mx0 := mX.c0; have mx1 := mX.c1; have mx2 := mX.c2; have mx3 := mX.c3; have mx4 := mX.c4; have mA := HH.out.2.1.fr hG3; have ma0 := mA.c0; have ma1 := mA.c1; have ma2 := mA.c2; have mO := HH.out.2.2.1.fr hG3; have mo0 := mO.c0; have mo1 := mO.c1; have mo2 := mO.c2; have mf0 := mO.f 0; have mf1 := mO.f 1; have mf2 := mO.f 2; have mg0 := mA.f 0; have mg1 := mA.f 1; have mg2 := mA.f 2; have HF3 : Hid _ := hG3; clear hF3 hG3 mX mA mO))
  obtain ⟨W, hW⟩ : ∃ W, ((((w3).setCell ⟨w.heap.size + 1, 2, none⟩ (.int .i64 q)).setCell ⟨w.heap.size + 1 + 1, 0, none⟩ (.int .i64 s)).setCell ⟨w.heap.size + 1 + 1, 1, none⟩ (.int .i64 r)).setCell ⟨w.heap.size + 1 + 1, 2, none⟩ (.int .i64 q) = W := ⟨_, rfl⟩
  have p : W.heap[w.heap.size + 1 + 1]? = some (.cells #[.int .i64 s, .int .i64 r, .int .i64 q] 38 (0, 0)) := by
    rw [← hW]
    exact setOf 2 _ (setOf 1 _ (setOf 0 _ ((Below.heap_setCell _ _ _ _ (by show w.heap.size + 1 + 1 ≠ w.heap.size + 1; omega)).trans (HH.out.2.2.1.fr HF3.out).o)))
  have p0 := cellOf (o := 0) p rfl
  have p1 := cellOf (o := 1) p rfl
  have p2 := cellOf (o := 2) p rfl
  have hFW : Fr noB w W := by
    rw [← hW]
    exact ((((HH.out.2.2.2.trans HF3.out).setCell ⟨w.heap.size + 1, 2, none⟩ (Or.inr (Nat.le_succ _)) _).setCell ⟨w.heap.size + 1 + 1, 0, none⟩ (Or.inr (by show w.heap.size ≤ w.heap.size + 1 + 1; omega)) _).setCell ⟨w.heap.size + 1 + 1, 1, none⟩ (Or.inr (by show w.heap.size ≤ w.heap.size + 1 + 1; omega)) _).setCell ⟨w.heap.size + 1 + 1, 2, none⟩ (Or.inr (by show w.heap.size ≤ w.heap.size + 1 + 1; omega)) _
  try rw [hW]
  refine bodyPost_ret ?_ rfl ⟨rfl, hFW⟩
  simp [results, Tryd.results18, go_sem, p0, p1, p2]
/-- Cell of the document. -/
theorem rcell_any (ao : Option Addr) (cap : Nat) (L : List ByteArray) (K : Int) (sh : ByteArray) (At N : Int) (nm : ByteArray) (s r c : Int) (w : World) (h : SsAt w ao L) (hl : L.length ≤ 140737488355328) (hsh : sh.size ≤ 140737488355328) (hnm : nm.size ≤ 140737488355328) (hL : ∀ x ∈ L, x.size ≤ 140737488355328) (hT : Tabs w) :
    Calls Tryd.prog 18 #[.slice ao L.length cap, .agg #[.int .i64 K, .string sh, .int .i64 At, .int .i64 N, .string nm], .agg #[.int .i64 s, .int .i64 r, .int .i64 c]] w fun e w' => e = .returned (celV L K sh At N nm s r c) ∧ Fr noB w w' := by
  unfold celV remB
  by_cases hc : chkS L K sh At N nm = 0
  case neg =>
    rw [decide_eq_false hc, if_neg (by simp)]
    exact rcell_no ao cap L K sh At N nm s r c w h hl hsh hnm hL hT hc
  rw [decide_eq_true hc, Bool.true_and]
  cases hi : inB L.length s r c with
  | false => rw [Bool.false_and, if_neg (by simp)]; exact rcell_not ao cap L K sh At N nm s r c w h hl hsh hnm hL hT hc hi
  | true =>
    rw [Bool.true_and]
    have hk := chk_kind hc
    have e : K = 1 ∨ K = 2 ∨ K = 3 ∨ K = 4 ∨ K = 5 ∨ K = 6 ∨ K = 7 ∨ K = 8 := by omega
    rcases e with rfl | rfl | rfl | rfl | rfl | rfl | rfl | rfl
    · by_cases hsk : s = (fndN L sh : Int)
      · have e1 : ceS (fndN L sh : Int) 1 At s = s := rfl
        have e2 : ceR (fndN L sh : Int) 1 At N s r = movI At N true r := by unfold ceR; rw [if_pos ⟨by decide, hsk⟩]; rfl
        have e3 : ceC (fndN L sh : Int) 1 At N s c = c := by unfold ceC; rw [if_neg (by omega)]
        have e4 : ceB (fndN L sh : Int) 1 At N s r c = movB At N 1048576 true r := by unfold ceB; rw [if_pos ⟨by decide, hsk⟩]; rfl
        rw [e1, e2, e3, e4]
        cases hb : movB At N 1048576 true r with
        | false => rw [if_neg (by simp)]; exact rcell_1goes ao cap L sh At N nm s r c w h hl hsh hnm hL hT hc hi hsk hb
        | true => rw [if_pos rfl]; exact rcell_1on ao cap L sh At N nm s r c w h hl hsh hnm hL hT hc hi hsk hb
      · have e1 : ceS (fndN L sh : Int) 1 At s = s := rfl
        have e2 : ceR (fndN L sh : Int) 1 At N s r = r := by unfold ceR; exact if_neg (fun q => hsk q.2)
        have e3 : ceC (fndN L sh : Int) 1 At N s c = c := by unfold ceC; exact if_neg (fun q => hsk q.2.2)
        have e4 : ceB (fndN L sh : Int) 1 At N s r c = true := by unfold ceB; rw [if_neg (fun q => hsk q.2), if_neg (fun q => hsk q.2.2)]; rfl
        rw [e1, e2, e3, e4, if_pos rfl]
        exact rcell_1off ao cap L sh At N nm s r c w h hl hsh hnm hL hT hc hi hsk
    · by_cases hsk : s = (fndN L sh : Int)
      · have e1 : ceS (fndN L sh : Int) 2 At s = s := rfl
        have e2 : ceR (fndN L sh : Int) 2 At N s r = movI At N false r := by unfold ceR; rw [if_pos ⟨by decide, hsk⟩]; rfl
        have e3 : ceC (fndN L sh : Int) 2 At N s c = c := by unfold ceC; rw [if_neg (by omega)]
        have e4 : ceB (fndN L sh : Int) 2 At N s r c = movB At N 1048576 false r := by unfold ceB; rw [if_pos ⟨by decide, hsk⟩]; rfl
        rw [e1, e2, e3, e4]
        cases hb : movB At N 1048576 false r with
        | false => rw [if_neg (by simp)]; exact rcell_2goes ao cap L sh At N nm s r c w h hl hsh hnm hL hT hc hi hsk hb
        | true => rw [if_pos rfl]; exact rcell_2on ao cap L sh At N nm s r c w h hl hsh hnm hL hT hc hi hsk hb
      · have e1 : ceS (fndN L sh : Int) 2 At s = s := rfl
        have e2 : ceR (fndN L sh : Int) 2 At N s r = r := by unfold ceR; exact if_neg (fun q => hsk q.2)
        have e3 : ceC (fndN L sh : Int) 2 At N s c = c := by unfold ceC; exact if_neg (fun q => hsk q.2.2)
        have e4 : ceB (fndN L sh : Int) 2 At N s r c = true := by unfold ceB; rw [if_neg (fun q => hsk q.2), if_neg (fun q => hsk q.2.2)]; rfl
        rw [e1, e2, e3, e4, if_pos rfl]
        exact rcell_2off ao cap L sh At N nm s r c w h hl hsh hnm hL hT hc hi hsk
    · by_cases hsk : s = (fndN L sh : Int)
      · have e1 : ceS (fndN L sh : Int) 3 At s = s := rfl
        have e2 : ceR (fndN L sh : Int) 3 At N s r = r := by unfold ceR; rw [if_neg (by omega)]
        have e3 : ceC (fndN L sh : Int) 3 At N s c = movI At N true c := by unfold ceC; rw [if_pos ⟨by decide, by decide, hsk⟩]; rfl
        have e4 : ceB (fndN L sh : Int) 3 At N s r c = movB At N 1024 true c := by unfold ceB; rw [if_neg (by omega), if_pos ⟨by decide, by decide, hsk⟩]; rfl
        rw [e1, e2, e3, e4]
        cases hb : movB At N 1024 true c with
        | false => rw [if_neg (by simp)]; exact rcell_3goes ao cap L sh At N nm s r c w h hl hsh hnm hL hT hc hi hsk hb
        | true => rw [if_pos rfl]; exact rcell_3on ao cap L sh At N nm s r c w h hl hsh hnm hL hT hc hi hsk hb
      · have e1 : ceS (fndN L sh : Int) 3 At s = s := rfl
        have e2 : ceR (fndN L sh : Int) 3 At N s r = r := by unfold ceR; exact if_neg (fun q => hsk q.2)
        have e3 : ceC (fndN L sh : Int) 3 At N s c = c := by unfold ceC; exact if_neg (fun q => hsk q.2.2)
        have e4 : ceB (fndN L sh : Int) 3 At N s r c = true := by unfold ceB; rw [if_neg (fun q => hsk q.2), if_neg (fun q => hsk q.2.2)]; rfl
        rw [e1, e2, e3, e4, if_pos rfl]
        exact rcell_3off ao cap L sh At N nm s r c w h hl hsh hnm hL hT hc hi hsk
    · by_cases hsk : s = (fndN L sh : Int)
      · have e1 : ceS (fndN L sh : Int) 4 At s = s := rfl
        have e2 : ceR (fndN L sh : Int) 4 At N s r = r := by unfold ceR; rw [if_neg (by omega)]
        have e3 : ceC (fndN L sh : Int) 4 At N s c = movI At N false c := by unfold ceC; rw [if_pos ⟨by decide, by decide, hsk⟩]; rfl
        have e4 : ceB (fndN L sh : Int) 4 At N s r c = movB At N 1024 false c := by unfold ceB; rw [if_neg (by omega), if_pos ⟨by decide, by decide, hsk⟩]; rfl
        rw [e1, e2, e3, e4]
        cases hb : movB At N 1024 false c with
        | false => rw [if_neg (by simp)]; exact rcell_4goes ao cap L sh At N nm s r c w h hl hsh hnm hL hT hc hi hsk hb
        | true => rw [if_pos rfl]; exact rcell_4on ao cap L sh At N nm s r c w h hl hsh hnm hL hT hc hi hsk hb
      · have e1 : ceS (fndN L sh : Int) 4 At s = s := rfl
        have e2 : ceR (fndN L sh : Int) 4 At N s r = r := by unfold ceR; exact if_neg (fun q => hsk q.2)
        have e3 : ceC (fndN L sh : Int) 4 At N s c = c := by unfold ceC; exact if_neg (fun q => hsk q.2.2)
        have e4 : ceB (fndN L sh : Int) 4 At N s r c = true := by unfold ceB; rw [if_neg (fun q => hsk q.2), if_neg (fun q => hsk q.2.2)]; rfl
        rw [e1, e2, e3, e4, if_pos rfl]
        exact rcell_4off ao cap L sh At N nm s r c w h hl hsh hnm hL hT hc hi hsk
    · have e2 : ceR (fndN L sh : Int) 5 At N s r = r := by unfold ceR; exact if_neg (by omega)
      have e3 : ceC (fndN L sh : Int) 5 At N s c = c := by unfold ceC; exact if_neg (by omega)
      have e4 : ceB (fndN L sh : Int) 5 At N s r c = true := by unfold ceB; rw [if_neg (by omega), if_neg (by omega)]; rfl
      rw [e2, e3, e4]
      rw [if_pos rfl]
      exact rcell_5 ao cap L sh At N nm s r c w h hl hsh hnm hL hT hc hi
    · have e2 : ceR (fndN L sh : Int) 6 At N s r = r := by unfold ceR; exact if_neg (by omega)
      have e3 : ceC (fndN L sh : Int) 6 At N s c = c := by unfold ceC; exact if_neg (by omega)
      have e4 : ceB (fndN L sh : Int) 6 At N s r c = !decide (s = (fndN L sh : Int)) := by unfold ceB; rw [if_neg (by omega), if_neg (by omega)]; rfl
      rw [e2, e3, e4]
      by_cases hsk : s = (fndN L sh : Int)
      · rw [decide_eq_true hsk, if_neg (by simp)]; exact rcell_6goes ao cap L sh At N nm s r c w h hl hsh hnm hL hT hc hi hsk
      · rw [decide_eq_false hsk, if_pos (by simp)]; exact rcell_6 ao cap L sh At N nm s r c w h hl hsh hnm hL hT hc hi hsk
    · have e2 : ceR (fndN L sh : Int) 7 At N s r = r := by unfold ceR; exact if_neg (by omega)
      have e3 : ceC (fndN L sh : Int) 7 At N s c = c := by unfold ceC; exact if_neg (by omega)
      have e4 : ceB (fndN L sh : Int) 7 At N s r c = true := by unfold ceB; rw [if_neg (by omega), if_neg (by omega)]; rfl
      rw [e2, e3, e4]
      rw [if_pos rfl, show ceS (fndN L sh : Int) 7 At s = numI s (fndN L sh : Int) At from (num_is s _ At).symm]
      exact rcell_7 ao cap L sh At N nm s r c w h hl hsh hnm hL hT hc hi
    · have e2 : ceR (fndN L sh : Int) 8 At N s r = r := by unfold ceR; exact if_neg (by omega)
      have e3 : ceC (fndN L sh : Int) 8 At N s c = c := by unfold ceC; exact if_neg (by omega)
      have e4 : ceB (fndN L sh : Int) 8 At N s r c = true := by unfold ceB; rw [if_neg (by omega), if_neg (by omega)]; rfl
      rw [e2, e3, e4]
      rw [if_pos rfl]
      exact rcell_8 ao cap L sh At N nm s r c w h hl hsh hnm hL hT hc hi
#print axioms rcell_any
end Go.Proofs.YthokhnbecgkpbaaDoor
