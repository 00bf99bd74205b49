/- ShiftBack: the law's walk. -/
import Derived.Test.YthokhnbecgkpbaaDoorHRow
import Derived.Test.YthokhnbecgkpbaaDoorRNrm
import Derived.Test.YthokhnbecgkpbaaDoorHClW
namespace Go.Proofs.YthokhnbecgkpbaaDoor
open Go.RowKit

/-- What lies there: the case, the reference, the cell, the shift back. -/
structure BSt (w W : World) (ao : Option Addr) (l cap : Nat) (sh : ByteArray) (At N : Int) (nm own : ByteArray) (t u : ByteArray) (fx ar : Bool) (r1 c1 : Int) (x1 y1 : Bool) (r2 c2 : Int) (x2 y2 : Bool) (s rr c : Int) : Prop where
  k : KAt W w.heap.size ao l cap 1 sh At N nm own
  r : RAt W (w.heap.size + 1) t u fx ar r1 c1 x1 y1 r2 c2 x2 y2
  a : AAt W (w.heap.size + 1 + 1) s rr c
  x : XAt W (w.heap.size + 1 + 1 + 1) 2 sh At N nm
  f : Fr noB w W
theorem skip_g {P : Program} {ops : Array Oper} {Q : Exit → Act → World → Prop} {a : Act} {w : World} {rest : List Oper} {o : Oper} (g : Nat × Bool) (_hg : o.guard = some g)
    (hw : Region.wanted o (yielded ops a.tmps) = false) (h : wpList P ops Q rest (a.put o.dst undef) w) : wpList P ops Q (o :: rest) a w := wpList_skip hw h
theorem BSt.go {w W W' : World} {ao : Option Addr} {l cap : Nat} {sh : ByteArray} {At N : Int} {nm own : ByteArray} {t u : ByteArray} {fx ar : Bool} {r1 c1 : Int} {x1 y1 : Bool} {r2 c2 : Int} {x2 y2 : Bool} {s rr c : Int} (h : BSt w W ao l cap sh At N nm own t u fx ar r1 c1 x1 y1 r2 c2 x2 y2 s rr c) (hF : Fr noB W W') : BSt w W' ao l cap sh At N nm own t u fx ar r1 c1 x1 y1 r2 c2 x2 y2 s rr c :=
  ⟨h.k.fr hF, h.r.fr hF id, h.a.fr hF, h.x.fr hF, h.f.trans hF⟩
set_option maxRecDepth 100000 in
set_option maxHeartbeats 4000000 in
theorem back_no (ao : Option Addr) (cap : Nat) (L : List ByteArray) (K : Int) (sh : ByteArray) (At N : Int) (nm own : ByteArray) (t u : ByteArray) (fx ar : Bool) (r1 c1 : Int) (x1 y1 : Bool) (r2 c2 : Int) (x2 y2 : Bool) (s rr c : Int) (w : World) (h : SsAt w ao L) (hl : L.length ≤ 140737488355328) (hN : N ≤ 9223372036854775807) (hsh : sh.size ≤ 140737488355328) (hnm : nm.size ≤ 140737488355328) (hL : ∀ x ∈ L, x.size ≤ 140737488355328) (hT : Tabs w) (hc : ¬ chkS L 1 sh At N nm = 0) :
    Calls Tryd.prog 6 #[.agg #[.slice ao L.length cap, .int .i64 K, .string sh, .int .i64 At, .int .i64 N, .string nm, .string own], (.agg #[.string t, .string u, .bool fx, .bool ar, .int .i64 r1, .int .i64 c1, .bool x1, .bool y1, .int .i64 r2, .int .i64 c2, .bool x2, .bool y2]), .agg #[.int .i64 s, .int .i64 rr, .int .i64 c]] w fun e w' => e = .returned (.bool true) ∧ Below w.heap.size w w' := by
  obtain ⟨l, hll⟩ : ∃ l, L.length = l := ⟨_, rfl⟩
  obtain ⟨W0, hW0⟩ : ∃ W0, (((w.alloc (.cells #[.slice ao l cap, .int .i64 1, .string sh, .int .i64 At, .int .i64 N, .string nm, .string own] 26 (0, 0))).alloc (.cells #[.string t, .string u, .bool fx, .bool ar, .int .i64 r1, .int .i64 c1, .bool x1, .bool y1, .int .i64 r2, .int .i64 c2, .bool x2, .bool y2] 46 (0, 0))).alloc (.cells #[.int .i64 s, .int .i64 rr, .int .i64 c] 38 (0, 0))).alloc (.cells #[.int .i64 2, .string sh, .int .i64 At, .int .i64 N, .string nm] 24 (0, 0)) = W0 := ⟨_, rfl⟩
  have hB : BSt w W0 ao l cap sh At N nm own t u fx ar r1 c1 x1 y1 r2 c2 x2 y2 s rr c := by
    rw [← hW0]
    exact ⟨⟨old1 (old1 (old1 (heap_alloc_new w _)))⟩, ⟨old1 (old1 (new1 _ _ _ (by simp)))⟩, ⟨old1 (new1 _ _ _ (by simp))⟩, ⟨new1 _ _ _ (by simp)⟩, ((((Fr.refl noB w).alloc _).alloc _).alloc _).alloc _⟩
  have HB : Hid _ := hB
  have HL : Hid (∀ W, Calls Tryd.prog 11 #[] W fun e w' => e = .returned (.bool true) ∧ Fr noB W w') := fun W => live_true W
  have HC : Hid (∀ W, Fr noB w W → Calls Tryd.prog 12 #[.slice ao l cap, .agg #[.int .i64 1, .string sh, .int .i64 At, .int .i64 N, .string nm]] W fun e w' => e = .returned (.int .i64 (chkS L 1 sh At N nm)) ∧ Fr noB W w') := fun W hF => by rw [← hll]; exact check_all ao cap L 1 sh At N nm W (h.keep hF) hl hN
  have HR : Hid (∀ W, Fr noB w W → Calls Tryd.prog 13 #[.slice ao l cap, .agg #[.int .i64 1, .string sh, .int .i64 At, .int .i64 N, .string nm]] W fun e w' => e = .returned (.int .i64 (chkS L 1 sh At N nm)) ∧ Fr noB W w') := fun W hF => by rw [← hll]; exact rck_all ao cap L 1 sh At N nm W (h.keep hF) hl hsh hnm hL (hT.keep hF)
  have bk0 := (HB.out).k.c0; have bk1 := (HB.out).k.c1; have bk2 := (HB.out).k.c2; have bk3 := (HB.out).k.c3; have bk4 := (HB.out).k.c4; have bk5 := (HB.out).k.c5; have bk6 := (HB.out).k.c6
  clear hB h hl hN hsh hnm hL hT
  rw [hll]
  clear hll
  generalize chkS L 1 sh At N nm = v at *
  have hv : (v != 0) = true := by simpa using hc
  clear hc
  go_enter Tryd.func6, Tryd.ntmps6
  go_wp2_with (first
    | (go_at_call 12; (with_reducible refine (HC.out _ HB.out.f).mono ?_); rintro e wv1 ⟨rfl, hF1⟩; have HB1 : Hid (BSt w wv1 ao l cap sh At N nm own t u fx ar r1 c1 x1 y1 r2 c2 x2 y2 s rr c) := HB.out.go hF1; clear hF1)
    | (go_at_call 11; refine (HL.out _).mono ?_; rintro e wv2 ⟨rfl, hF2⟩; have HB2 : Hid (BSt w wv2 ao l cap sh At N nm own t u fx ar r1 c1 x1 y1 r2 c2 x2 y2 s rr c) := HB1.out.go hF2; have dk0 := (HB2.out).k.c0; have dk1 := (HB2.out).k.c1; have dk2 := (HB2.out).k.c2; have dk3 := (HB2.out).k.c3; have dk4 := (HB2.out).k.c4; have dk5 := (HB2.out).k.c5; have dk6 := (HB2.out).k.c6; clear hF2)
    | (go_at_call 13; (with_reducible refine (HR.out _ HB2.out.f).mono ?_); rintro e wv3 ⟨rfl, hF3⟩))
  go_ret
  exact ⟨ret_bool (by simp), (HB2.out.f.trans hF3).below (Nat.le_refl _) (fun _ h => h.elim)⟩
set_option maxRecDepth 100000 in
set_option maxHeartbeats 4000000 in
theorem back_nbad (ao : Option Addr) (cap : Nat) (L : List ByteArray) (K : Int) (sh : ByteArray) (At N : Int) (nm own : ByteArray) (t u : ByteArray) (fx ar : Bool) (r1 c1 : Int) (x1 y1 : Bool) (r2 c2 : Int) (x2 y2 : Bool) (s rr c : Int) (w : World) (h : SsAt w ao L) (hl : L.length ≤ 140737488355328) (hN : N ≤ 9223372036854775807) (hT : Tabs w)  (ht : t.size ≤ 140737488355328) (hu : u.size ≤ 140737488355328) (hc : chkS L 1 sh At N nm = 0) (hrem : remB L 1 sh At N nm s rr c = false) (hk : ¬ chkF t u fx ar r1 c1 r2 c2 x2 y2 = 0) :
    Calls Tryd.prog 6 #[.agg #[.slice ao L.length cap, .int .i64 K, .string sh, .int .i64 At, .int .i64 N, .string nm, .string own], (.agg #[.string t, .string u, .bool fx, .bool ar, .int .i64 r1, .int .i64 c1, .bool x1, .bool y1, .int .i64 r2, .int .i64 c2, .bool x2, .bool y2]), .agg #[.int .i64 s, .int .i64 rr, .int .i64 c]] w fun e w' => e = .returned (.bool true) ∧ Below w.heap.size w w' := by
  obtain ⟨l, hll⟩ : ∃ l, L.length = l := ⟨_, rfl⟩
  obtain ⟨W0, hW0⟩ : ∃ W0, (((w.alloc (.cells #[.slice ao l cap, .int .i64 1, .string sh, .int .i64 At, .int .i64 N, .string nm, .string own] 26 (0, 0))).alloc (.cells #[.string t, .string u, .bool fx, .bool ar, .int .i64 r1, .int .i64 c1, .bool x1, .bool y1, .int .i64 r2, .int .i64 c2, .bool x2, .bool y2] 46 (0, 0))).alloc (.cells #[.int .i64 s, .int .i64 rr, .int .i64 c] 38 (0, 0))).alloc (.cells #[.int .i64 2, .string sh, .int .i64 At, .int .i64 N, .string nm] 24 (0, 0)) = W0 := ⟨_, rfl⟩
  have hB : BSt w W0 ao l cap sh At N nm own t u fx ar r1 c1 x1 y1 r2 c2 x2 y2 s rr c := by
    rw [← hW0]
    exact ⟨⟨old1 (old1 (old1 (heap_alloc_new w _)))⟩, ⟨old1 (old1 (new1 _ _ _ (by simp)))⟩, ⟨old1 (new1 _ _ _ (by simp))⟩, ⟨new1 _ _ _ (by simp)⟩, ((((Fr.refl noB w).alloc _).alloc _).alloc _).alloc _⟩
  have HB : Hid _ := hB
  have HL : Hid (∀ W, Calls Tryd.prog 11 #[] W fun e w' => e = .returned (.bool true) ∧ Fr noB W w') := fun W => live_true W
  have HC : Hid (∀ W, Fr noB w W → Calls Tryd.prog 12 #[.slice ao l cap, .agg #[.int .i64 1, .string sh, .int .i64 At, .int .i64 N, .string nm]] W fun e w' => e = .returned (.int .i64 0) ∧ Fr noB W w') := fun W hF => by rw [← hll, ← hc]; exact check_all ao cap L 1 sh At N nm W (h.keep hF) hl hN
  have hv1 : celV L 1 sh At N nm s rr c = .tuple #[.agg #[.int .i64 0, .int .i64 0, .int .i64 0], .bool false] := by unfold celV; rw [hrem]; exact if_neg (by simp)
  have HP : Hid (∀ W, Fr noB w W → Calls Tryd.prog 17 #[.slice ao l cap, .agg #[.int .i64 1, .string sh, .int .i64 At, .int .i64 N, .string nm], .agg #[.int .i64 s, .int .i64 rr, .int .i64 c]] W fun e w' => e = .returned (.tuple #[.agg #[.int .i64 0, .int .i64 0, .int .i64 0], .bool false]) ∧ Fr noB W w') := fun W hF => by rw [← hll, ← hv1]; exact pcell_any ao cap L 1 sh At N nm s rr c W (h.keep hF) hl hN
  have hs4 := chk_span hc (by omega)
  unfold limF at hs4
  rw [if_pos (by decide)] at hs4
  have hN0 := rnorm_any t u fx ar r1 c1 x1 y1 r2 c2 x2 y2
  obtain ⟨na, hna⟩ : ∃ x, pkI (swB ar r1 r2) r1 r2 = x := ⟨_, rfl⟩
  obtain ⟨nb, hnb⟩ : ∃ x, pkI (swB ar r1 r2) r2 r1 = x := ⟨_, rfl⟩
  have hmax : max na nb = max r1 r2 := by
    rw [← hna, ← hnb]
    unfold pkI
    split <;> omega
  unfold nrmV at hN0
  rw [hna, hnb] at hN0
  clear hna hnb
  generalize pkI (swB ar c1 c2) c1 c2 = nc at *
  generalize pkI (swB ar c1 c2) c2 c1 = nd at *
  generalize pkB (swB ar r1 r2) x1 x2 = nx at *
  generalize pkB (swB ar c1 c2) y1 y2 = ny at *
  generalize pkB (swB ar r1 r2) x2 x1 = nz at *
  generalize pkB (swB ar c1 c2) y2 y1 = nw at *
  have HNm : Hid (∀ W, Calls Tryd.prog 19 #[(.agg #[.string t, .string u, .bool fx, .bool ar, .int .i64 r1, .int .i64 c1, .bool x1, .bool y1, .int .i64 r2, .int .i64 c2, .bool x2, .bool y2])] W fun e w' => e = .returned (.agg #[.string t, .string u, .bool fx, .bool ar, .int .i64 na, .int .i64 nc, .bool nx, .bool ny, .int .i64 nb, .int .i64 nd, .bool nz, .bool nw]) ∧ Fr noB W w') := fun W => hN0 W
  have HCk : Hid (∀ W, Fr noB w W → Calls Tryd.prog 20 #[(.agg #[.string t, .string u, .bool fx, .bool ar, .int .i64 r1, .int .i64 c1, .bool x1, .bool y1, .int .i64 r2, .int .i64 c2, .bool x2, .bool y2])] W fun e w' => e = .returned (.int .i64 (chkF t u fx ar r1 c1 r2 c2 x2 y2)) ∧ Fr noB W w') := fun W hF => rcheck_any t u fx ar r1 c1 x1 y1 r2 c2 x2 y2 W ht hu (hT.keep hF)
  generalize chkF t u fx ar r1 c1 r2 c2 x2 y2 = kv at *
  have hkv : (kv != 0) = true := by simpa using hk
  clear hk hmax
  have bk0 := (HB.out).k.c0; have bk1 := (HB.out).k.c1; have bk2 := (HB.out).k.c2; have bk3 := (HB.out).k.c3; have bk4 := (HB.out).k.c4; have bk5 := (HB.out).k.c5; have bk6 := (HB.out).k.c6
  clear hB h hl hN hT ht hu hrem hv1 hs4 hN0 hc
  rw [hll]
  clear hll
  go_enter Tryd.func6, Tryd.ntmps6
  go_wp2_with (first
    | (with_reducible refine skip_g (3, false) (by rfl) (by kernel_rfl) ?_)
    | (with_reducible refine skip_g (15, true) (by rfl) (by kernel_rfl) ?_)
    | (go_at_call 12; (with_reducible refine (HC.out _ HB.out.f).mono ?_); rintro e wv1 ⟨rfl, hF1⟩; have HB1 : Hid (BSt w wv1 ao l cap sh At N nm own t u fx ar r1 c1 x1 y1 r2 c2 x2 y2 s rr c) := HB.out.go hF1; clear hF1 bk0 bk1 bk2 bk3 bk4 bk5 bk6)
    | (go_at_call 11; refine (HL.out _).mono ?_; rintro e wv2 ⟨rfl, hF2⟩; have HB2 : Hid (BSt w wv2 ao l cap sh At N nm own t u fx ar r1 c1 x1 y1 r2 c2 x2 y2 s rr c) := HB1.out.go hF2; have dk0 := (HB2.out).k.c0; have dk1 := (HB2.out).k.c1; have dk2 := (HB2.out).k.c2; have dk3 := (HB2.out).k.c3; have dk4 := (HB2.out).k.c4; have dk5 := (HB2.out).k.c5; have dk6 := (HB2.out).k.c6; have da0 := (HB2.out).a.c0; have da1 := (HB2.out).a.c1; have da2 := (HB2.out).a.c2; clear hF2)
    | (go_at_call 17; (with_reducible refine (HP.out _ HB2.out.f).mono ?_); rintro e wv3 ⟨rfl, hF3⟩; have HB3 : Hid (BSt w (wv3.alloc (.cells #[.int .i64 0, .int .i64 0, .int .i64 0] 38 (0, 0))) ao l cap sh At N nm own t u fx ar r1 c1 x1 y1 r2 c2 x2 y2 s rr c) := HB2.out.go (hF3.alloc (.cells #[.int .i64 0, .int .i64 0, .int .i64 0] 38 (0, 0))); have hx3 : AAt (wv3.alloc (.cells #[.int .i64 0, .int .i64 0, .int .i64 0] 38 (0, 0))) wv3.heap.size 0 0 0 := ⟨heap_alloc_new wv3 _⟩; have z0 := hx3.c0; have z1 := hx3.c1; have z2 := hx3.c2; clear hF3 hx3 dk0 dk1 dk2 dk3 dk4 dk5 dk6 da0 da1 da2)
    | (refine wpList_load_row rfl 46 (.tmp 4) rfl (w.heap.size + 1) rfl 46 #[.string t, .string u, .bool fx, .bool ar, .int .i64 r1, .int .i64 c1, .bool x1, .bool y1, .int .i64 r2, .int .i64 c2, .bool x2, .bool y2] (0, 0) _ HB3.out.r.o Tryd.underlying46 rfl info_ref ?_)
    | (go_at_call 19; (with_reducible refine (HNm.out _).mono ?_); rintro e wv5 ⟨rfl, hF5⟩; have HB5 : Hid (BSt w (wv5.alloc (.cells #[.string t, .string u, .bool fx, .bool ar, .int .i64 na, .int .i64 nc, .bool nx, .bool ny, .int .i64 nb, .int .i64 nd, .bool nz, .bool nw] 46 (0, 0))) ao l cap sh At N nm own t u fx ar r1 c1 x1 y1 r2 c2 x2 y2 s rr c) := HB3.out.go (hF5.alloc (.cells #[.string t, .string u, .bool fx, .bool ar, .int .i64 na, .int .i64 nc, .bool nx, .bool ny, .int .i64 nb, .int .i64 nd, .bool nz, .bool nw] 46 (0, 0))); have hn5 : RAt (wv5.alloc (.cells #[.string t, .string u, .bool fx, .bool ar, .int .i64 na, .int .i64 nc, .bool nx, .bool ny, .int .i64 nb, .int .i64 nd, .bool nz, .bool nw] 46 (0, 0))) wv5.heap.size t u fx ar na nc nx ny nb nd nz nw := ⟨heap_alloc_new wv5 _⟩; have HN5 : Hid _ := hn5; clear hF5 hn5 z0 z1 z2)
    | (refine wpList_load_row rfl 46 (.tmp 4) rfl (w.heap.size + 1) rfl 46 #[.string t, .string u, .bool fx, .bool ar, .int .i64 r1, .int .i64 c1, .bool x1, .bool y1, .int .i64 r2, .int .i64 c2, .bool x2, .bool y2] (0, 0) _ HB5.out.r.o Tryd.underlying46 rfl info_ref ?_)
    | (go_at_call 20; (with_reducible refine (HCk.out _ HB5.out.f).mono ?_); rintro e wv6 ⟨rfl, hF6⟩; have HB6 : Hid (BSt w wv6 ao l cap sh At N nm own t u fx ar r1 c1 x1 y1 r2 c2 x2 y2 s rr c) := HB5.out.go hF6; have hn6 := HN5.out.fr hF6 id; have i4 := hn6.g4; have i8 := hn6.g8; have gk0 := (HB6.out).k.c0; have gk1 := (HB6.out).k.c1; have gk2 := (HB6.out).k.c2; have gk3 := (HB6.out).k.c3; have gk4 := (HB6.out).k.c4; have gk5 := (HB6.out).k.c5; have gk6 := (HB6.out).k.c6; clear hF6 hn6))
  go_ret
  exact ⟨ret_bool (by simp), HB6.out.f.below (Nat.le_refl _) (fun _ h => h.elim)⟩
set_option maxRecDepth 100000 in
set_option maxHeartbeats 4000000 in
theorem back_nfar (ao : Option Addr) (cap : Nat) (L : List ByteArray) (K : Int) (sh : ByteArray) (At N : Int) (nm own : ByteArray) (t u : ByteArray) (fx ar : Bool) (r1 c1 : Int) (x1 y1 : Bool) (r2 c2 : Int) (x2 y2 : Bool) (s rr c : Int) (w : World) (h : SsAt w ao L) (hl : L.length ≤ 140737488355328) (hN : N ≤ 9223372036854775807) (hT : Tabs w)  (ht : t.size ≤ 140737488355328) (hu : u.size ≤ 140737488355328) (hc : chkS L 1 sh At N nm = 0) (hrem : remB L 1 sh At N nm s rr c = false) (hk : chkF t u fx ar r1 c1 r2 c2 x2 y2 = 0) (hm1 : At ≤ max r1 r2) (hm2 : 1048576 ≤ max r1 r2 + N) :
    Calls Tryd.prog 6 #[.agg #[.slice ao L.length cap, .int .i64 K, .string sh, .int .i64 At, .int .i64 N, .string nm, .string own], (.agg #[.string t, .string u, .bool fx, .bool ar, .int .i64 r1, .int .i64 c1, .bool x1, .bool y1, .int .i64 r2, .int .i64 c2, .bool x2, .bool y2]), .agg #[.int .i64 s, .int .i64 rr, .int .i64 c]] w fun e w' => e = .returned (.bool true) ∧ Below w.heap.size w w' := by
  obtain ⟨l, hll⟩ : ∃ l, L.length = l := ⟨_, rfl⟩
  obtain ⟨W0, hW0⟩ : ∃ W0, (((w.alloc (.cells #[.slice ao l cap, .int .i64 1, .string sh, .int .i64 At, .int .i64 N, .string nm, .string own] 26 (0, 0))).alloc (.cells #[.string t, .string u, .bool fx, .bool ar, .int .i64 r1, .int .i64 c1, .bool x1, .bool y1, .int .i64 r2, .int .i64 c2, .bool x2, .bool y2] 46 (0, 0))).alloc (.cells #[.int .i64 s, .int .i64 rr, .int .i64 c] 38 (0, 0))).alloc (.cells #[.int .i64 2, .string sh, .int .i64 At, .int .i64 N, .string nm] 24 (0, 0)) = W0 := ⟨_, rfl⟩
  have hB : BSt w W0 ao l cap sh At N nm own t u fx ar r1 c1 x1 y1 r2 c2 x2 y2 s rr c := by
    rw [← hW0]
    exact ⟨⟨old1 (old1 (old1 (heap_alloc_new w _)))⟩, ⟨old1 (old1 (new1 _ _ _ (by simp)))⟩, ⟨old1 (new1 _ _ _ (by simp))⟩, ⟨new1 _ _ _ (by simp)⟩, ((((Fr.refl noB w).alloc _).alloc _).alloc _).alloc _⟩
  have HB : Hid _ := hB
  have HL : Hid (∀ W, Calls Tryd.prog 11 #[] W fun e w' => e = .returned (.bool true) ∧ Fr noB W w') := fun W => live_true W
  have HC : Hid (∀ W, Fr noB w W → Calls Tryd.prog 12 #[.slice ao l cap, .agg #[.int .i64 1, .string sh, .int .i64 At, .int .i64 N, .string nm]] W fun e w' => e = .returned (.int .i64 0) ∧ Fr noB W w') := fun W hF => by rw [← hll, ← hc]; exact check_all ao cap L 1 sh At N nm W (h.keep hF) hl hN
  have hv1 : celV L 1 sh At N nm s rr c = .tuple #[.agg #[.int .i64 0, .int .i64 0, .int .i64 0], .bool false] := by unfold celV; rw [hrem]; exact if_neg (by simp)
  have HP : Hid (∀ W, Fr noB w W → Calls Tryd.prog 17 #[.slice ao l cap, .agg #[.int .i64 1, .string sh, .int .i64 At, .int .i64 N, .string nm], .agg #[.int .i64 s, .int .i64 rr, .int .i64 c]] W fun e w' => e = .returned (.tuple #[.agg #[.int .i64 0, .int .i64 0, .int .i64 0], .bool false]) ∧ Fr noB W w') := fun W hF => by rw [← hll, ← hv1]; exact pcell_any ao cap L 1 sh At N nm s rr c W (h.keep hF) hl hN
  have hs4 := chk_span hc (by omega)
  unfold limF at hs4
  rw [if_pos (by decide)] at hs4
  have hN0 := rnorm_any t u fx ar r1 c1 x1 y1 r2 c2 x2 y2
  obtain ⟨na, hna⟩ : ∃ x, pkI (swB ar r1 r2) r1 r2 = x := ⟨_, rfl⟩
  obtain ⟨nb, hnb⟩ : ∃ x, pkI (swB ar r1 r2) r2 r1 = x := ⟨_, rfl⟩
  have hmax : max na nb = max r1 r2 := by
    rw [← hna, ← hnb]
    unfold pkI
    split <;> omega
  unfold nrmV at hN0
  rw [hna, hnb] at hN0
  clear hna hnb
  generalize pkI (swB ar c1 c2) c1 c2 = nc at *
  generalize pkI (swB ar c1 c2) c2 c1 = nd at *
  generalize pkB (swB ar r1 r2) x1 x2 = nx at *
  generalize pkB (swB ar c1 c2) y1 y2 = ny at *
  generalize pkB (swB ar r1 r2) x2 x1 = nz at *
  generalize pkB (swB ar c1 c2) y2 y1 = nw at *
  have HNm : Hid (∀ W, Calls Tryd.prog 19 #[(.agg #[.string t, .string u, .bool fx, .bool ar, .int .i64 r1, .int .i64 c1, .bool x1, .bool y1, .int .i64 r2, .int .i64 c2, .bool x2, .bool y2])] W fun e w' => e = .returned (.agg #[.string t, .string u, .bool fx, .bool ar, .int .i64 na, .int .i64 nc, .bool nx, .bool ny, .int .i64 nb, .int .i64 nd, .bool nz, .bool nw]) ∧ Fr noB W w') := fun W => hN0 W
  have HCk : Hid (∀ W, Fr noB w W → Calls Tryd.prog 20 #[(.agg #[.string t, .string u, .bool fx, .bool ar, .int .i64 r1, .int .i64 c1, .bool x1, .bool y1, .int .i64 r2, .int .i64 c2, .bool x2, .bool y2])] W fun e w' => e = .returned (.int .i64 (chkF t u fx ar r1 c1 r2 c2 x2 y2)) ∧ Fr noB W w') := fun W hF => rcheck_any t u fx ar r1 c1 x1 y1 r2 c2 x2 y2 W ht hu (hT.keep hF)
  have hbr := chk_ref hk
  rw [hk] at HCk
  clear hk
  obtain ⟨M, hM⟩ : ∃ M, max na nb = M := ⟨_, rfl⟩
  have hM2 : max r1 r2 = M := hmax.symm.trans hM
  rw [hM2] at hm1 hm2
  have hMb : 0 ≤ M ∧ M < 1048576 := by omega
  clear hmax hM2 hbr
  obtain ⟨qs, hqs⟩ : ∃ qs, M + N = qs := ⟨_, rfl⟩
  have hwq : IntKind.i64.wrap qs = qs := by rw [IntKind.wrap_i64]; omega
  rw [hqs] at hm2
  clear hMb
  have bk0 := (HB.out).k.c0; have bk1 := (HB.out).k.c1; have bk2 := (HB.out).k.c2; have bk3 := (HB.out).k.c3; have bk4 := (HB.out).k.c4; have bk5 := (HB.out).k.c5; have bk6 := (HB.out).k.c6
  clear hB h hl hN hT ht hu hrem hv1 hs4 hN0 hc
  rw [hll]
  clear hll
  go_enter Tryd.func6, Tryd.ntmps6
  go_wp2_with (first
    | (go_at_call 12; (with_reducible refine (HC.out _ HB.out.f).mono ?_); rintro e wv1 ⟨rfl, hF1⟩; have HB1 : Hid (BSt w wv1 ao l cap sh At N nm own t u fx ar r1 c1 x1 y1 r2 c2 x2 y2 s rr c) := HB.out.go hF1; clear hF1 bk0 bk1 bk2 bk3 bk4 bk5 bk6)
    | (go_at_call 11; refine (HL.out _).mono ?_; rintro e wv2 ⟨rfl, hF2⟩; have HB2 : Hid (BSt w wv2 ao l cap sh At N nm own t u fx ar r1 c1 x1 y1 r2 c2 x2 y2 s rr c) := HB1.out.go hF2; have dk0 := (HB2.out).k.c0; have dk1 := (HB2.out).k.c1; have dk2 := (HB2.out).k.c2; have dk3 := (HB2.out).k.c3; have dk4 := (HB2.out).k.c4; have dk5 := (HB2.out).k.c5; have dk6 := (HB2.out).k.c6; have da0 := (HB2.out).a.c0; have da1 := (HB2.out).a.c1; have da2 := (HB2.out).a.c2; clear hF2)
    | (go_at_call 17; (with_reducible refine (HP.out _ HB2.out.f).mono ?_); rintro e wv3 ⟨rfl, hF3⟩; have HB3 : Hid (BSt w (wv3.alloc (.cells #[.int .i64 0, .int .i64 0, .int .i64 0] 38 (0, 0))) ao l cap sh At N nm own t u fx ar r1 c1 x1 y1 r2 c2 x2 y2 s rr c) := HB2.out.go (hF3.alloc (.cells #[.int .i64 0, .int .i64 0, .int .i64 0] 38 (0, 0))); have hx3 : AAt (wv3.alloc (.cells #[.int .i64 0, .int .i64 0, .int .i64 0] 38 (0, 0))) wv3.heap.size 0 0 0 := ⟨heap_alloc_new wv3 _⟩; have z0 := hx3.c0; have z1 := hx3.c1; have z2 := hx3.c2; clear hF3 hx3 dk0 dk1 dk2 dk3 dk4 dk5 dk6 da0 da1 da2)
    | (refine wpList_load_row rfl 46 (.tmp 4) rfl (w.heap.size + 1) rfl 46 #[.string t, .string u, .bool fx, .bool ar, .int .i64 r1, .int .i64 c1, .bool x1, .bool y1, .int .i64 r2, .int .i64 c2, .bool x2, .bool y2] (0, 0) _ HB3.out.r.o Tryd.underlying46 rfl info_ref ?_)
    | (go_at_call 19; (with_reducible refine (HNm.out _).mono ?_); rintro e wv5 ⟨rfl, hF5⟩; have HB5 : Hid (BSt w (wv5.alloc (.cells #[.string t, .string u, .bool fx, .bool ar, .int .i64 na, .int .i64 nc, .bool nx, .bool ny, .int .i64 nb, .int .i64 nd, .bool nz, .bool nw] 46 (0, 0))) ao l cap sh At N nm own t u fx ar r1 c1 x1 y1 r2 c2 x2 y2 s rr c) := HB3.out.go (hF5.alloc (.cells #[.string t, .string u, .bool fx, .bool ar, .int .i64 na, .int .i64 nc, .bool nx, .bool ny, .int .i64 nb, .int .i64 nd, .bool nz, .bool nw] 46 (0, 0))); have hn5 : RAt (wv5.alloc (.cells #[.string t, .string u, .bool fx, .bool ar, .int .i64 na, .int .i64 nc, .bool nx, .bool ny, .int .i64 nb, .int .i64 nd, .bool nz, .bool nw] 46 (0, 0))) wv5.heap.size t u fx ar na nc nx ny nb nd nz nw := ⟨heap_alloc_new wv5 _⟩; have HN5 : Hid _ := hn5; clear hF5 hn5 z0 z1 z2)
    | (refine wpList_load_row rfl 46 (.tmp 4) rfl (w.heap.size + 1) rfl 46 #[.string t, .string u, .bool fx, .bool ar, .int .i64 r1, .int .i64 c1, .bool x1, .bool y1, .int .i64 r2, .int .i64 c2, .bool x2, .bool y2] (0, 0) _ HB5.out.r.o Tryd.underlying46 rfl info_ref ?_)
    | (go_at_call 20; (with_reducible refine (HCk.out _ HB5.out.f).mono ?_); rintro e wv6 ⟨rfl, hF6⟩; have HB6 : Hid (BSt w wv6 ao l cap sh At N nm own t u fx ar r1 c1 x1 y1 r2 c2 x2 y2 s rr c) := HB5.out.go hF6; have hn6 := HN5.out.fr hF6 id; have i4 := hn6.g4; have i8 := hn6.g8; have gk0 := (HB6.out).k.c0; have gk1 := (HB6.out).k.c1; have gk2 := (HB6.out).k.c2; have gk3 := (HB6.out).k.c3; have gk4 := (HB6.out).k.c4; have gk5 := (HB6.out).k.c5; have gk6 := (HB6.out).k.c6; clear hF6 hn6))
  go_ret
  exact ⟨ret_bool (by simp), HB6.out.f.below (Nat.le_refl _) (fun _ h => h.elim)⟩
set_option maxRecDepth 100000 in
set_option maxHeartbeats 4000000 in
theorem back_nlow (ao : Option Addr) (cap : Nat) (L : List ByteArray) (K : Int) (sh : ByteArray) (At N : Int) (nm own : ByteArray) (t u : ByteArray) (fx ar : Bool) (r1 c1 : Int) (x1 y1 : Bool) (r2 c2 : Int) (x2 y2 : Bool) (s rr c : Int) (w : World) (h : SsAt w ao L) (hl : L.length ≤ 140737488355328) (hN : N ≤ 9223372036854775807) (hT : Tabs w)  (ht : t.size ≤ 140737488355328) (hu : u.size ≤ 140737488355328) (hc : chkS L 1 sh At N nm = 0) (hrem : remB L 1 sh At N nm s rr c = false) (hk : chkF t u fx ar r1 c1 r2 c2 x2 y2 = 0) (hm1 : ¬ At ≤ max r1 r2)
    (p1 p2 : Int) (HY : ∀ W, Fr noB w W → Calls Tryd.prog 21 #[.slice ao L.length cap, .agg #[.int .i64 1, .string sh, .int .i64 At, .int .i64 N, .string nm], .string own, (.agg #[.string t, .string u, .bool fx, .bool ar, .int .i64 r1, .int .i64 c1, .bool x1, .bool y1, .int .i64 r2, .int .i64 c2, .bool x2, .bool y2])] W fun e w' => e = .returned (.tuple #[(.agg #[.string t, .string u, .bool fx, .bool ar, .int .i64 p1, .int .i64 c1, .bool x1, .bool y1, .int .i64 p2, .int .i64 c2, .bool x2, .bool y2]), .bool true]) ∧ Fr noB W w') (HZ : ∀ W, Fr noB w W → Calls Tryd.prog 21 #[.slice ao L.length cap, .agg #[.int .i64 2, .string sh, .int .i64 At, .int .i64 N, .string nm], .string own, (.agg #[.string t, .string u, .bool fx, .bool ar, .int .i64 p1, .int .i64 c1, .bool x1, .bool y1, .int .i64 p2, .int .i64 c2, .bool x2, .bool y2])] W fun e w' => e = .returned (.tuple #[(.agg #[.string t, .string u, .bool fx, .bool ar, .int .i64 r1, .int .i64 c1, .bool x1, .bool y1, .int .i64 r2, .int .i64 c2, .bool x2, .bool y2]), .bool true]) ∧ Fr noB W w') :
    Calls Tryd.prog 6 #[.agg #[.slice ao L.length cap, .int .i64 K, .string sh, .int .i64 At, .int .i64 N, .string nm, .string own], (.agg #[.string t, .string u, .bool fx, .bool ar, .int .i64 r1, .int .i64 c1, .bool x1, .bool y1, .int .i64 r2, .int .i64 c2, .bool x2, .bool y2]), .agg #[.int .i64 s, .int .i64 rr, .int .i64 c]] w fun e w' => e = .returned (.bool true) ∧ Below w.heap.size w w' := by
  obtain ⟨l, hll⟩ : ∃ l, L.length = l := ⟨_, rfl⟩
  obtain ⟨W0, hW0⟩ : ∃ W0, (((w.alloc (.cells #[.slice ao l cap, .int .i64 1, .string sh, .int .i64 At, .int .i64 N, .string nm, .string own] 26 (0, 0))).alloc (.cells #[.string t, .string u, .bool fx, .bool ar, .int .i64 r1, .int .i64 c1, .bool x1, .bool y1, .int .i64 r2, .int .i64 c2, .bool x2, .bool y2] 46 (0, 0))).alloc (.cells #[.int .i64 s, .int .i64 rr, .int .i64 c] 38 (0, 0))).alloc (.cells #[.int .i64 2, .string sh, .int .i64 At, .int .i64 N, .string nm] 24 (0, 0)) = W0 := ⟨_, rfl⟩
  have hB : BSt w W0 ao l cap sh At N nm own t u fx ar r1 c1 x1 y1 r2 c2 x2 y2 s rr c := by
    rw [← hW0]
    exact ⟨⟨old1 (old1 (old1 (heap_alloc_new w _)))⟩, ⟨old1 (old1 (new1 _ _ _ (by simp)))⟩, ⟨old1 (new1 _ _ _ (by simp))⟩, ⟨new1 _ _ _ (by simp)⟩, ((((Fr.refl noB w).alloc _).alloc _).alloc _).alloc _⟩
  have HB : Hid _ := hB
  have HL : Hid (∀ W, Calls Tryd.prog 11 #[] W fun e w' => e = .returned (.bool true) ∧ Fr noB W w') := fun W => live_true W
  have HC : Hid (∀ W, Fr noB w W → Calls Tryd.prog 12 #[.slice ao l cap, .agg #[.int .i64 1, .string sh, .int .i64 At, .int .i64 N, .string nm]] W fun e w' => e = .returned (.int .i64 0) ∧ Fr noB W w') := fun W hF => by rw [← hll, ← hc]; exact check_all ao cap L 1 sh At N nm W (h.keep hF) hl hN
  have hv1 : celV L 1 sh At N nm s rr c = .tuple #[.agg #[.int .i64 0, .int .i64 0, .int .i64 0], .bool false] := by unfold celV; rw [hrem]; exact if_neg (by simp)
  have HP : Hid (∀ W, Fr noB w W → Calls Tryd.prog 17 #[.slice ao l cap, .agg #[.int .i64 1, .string sh, .int .i64 At, .int .i64 N, .string nm], .agg #[.int .i64 s, .int .i64 rr, .int .i64 c]] W fun e w' => e = .returned (.tuple #[.agg #[.int .i64 0, .int .i64 0, .int .i64 0], .bool false]) ∧ Fr noB W w') := fun W hF => by rw [← hll, ← hv1]; exact pcell_any ao cap L 1 sh At N nm s rr c W (h.keep hF) hl hN
  have HY1 : Hid (∀ W, Fr noB w W → Calls Tryd.prog 21 #[.slice ao l cap, .agg #[.int .i64 1, .string sh, .int .i64 At, .int .i64 N, .string nm], .string own, (.agg #[.string t, .string u, .bool fx, .bool ar, .int .i64 r1, .int .i64 c1, .bool x1, .bool y1, .int .i64 r2, .int .i64 c2, .bool x2, .bool y2])] W fun e w' => e = .returned (.tuple #[(.agg #[.string t, .string u, .bool fx, .bool ar, .int .i64 p1, .int .i64 c1, .bool x1, .bool y1, .int .i64 p2, .int .i64 c2, .bool x2, .bool y2]), .bool true]) ∧ Fr noB W w') := fun W hF => by rw [← hll]; exact HY W hF
  have HZ1 : Hid (∀ W, Fr noB w W → Calls Tryd.prog 21 #[.slice ao l cap, .agg #[.int .i64 2, .string sh, .int .i64 At, .int .i64 N, .string nm], .string own, (.agg #[.string t, .string u, .bool fx, .bool ar, .int .i64 p1, .int .i64 c1, .bool x1, .bool y1, .int .i64 p2, .int .i64 c2, .bool x2, .bool y2])] W fun e w' => e = .returned (.tuple #[(.agg #[.string t, .string u, .bool fx, .bool ar, .int .i64 r1, .int .i64 c1, .bool x1, .bool y1, .int .i64 r2, .int .i64 c2, .bool x2, .bool y2]), .bool true]) ∧ Fr noB W w') := fun W hF => by rw [← hll]; exact HZ W hF
  clear HY HZ
  have hs4 := chk_span hc (by omega)
  unfold limF at hs4
  rw [if_pos (by decide)] at hs4
  have hN0 := rnorm_any t u fx ar r1 c1 x1 y1 r2 c2 x2 y2
  obtain ⟨na, hna⟩ : ∃ x, pkI (swB ar r1 r2) r1 r2 = x := ⟨_, rfl⟩
  obtain ⟨nb, hnb⟩ : ∃ x, pkI (swB ar r1 r2) r2 r1 = x := ⟨_, rfl⟩
  have hmax : max na nb = max r1 r2 := by
    rw [← hna, ← hnb]
    unfold pkI
    split <;> omega
  unfold nrmV at hN0
  rw [hna, hnb] at hN0
  clear hna hnb
  generalize pkI (swB ar c1 c2) c1 c2 = nc at *
  generalize pkI (swB ar c1 c2) c2 c1 = nd at *
  generalize pkB (swB ar r1 r2) x1 x2 = nx at *
  generalize pkB (swB ar c1 c2) y1 y2 = ny at *
  generalize pkB (swB ar r1 r2) x2 x1 = nz at *
  generalize pkB (swB ar c1 c2) y2 y1 = nw at *
  have HNm : Hid (∀ W, Calls Tryd.prog 19 #[(.agg #[.string t, .string u, .bool fx, .bool ar, .int .i64 r1, .int .i64 c1, .bool x1, .bool y1, .int .i64 r2, .int .i64 c2, .bool x2, .bool y2])] W fun e w' => e = .returned (.agg #[.string t, .string u, .bool fx, .bool ar, .int .i64 na, .int .i64 nc, .bool nx, .bool ny, .int .i64 nb, .int .i64 nd, .bool nz, .bool nw]) ∧ Fr noB W w') := fun W => hN0 W
  have HCk : Hid (∀ W, Fr noB w W → Calls Tryd.prog 20 #[(.agg #[.string t, .string u, .bool fx, .bool ar, .int .i64 r1, .int .i64 c1, .bool x1, .bool y1, .int .i64 r2, .int .i64 c2, .bool x2, .bool y2])] W fun e w' => e = .returned (.int .i64 (chkF t u fx ar r1 c1 r2 c2 x2 y2)) ∧ Fr noB W w') := fun W hF => rcheck_any t u fx ar r1 c1 x1 y1 r2 c2 x2 y2 W ht hu (hT.keep hF)
  have hbr := chk_ref hk
  rw [hk] at HCk
  clear hk
  obtain ⟨M, hM⟩ : ∃ M, max na nb = M := ⟨_, rfl⟩
  have hM2 : max r1 r2 = M := hmax.symm.trans hM
  rw [hM2] at hm1
  have hMb : 0 ≤ M ∧ M < 1048576 := by omega
  clear hmax hM2 hbr
  obtain ⟨qs, hqs⟩ : ∃ qs, M + N = qs := ⟨_, rfl⟩
  have hwq : IntKind.i64.wrap qs = qs := by rw [IntKind.wrap_i64]; omega
  clear hqs hwq
  have hm3 : Hid (decide (At ≤ M) = false) := decide_eq_false hm1
  clear hMb
  have bk0 := (HB.out).k.c0; have bk1 := (HB.out).k.c1; have bk2 := (HB.out).k.c2; have bk3 := (HB.out).k.c3; have bk4 := (HB.out).k.c4; have bk5 := (HB.out).k.c5; have bk6 := (HB.out).k.c6
  clear hB h hl hN hT ht hu hrem hv1 hs4 hN0 hc
  rw [hll]
  clear hll
  go_enter Tryd.func6, Tryd.ntmps6
  go_wp2_with (first
    | (with_reducible refine skip_g (15, true) (by rfl) (by simp only [hm3.out]; kernel_rfl) ?_)
    | (go_at_call 12; (with_reducible refine (HC.out _ HB.out.f).mono ?_); rintro e wv1 ⟨rfl, hF1⟩; have HB1 : Hid (BSt w wv1 ao l cap sh At N nm own t u fx ar r1 c1 x1 y1 r2 c2 x2 y2 s rr c) := HB.out.go hF1; clear hF1 bk0 bk1 bk2 bk3 bk4 bk5 bk6)
    | (go_at_call 11; refine (HL.out _).mono ?_; rintro e wv2 ⟨rfl, hF2⟩; have HB2 : Hid (BSt w wv2 ao l cap sh At N nm own t u fx ar r1 c1 x1 y1 r2 c2 x2 y2 s rr c) := HB1.out.go hF2; have dk0 := (HB2.out).k.c0; have dk1 := (HB2.out).k.c1; have dk2 := (HB2.out).k.c2; have dk3 := (HB2.out).k.c3; have dk4 := (HB2.out).k.c4; have dk5 := (HB2.out).k.c5; have dk6 := (HB2.out).k.c6; have da0 := (HB2.out).a.c0; have da1 := (HB2.out).a.c1; have da2 := (HB2.out).a.c2; clear hF2)
    | (go_at_call 17; (with_reducible refine (HP.out _ HB2.out.f).mono ?_); rintro e wv3 ⟨rfl, hF3⟩; have HB3 : Hid (BSt w (wv3.alloc (.cells #[.int .i64 0, .int .i64 0, .int .i64 0] 38 (0, 0))) ao l cap sh At N nm own t u fx ar r1 c1 x1 y1 r2 c2 x2 y2 s rr c) := HB2.out.go (hF3.alloc (.cells #[.int .i64 0, .int .i64 0, .int .i64 0] 38 (0, 0))); have hx3 : AAt (wv3.alloc (.cells #[.int .i64 0, .int .i64 0, .int .i64 0] 38 (0, 0))) wv3.heap.size 0 0 0 := ⟨heap_alloc_new wv3 _⟩; have z0 := hx3.c0; have z1 := hx3.c1; have z2 := hx3.c2; clear hF3 hx3 dk0 dk1 dk2 dk3 dk4 dk5 dk6 da0 da1 da2)
    | (refine wpList_load_row rfl 46 (.tmp 4) rfl (w.heap.size + 1) rfl 46 #[.string t, .string u, .bool fx, .bool ar, .int .i64 r1, .int .i64 c1, .bool x1, .bool y1, .int .i64 r2, .int .i64 c2, .bool x2, .bool y2] (0, 0) _ HB3.out.r.o Tryd.underlying46 rfl info_ref ?_)
    | (go_at_call 19; (with_reducible refine (HNm.out _).mono ?_); rintro e wv5 ⟨rfl, hF5⟩; have HB5 : Hid (BSt w (wv5.alloc (.cells #[.string t, .string u, .bool fx, .bool ar, .int .i64 na, .int .i64 nc, .bool nx, .bool ny, .int .i64 nb, .int .i64 nd, .bool nz, .bool nw] 46 (0, 0))) ao l cap sh At N nm own t u fx ar r1 c1 x1 y1 r2 c2 x2 y2 s rr c) := HB3.out.go (hF5.alloc (.cells #[.string t, .string u, .bool fx, .bool ar, .int .i64 na, .int .i64 nc, .bool nx, .bool ny, .int .i64 nb, .int .i64 nd, .bool nz, .bool nw] 46 (0, 0))); have hn5 : RAt (wv5.alloc (.cells #[.string t, .string u, .bool fx, .bool ar, .int .i64 na, .int .i64 nc, .bool nx, .bool ny, .int .i64 nb, .int .i64 nd, .bool nz, .bool nw] 46 (0, 0))) wv5.heap.size t u fx ar na nc nx ny nb nd nz nw := ⟨heap_alloc_new wv5 _⟩; have HN5 : Hid _ := hn5; clear hF5 hn5 z0 z1 z2)
    | (refine wpList_load_row rfl 46 (.tmp 4) rfl (w.heap.size + 1) rfl 46 #[.string t, .string u, .bool fx, .bool ar, .int .i64 r1, .int .i64 c1, .bool x1, .bool y1, .int .i64 r2, .int .i64 c2, .bool x2, .bool y2] (0, 0) _ HB5.out.r.o Tryd.underlying46 rfl info_ref ?_)
    | (go_at_call 20; (with_reducible refine (HCk.out _ HB5.out.f).mono ?_); rintro e wv6 ⟨rfl, hF6⟩; have HB6 : Hid (BSt w wv6 ao l cap sh At N nm own t u fx ar r1 c1 x1 y1 r2 c2 x2 y2 s rr c) := HB5.out.go hF6; have hn6 := HN5.out.fr hF6 id; have i4 := hn6.g4; have i8 := hn6.g8; have gk0 := (HB6.out).k.c0; have gk1 := (HB6.out).k.c1; have gk2 := (HB6.out).k.c2; have gk3 := (HB6.out).k.c3; have gk4 := (HB6.out).k.c4; have gk5 := (HB6.out).k.c5; have gk6 := (HB6.out).k.c6; clear hF6 hn6)
    | (refine wpList_load_row rfl 46 (.tmp 4) rfl (w.heap.size + 1) rfl 46 #[.string t, .string u, .bool fx, .bool ar, .int .i64 r1, .int .i64 c1, .bool x1, .bool y1, .int .i64 r2, .int .i64 c2, .bool x2, .bool y2] (0, 0) _ HB6.out.r.o Tryd.underlying46 rfl info_ref ?_)
    | (go_at_call 21; (with_reducible refine (HY1.out _ HB6.out.f).mono ?_); rintro e wv7 ⟨rfl, hF7⟩; have HB7 : Hid (BSt w (wv7.alloc (.cells #[.string t, .string u, .bool fx, .bool ar, .int .i64 p1, .int .i64 c1, .bool x1, .bool y1, .int .i64 p2, .int .i64 c2, .bool x2, .bool y2] 46 (0, 0))) ao l cap sh At N nm own t u fx ar r1 c1 x1 y1 r2 c2 x2 y2 s rr c) := HB6.out.go (hF7.alloc (.cells #[.string t, .string u, .bool fx, .bool ar, .int .i64 p1, .int .i64 c1, .bool x1, .bool y1, .int .i64 p2, .int .i64 c2, .bool x2, .bool y2] 46 (0, 0))); have HY7 : Hid (RAt (wv7.alloc (.cells #[.string t, .string u, .bool fx, .bool ar, .int .i64 p1, .int .i64 c1, .bool x1, .bool y1, .int .i64 p2, .int .i64 c2, .bool x2, .bool y2] 46 (0, 0))) wv7.heap.size t u fx ar p1 c1 x1 y1 p2 c2 x2 y2) := ⟨heap_alloc_new wv7 _⟩; have mk0 := (HB7.out).k.c0; have mk1 := (HB7.out).k.c1; have mk2 := (HB7.out).k.c2; have mk3 := (HB7.out).k.c3; have mk4 := (HB7.out).k.c4; have mk5 := (HB7.out).k.c5; have mk6 := (HB7.out).k.c6; have mx0 := (HB7.out).x.c0; have mx1 := (HB7.out).x.c1; have mx2 := (HB7.out).x.c2; have mx3 := (HB7.out).x.c3; have mx4 := (HB7.out).x.c4; clear hF7 gk0 gk1 gk2 gk3 gk4 gk5 gk6 i4 i8)
    | (refine wpList_load_row rfl 46 (.tmp 13) rfl (wv7.heap.size) rfl 46 #[.string t, .string u, .bool fx, .bool ar, .int .i64 p1, .int .i64 c1, .bool x1, .bool y1, .int .i64 p2, .int .i64 c2, .bool x2, .bool y2] (0, 0) _ HY7.out.o Tryd.underlying46 rfl info_ref ?_)
    | (go_at_call 21; (with_reducible refine (HZ1.out _ HB7.out.f).mono ?_); rintro e wv8 ⟨rfl, hF8⟩; have HB8 : Hid (BSt w (wv8.alloc (.cells #[.string t, .string u, .bool fx, .bool ar, .int .i64 r1, .int .i64 c1, .bool x1, .bool y1, .int .i64 r2, .int .i64 c2, .bool x2, .bool y2] 46 (0, 0))) ao l cap sh At N nm own t u fx ar r1 c1 x1 y1 r2 c2 x2 y2 s rr c) := HB7.out.go (hF8.alloc (.cells #[.string t, .string u, .bool fx, .bool ar, .int .i64 r1, .int .i64 c1, .bool x1, .bool y1, .int .i64 r2, .int .i64 c2, .bool x2, .bool y2] 46 (0, 0))); have hz8 : RAt (wv8.alloc (.cells #[.string t, .string u, .bool fx, .bool ar, .int .i64 r1, .int .i64 c1, .bool x1, .bool y1, .int .i64 r2, .int .i64 c2, .bool x2, .bool y2] 46 (0, 0))) wv8.heap.size t u fx ar r1 c1 x1 y1 r2 c2 x2 y2 := ⟨heap_alloc_new wv8 _⟩; have y0z := hz8.g0; have y1z := hz8.g1; have y2z := hz8.g2; have y3z := hz8.g3; have y4z := hz8.g4; have y5z := hz8.g5; have y6z := hz8.g6; have y7z := hz8.g7; have y8z := hz8.g8; have y9z := hz8.g9; have y10z := hz8.g10; have y11z := hz8.g11; have r0z := HB8.out.r.g0; have r1z := HB8.out.r.g1; have r2z := HB8.out.r.g2; have r3z := HB8.out.r.g3; have r4z := HB8.out.r.g4; have r5z := HB8.out.r.g5; have r6z := HB8.out.r.g6; have r7z := HB8.out.r.g7; have r8z := HB8.out.r.g8; have r9z := HB8.out.r.g9; have r10z := HB8.out.r.g10; have r11z := HB8.out.r.g11; clear hF8 hz8 mk0 mk1 mk2 mk3 mk4 mk5 mk6 mx0 mx1 mx2 mx3 mx4))
  go_ret
  exact ⟨ret_bool (by simp), HB8.out.f.below (Nat.le_refl _) (fun _ h => h.elim)⟩
set_option maxRecDepth 100000 in
set_option maxHeartbeats 4000000 in
theorem back_nin (ao : Option Addr) (cap : Nat) (L : List ByteArray) (K : Int) (sh : ByteArray) (At N : Int) (nm own : ByteArray) (t u : ByteArray) (fx ar : Bool) (r1 c1 : Int) (x1 y1 : Bool) (r2 c2 : Int) (x2 y2 : Bool) (s rr c : Int) (w : World) (h : SsAt w ao L) (hl : L.length ≤ 140737488355328) (hN : N ≤ 9223372036854775807) (hT : Tabs w)  (ht : t.size ≤ 140737488355328) (hu : u.size ≤ 140737488355328) (hc : chkS L 1 sh At N nm = 0) (hrem : remB L 1 sh At N nm s rr c = false) (hk : chkF t u fx ar r1 c1 r2 c2 x2 y2 = 0) (hm1 : At ≤ max r1 r2) (hm2 : ¬ 1048576 ≤ max r1 r2 + N)
    (p1 p2 : Int) (HY : ∀ W, Fr noB w W → Calls Tryd.prog 21 #[.slice ao L.length cap, .agg #[.int .i64 1, .string sh, .int .i64 At, .int .i64 N, .string nm], .string own, (.agg #[.string t, .string u, .bool fx, .bool ar, .int .i64 r1, .int .i64 c1, .bool x1, .bool y1, .int .i64 r2, .int .i64 c2, .bool x2, .bool y2])] W fun e w' => e = .returned (.tuple #[(.agg #[.string t, .string u, .bool fx, .bool ar, .int .i64 p1, .int .i64 c1, .bool x1, .bool y1, .int .i64 p2, .int .i64 c2, .bool x2, .bool y2]), .bool true]) ∧ Fr noB W w') (HZ : ∀ W, Fr noB w W → Calls Tryd.prog 21 #[.slice ao L.length cap, .agg #[.int .i64 2, .string sh, .int .i64 At, .int .i64 N, .string nm], .string own, (.agg #[.string t, .string u, .bool fx, .bool ar, .int .i64 p1, .int .i64 c1, .bool x1, .bool y1, .int .i64 p2, .int .i64 c2, .bool x2, .bool y2])] W fun e w' => e = .returned (.tuple #[(.agg #[.string t, .string u, .bool fx, .bool ar, .int .i64 r1, .int .i64 c1, .bool x1, .bool y1, .int .i64 r2, .int .i64 c2, .bool x2, .bool y2]), .bool true]) ∧ Fr noB W w') :
    Calls Tryd.prog 6 #[.agg #[.slice ao L.length cap, .int .i64 K, .string sh, .int .i64 At, .int .i64 N, .string nm, .string own], (.agg #[.string t, .string u, .bool fx, .bool ar, .int .i64 r1, .int .i64 c1, .bool x1, .bool y1, .int .i64 r2, .int .i64 c2, .bool x2, .bool y2]), .agg #[.int .i64 s, .int .i64 rr, .int .i64 c]] w fun e w' => e = .returned (.bool true) ∧ Below w.heap.size w w' := by
  obtain ⟨l, hll⟩ : ∃ l, L.length = l := ⟨_, rfl⟩
  obtain ⟨W0, hW0⟩ : ∃ W0, (((w.alloc (.cells #[.slice ao l cap, .int .i64 1, .string sh, .int .i64 At, .int .i64 N, .string nm, .string own] 26 (0, 0))).alloc (.cells #[.string t, .string u, .bool fx, .bool ar, .int .i64 r1, .int .i64 c1, .bool x1, .bool y1, .int .i64 r2, .int .i64 c2, .bool x2, .bool y2] 46 (0, 0))).alloc (.cells #[.int .i64 s, .int .i64 rr, .int .i64 c] 38 (0, 0))).alloc (.cells #[.int .i64 2, .string sh, .int .i64 At, .int .i64 N, .string nm] 24 (0, 0)) = W0 := ⟨_, rfl⟩
  have hB : BSt w W0 ao l cap sh At N nm own t u fx ar r1 c1 x1 y1 r2 c2 x2 y2 s rr c := by
    rw [← hW0]
    exact ⟨⟨old1 (old1 (old1 (heap_alloc_new w _)))⟩, ⟨old1 (old1 (new1 _ _ _ (by simp)))⟩, ⟨old1 (new1 _ _ _ (by simp))⟩, ⟨new1 _ _ _ (by simp)⟩, ((((Fr.refl noB w).alloc _).alloc _).alloc _).alloc _⟩
  have HB : Hid _ := hB
  have HL : Hid (∀ W, Calls Tryd.prog 11 #[] W fun e w' => e = .returned (.bool true) ∧ Fr noB W w') := fun W => live_true W
  have HC : Hid (∀ W, Fr noB w W → Calls Tryd.prog 12 #[.slice ao l cap, .agg #[.int .i64 1, .string sh, .int .i64 At, .int .i64 N, .string nm]] W fun e w' => e = .returned (.int .i64 0) ∧ Fr noB W w') := fun W hF => by rw [← hll, ← hc]; exact check_all ao cap L 1 sh At N nm W (h.keep hF) hl hN
  have hv1 : celV L 1 sh At N nm s rr c = .tuple #[.agg #[.int .i64 0, .int .i64 0, .int .i64 0], .bool false] := by unfold celV; rw [hrem]; exact if_neg (by simp)
  have HP : Hid (∀ W, Fr noB w W → Calls Tryd.prog 17 #[.slice ao l cap, .agg #[.int .i64 1, .string sh, .int .i64 At, .int .i64 N, .string nm], .agg #[.int .i64 s, .int .i64 rr, .int .i64 c]] W fun e w' => e = .returned (.tuple #[.agg #[.int .i64 0, .int .i64 0, .int .i64 0], .bool false]) ∧ Fr noB W w') := fun W hF => by rw [← hll, ← hv1]; exact pcell_any ao cap L 1 sh At N nm s rr c W (h.keep hF) hl hN
  have HY1 : Hid (∀ W, Fr noB w W → Calls Tryd.prog 21 #[.slice ao l cap, .agg #[.int .i64 1, .string sh, .int .i64 At, .int .i64 N, .string nm], .string own, (.agg #[.string t, .string u, .bool fx, .bool ar, .int .i64 r1, .int .i64 c1, .bool x1, .bool y1, .int .i64 r2, .int .i64 c2, .bool x2, .bool y2])] W fun e w' => e = .returned (.tuple #[(.agg #[.string t, .string u, .bool fx, .bool ar, .int .i64 p1, .int .i64 c1, .bool x1, .bool y1, .int .i64 p2, .int .i64 c2, .bool x2, .bool y2]), .bool true]) ∧ Fr noB W w') := fun W hF => by rw [← hll]; exact HY W hF
  have HZ1 : Hid (∀ W, Fr noB w W → Calls Tryd.prog 21 #[.slice ao l cap, .agg #[.int .i64 2, .string sh, .int .i64 At, .int .i64 N, .string nm], .string own, (.agg #[.string t, .string u, .bool fx, .bool ar, .int .i64 p1, .int .i64 c1, .bool x1, .bool y1, .int .i64 p2, .int .i64 c2, .bool x2, .bool y2])] W fun e w' => e = .returned (.tuple #[(.agg #[.string t, .string u, .bool fx, .bool ar, .int .i64 r1, .int .i64 c1, .bool x1, .bool y1, .int .i64 r2, .int .i64 c2, .bool x2, .bool y2]), .bool true]) ∧ Fr noB W w') := fun W hF => by rw [← hll]; exact HZ W hF
  clear HY HZ
  have hs4 := chk_span hc (by omega)
  unfold limF at hs4
  rw [if_pos (by decide)] at hs4
  have hN0 := rnorm_any t u fx ar r1 c1 x1 y1 r2 c2 x2 y2
  obtain ⟨na, hna⟩ : ∃ x, pkI (swB ar r1 r2) r1 r2 = x := ⟨_, rfl⟩
  obtain ⟨nb, hnb⟩ : ∃ x, pkI (swB ar r1 r2) r2 r1 = x := ⟨_, rfl⟩
  have hmax : max na nb = max r1 r2 := by
    rw [← hna, ← hnb]
    unfold pkI
    split <;> omega
  unfold nrmV at hN0
  rw [hna, hnb] at hN0
  clear hna hnb
  generalize pkI (swB ar c1 c2) c1 c2 = nc at *
  generalize pkI (swB ar c1 c2) c2 c1 = nd at *
  generalize pkB (swB ar r1 r2) x1 x2 = nx at *
  generalize pkB (swB ar c1 c2) y1 y2 = ny at *
  generalize pkB (swB ar r1 r2) x2 x1 = nz at *
  generalize pkB (swB ar c1 c2) y2 y1 = nw at *
  have HNm : Hid (∀ W, Calls Tryd.prog 19 #[(.agg #[.string t, .string u, .bool fx, .bool ar, .int .i64 r1, .int .i64 c1, .bool x1, .bool y1, .int .i64 r2, .int .i64 c2, .bool x2, .bool y2])] W fun e w' => e = .returned (.agg #[.string t, .string u, .bool fx, .bool ar, .int .i64 na, .int .i64 nc, .bool nx, .bool ny, .int .i64 nb, .int .i64 nd, .bool nz, .bool nw]) ∧ Fr noB W w') := fun W => hN0 W
  have HCk : Hid (∀ W, Fr noB w W → Calls Tryd.prog 20 #[(.agg #[.string t, .string u, .bool fx, .bool ar, .int .i64 r1, .int .i64 c1, .bool x1, .bool y1, .int .i64 r2, .int .i64 c2, .bool x2, .bool y2])] W fun e w' => e = .returned (.int .i64 (chkF t u fx ar r1 c1 r2 c2 x2 y2)) ∧ Fr noB W w') := fun W hF => rcheck_any t u fx ar r1 c1 x1 y1 r2 c2 x2 y2 W ht hu (hT.keep hF)
  have hbr := chk_ref hk
  rw [hk] at HCk
  clear hk
  obtain ⟨M, hM⟩ : ∃ M, max na nb = M := ⟨_, rfl⟩
  have hM2 : max r1 r2 = M := hmax.symm.trans hM
  rw [hM2] at hm1 hm2
  have hMb : 0 ≤ M ∧ M < 1048576 := by omega
  clear hmax hM2 hbr
  obtain ⟨qs, hqs⟩ : ∃ qs, M + N = qs := ⟨_, rfl⟩
  have hwq : IntKind.i64.wrap qs = qs := by rw [IntKind.wrap_i64]; omega
  rw [hqs] at hm2
  clear hMb
  have bk0 := (HB.out).k.c0; have bk1 := (HB.out).k.c1; have bk2 := (HB.out).k.c2; have bk3 := (HB.out).k.c3; have bk4 := (HB.out).k.c4; have bk5 := (HB.out).k.c5; have bk6 := (HB.out).k.c6
  clear hB h hl hN hT ht hu hrem hv1 hs4 hN0 hc
  rw [hll]
  clear hll
  go_enter Tryd.func6, Tryd.ntmps6
  go_wp2_with (first
    | (go_at_call 12; (with_reducible refine (HC.out _ HB.out.f).mono ?_); rintro e wv1 ⟨rfl, hF1⟩; have HB1 : Hid (BSt w wv1 ao l cap sh At N nm own t u fx ar r1 c1 x1 y1 r2 c2 x2 y2 s rr c) := HB.out.go hF1; clear hF1 bk0 bk1 bk2 bk3 bk4 bk5 bk6)
    | (go_at_call 11; refine (HL.out _).mono ?_; rintro e wv2 ⟨rfl, hF2⟩; have HB2 : Hid (BSt w wv2 ao l cap sh At N nm own t u fx ar r1 c1 x1 y1 r2 c2 x2 y2 s rr c) := HB1.out.go hF2; have dk0 := (HB2.out).k.c0; have dk1 := (HB2.out).k.c1; have dk2 := (HB2.out).k.c2; have dk3 := (HB2.out).k.c3; have dk4 := (HB2.out).k.c4; have dk5 := (HB2.out).k.c5; have dk6 := (HB2.out).k.c6; have da0 := (HB2.out).a.c0; have da1 := (HB2.out).a.c1; have da2 := (HB2.out).a.c2; clear hF2)
    | (go_at_call 17; (with_reducible refine (HP.out _ HB2.out.f).mono ?_); rintro e wv3 ⟨rfl, hF3⟩; have HB3 : Hid (BSt w (wv3.alloc (.cells #[.int .i64 0, .int .i64 0, .int .i64 0] 38 (0, 0))) ao l cap sh At N nm own t u fx ar r1 c1 x1 y1 r2 c2 x2 y2 s rr c) := HB2.out.go (hF3.alloc (.cells #[.int .i64 0, .int .i64 0, .int .i64 0] 38 (0, 0))); have hx3 : AAt (wv3.alloc (.cells #[.int .i64 0, .int .i64 0, .int .i64 0] 38 (0, 0))) wv3.heap.size 0 0 0 := ⟨heap_alloc_new wv3 _⟩; have z0 := hx3.c0; have z1 := hx3.c1; have z2 := hx3.c2; clear hF3 hx3 dk0 dk1 dk2 dk3 dk4 dk5 dk6 da0 da1 da2)
    | (refine wpList_load_row rfl 46 (.tmp 4) rfl (w.heap.size + 1) rfl 46 #[.string t, .string u, .bool fx, .bool ar, .int .i64 r1, .int .i64 c1, .bool x1, .bool y1, .int .i64 r2, .int .i64 c2, .bool x2, .bool y2] (0, 0) _ HB3.out.r.o Tryd.underlying46 rfl info_ref ?_)
    | (go_at_call 19; (with_reducible refine (HNm.out _).mono ?_); rintro e wv5 ⟨rfl, hF5⟩; have HB5 : Hid (BSt w (wv5.alloc (.cells #[.string t, .string u, .bool fx, .bool ar, .int .i64 na, .int .i64 nc, .bool nx, .bool ny, .int .i64 nb, .int .i64 nd, .bool nz, .bool nw] 46 (0, 0))) ao l cap sh At N nm own t u fx ar r1 c1 x1 y1 r2 c2 x2 y2 s rr c) := HB3.out.go (hF5.alloc (.cells #[.string t, .string u, .bool fx, .bool ar, .int .i64 na, .int .i64 nc, .bool nx, .bool ny, .int .i64 nb, .int .i64 nd, .bool nz, .bool nw] 46 (0, 0))); have hn5 : RAt (wv5.alloc (.cells #[.string t, .string u, .bool fx, .bool ar, .int .i64 na, .int .i64 nc, .bool nx, .bool ny, .int .i64 nb, .int .i64 nd, .bool nz, .bool nw] 46 (0, 0))) wv5.heap.size t u fx ar na nc nx ny nb nd nz nw := ⟨heap_alloc_new wv5 _⟩; have HN5 : Hid _ := hn5; clear hF5 hn5 z0 z1 z2)
    | (refine wpList_load_row rfl 46 (.tmp 4) rfl (w.heap.size + 1) rfl 46 #[.string t, .string u, .bool fx, .bool ar, .int .i64 r1, .int .i64 c1, .bool x1, .bool y1, .int .i64 r2, .int .i64 c2, .bool x2, .bool y2] (0, 0) _ HB5.out.r.o Tryd.underlying46 rfl info_ref ?_)
    | (go_at_call 20; (with_reducible refine (HCk.out _ HB5.out.f).mono ?_); rintro e wv6 ⟨rfl, hF6⟩; have HB6 : Hid (BSt w wv6 ao l cap sh At N nm own t u fx ar r1 c1 x1 y1 r2 c2 x2 y2 s rr c) := HB5.out.go hF6; have hn6 := HN5.out.fr hF6 id; have i4 := hn6.g4; have i8 := hn6.g8; have gk0 := (HB6.out).k.c0; have gk1 := (HB6.out).k.c1; have gk2 := (HB6.out).k.c2; have gk3 := (HB6.out).k.c3; have gk4 := (HB6.out).k.c4; have gk5 := (HB6.out).k.c5; have gk6 := (HB6.out).k.c6; clear hF6 hn6)
    | (refine wpList_load_row rfl 46 (.tmp 4) rfl (w.heap.size + 1) rfl 46 #[.string t, .string u, .bool fx, .bool ar, .int .i64 r1, .int .i64 c1, .bool x1, .bool y1, .int .i64 r2, .int .i64 c2, .bool x2, .bool y2] (0, 0) _ HB6.out.r.o Tryd.underlying46 rfl info_ref ?_)
    | (go_at_call 21; (with_reducible refine (HY1.out _ HB6.out.f).mono ?_); rintro e wv7 ⟨rfl, hF7⟩; have HB7 : Hid (BSt w (wv7.alloc (.cells #[.string t, .string u, .bool fx, .bool ar, .int .i64 p1, .int .i64 c1, .bool x1, .bool y1, .int .i64 p2, .int .i64 c2, .bool x2, .bool y2] 46 (0, 0))) ao l cap sh At N nm own t u fx ar r1 c1 x1 y1 r2 c2 x2 y2 s rr c) := HB6.out.go (hF7.alloc (.cells #[.string t, .string u, .bool fx, .bool ar, .int .i64 p1, .int .i64 c1, .bool x1, .bool y1, .int .i64 p2, .int .i64 c2, .bool x2, .bool y2] 46 (0, 0))); have HY7 : Hid (RAt (wv7.alloc (.cells #[.string t, .string u, .bool fx, .bool ar, .int .i64 p1, .int .i64 c1, .bool x1, .bool y1, .int .i64 p2, .int .i64 c2, .bool x2, .bool y2] 46 (0, 0))) wv7.heap.size t u fx ar p1 c1 x1 y1 p2 c2 x2 y2) := ⟨heap_alloc_new wv7 _⟩; have mk0 := (HB7.out).k.c0; have mk1 := (HB7.out).k.c1; have mk2 := (HB7.out).k.c2; have mk3 := (HB7.out).k.c3; have mk4 := (HB7.out).k.c4; have mk5 := (HB7.out).k.c5; have mk6 := (HB7.out).k.c6; have mx0 := (HB7.out).x.c0; have mx1 := (HB7.out).x.c1; have mx2 := (HB7.out).x.c2; have mx3 := (HB7.out).x.c3; have mx4 := (HB7.out).x.c4; clear hF7 gk0 gk1 gk2 gk3 gk4 gk5 gk6 i4 i8)
    | (refine wpList_load_row rfl 46 (.tmp 13) rfl (wv7.heap.size) rfl 46 #[.string t, .string u, .bool fx, .bool ar, .int .i64 p1, .int .i64 c1, .bool x1, .bool y1, .int .i64 p2, .int .i64 c2, .bool x2, .bool y2] (0, 0) _ HY7.out.o Tryd.underlying46 rfl info_ref ?_)
    | (go_at_call 21; (with_reducible refine (HZ1.out _ HB7.out.f).mono ?_); rintro e wv8 ⟨rfl, hF8⟩; have HB8 : Hid (BSt w (wv8.alloc (.cells #[.string t, .string u, .bool fx, .bool ar, .int .i64 r1, .int .i64 c1, .bool x1, .bool y1, .int .i64 r2, .int .i64 c2, .bool x2, .bool y2] 46 (0, 0))) ao l cap sh At N nm own t u fx ar r1 c1 x1 y1 r2 c2 x2 y2 s rr c) := HB7.out.go (hF8.alloc (.cells #[.string t, .string u, .bool fx, .bool ar, .int .i64 r1, .int .i64 c1, .bool x1, .bool y1, .int .i64 r2, .int .i64 c2, .bool x2, .bool y2] 46 (0, 0))); have hz8 : RAt (wv8.alloc (.cells #[.string t, .string u, .bool fx, .bool ar, .int .i64 r1, .int .i64 c1, .bool x1, .bool y1, .int .i64 r2, .int .i64 c2, .bool x2, .bool y2] 46 (0, 0))) wv8.heap.size t u fx ar r1 c1 x1 y1 r2 c2 x2 y2 := ⟨heap_alloc_new wv8 _⟩; have y0z := hz8.g0; have y1z := hz8.g1; have y2z := hz8.g2; have y3z := hz8.g3; have y4z := hz8.g4; have y5z := hz8.g5; have y6z := hz8.g6; have y7z := hz8.g7; have y8z := hz8.g8; have y9z := hz8.g9; have y10z := hz8.g10; have y11z := hz8.g11; have r0z := HB8.out.r.g0; have r1z := HB8.out.r.g1; have r2z := HB8.out.r.g2; have r3z := HB8.out.r.g3; have r4z := HB8.out.r.g4; have r5z := HB8.out.r.g5; have r6z := HB8.out.r.g6; have r7z := HB8.out.r.g7; have r8z := HB8.out.r.g8; have r9z := HB8.out.r.g9; have r10z := HB8.out.r.g10; have r11z := HB8.out.r.g11; clear hF8 hz8 mk0 mk1 mk2 mk3 mk4 mk5 mk6 mx0 mx1 mx2 mx3 mx4))
  go_ret
  exact ⟨ret_bool (by simp), HB8.out.f.below (Nat.le_refl _) (fun _ h => h.elim)⟩
set_option maxRecDepth 100000 in
set_option maxHeartbeats 4000000 in
theorem back_cbad (ao : Option Addr) (cap : Nat) (L : List ByteArray) (K : Int) (sh : ByteArray) (At N : Int) (nm own : ByteArray) (t u : ByteArray) (fx ar : Bool) (r1 c1 : Int) (x1 y1 : Bool) (r2 c2 : Int) (x2 y2 : Bool) (s rr c : Int) (w : World) (h : SsAt w ao L) (hl : L.length ≤ 140737488355328) (hN : N ≤ 9223372036854775807) (hT : Tabs w)  (ht : t.size ≤ 140737488355328) (hu : u.size ≤ 140737488355328) (hc : chkS L 1 sh At N nm = 0) (hrem : remB L 1 sh At N nm s rr c = true) (hk : ¬ chkF t u fx ar r1 c1 r2 c2 x2 y2 = 0) :
    Calls Tryd.prog 6 #[.agg #[.slice ao L.length cap, .int .i64 K, .string sh, .int .i64 At, .int .i64 N, .string nm, .string own], (.agg #[.string t, .string u, .bool fx, .bool ar, .int .i64 r1, .int .i64 c1, .bool x1, .bool y1, .int .i64 r2, .int .i64 c2, .bool x2, .bool y2]), .agg #[.int .i64 s, .int .i64 rr, .int .i64 c]] w fun e w' => e = .returned (.bool true) ∧ Below w.heap.size w w' := by
  obtain ⟨l, hll⟩ : ∃ l, L.length = l := ⟨_, rfl⟩
  obtain ⟨W0, hW0⟩ : ∃ W0, (((w.alloc (.cells #[.slice ao l cap, .int .i64 1, .string sh, .int .i64 At, .int .i64 N, .string nm, .string own] 26 (0, 0))).alloc (.cells #[.string t, .string u, .bool fx, .bool ar, .int .i64 r1, .int .i64 c1, .bool x1, .bool y1, .int .i64 r2, .int .i64 c2, .bool x2, .bool y2] 46 (0, 0))).alloc (.cells #[.int .i64 s, .int .i64 rr, .int .i64 c] 38 (0, 0))).alloc (.cells #[.int .i64 2, .string sh, .int .i64 At, .int .i64 N, .string nm] 24 (0, 0)) = W0 := ⟨_, rfl⟩
  have hB : BSt w W0 ao l cap sh At N nm own t u fx ar r1 c1 x1 y1 r2 c2 x2 y2 s rr c := by
    rw [← hW0]
    exact ⟨⟨old1 (old1 (old1 (heap_alloc_new w _)))⟩, ⟨old1 (old1 (new1 _ _ _ (by simp)))⟩, ⟨old1 (new1 _ _ _ (by simp))⟩, ⟨new1 _ _ _ (by simp)⟩, ((((Fr.refl noB w).alloc _).alloc _).alloc _).alloc _⟩
  have HB : Hid _ := hB
  have HL : Hid (∀ W, Calls Tryd.prog 11 #[] W fun e w' => e = .returned (.bool true) ∧ Fr noB W w') := fun W => live_true W
  have HC : Hid (∀ W, Fr noB w W → Calls Tryd.prog 12 #[.slice ao l cap, .agg #[.int .i64 1, .string sh, .int .i64 At, .int .i64 N, .string nm]] W fun e w' => e = .returned (.int .i64 0) ∧ Fr noB W w') := fun W hF => by rw [← hll, ← hc]; exact check_all ao cap L 1 sh At N nm W (h.keep hF) hl hN
  have hv1 : celV L 1 sh At N nm s rr c = .tuple #[.agg #[.int .i64 (ceS (fndN L sh : Int) 1 At s), .int .i64 (ceR (fndN L sh : Int) 1 At N s rr), .int .i64 (ceC (fndN L sh : Int) 1 At N s c)], .bool true] := by unfold celV; rw [if_pos hrem]
  have hv2 := cell_back hrem
  generalize ceS (fndN L sh : Int) 1 At s = q1 at *
  generalize ceR (fndN L sh : Int) 1 At N s rr = q2 at *
  generalize ceC (fndN L sh : Int) 1 At N s c = q3 at *
  have HQ : Hid (∀ W, Fr noB w W → Calls Tryd.prog 17 #[.slice ao l cap, .agg #[.int .i64 2, .string sh, .int .i64 At, .int .i64 N, .string nm], .agg #[.int .i64 q1, .int .i64 q2, .int .i64 q3]] W fun e w' => e = .returned (.tuple #[.agg #[.int .i64 s, .int .i64 rr, .int .i64 c], .bool true]) ∧ Fr noB W w') := fun W hF => by rw [← hll, ← hv2]; exact pcell_any ao cap L 2 sh At N nm q1 q2 q3 W (h.keep hF) hl hN
  have HP : Hid (∀ W, Fr noB w W → Calls Tryd.prog 17 #[.slice ao l cap, .agg #[.int .i64 1, .string sh, .int .i64 At, .int .i64 N, .string nm], .agg #[.int .i64 s, .int .i64 rr, .int .i64 c]] W fun e w' => e = .returned (.tuple #[.agg #[.int .i64 q1, .int .i64 q2, .int .i64 q3], .bool true]) ∧ Fr noB W w') := fun W hF => by rw [← hll, ← hv1]; exact pcell_any ao cap L 1 sh At N nm s rr c W (h.keep hF) hl hN
  have hs4 := chk_span hc (by omega)
  unfold limF at hs4
  rw [if_pos (by decide)] at hs4
  have hN0 := rnorm_any t u fx ar r1 c1 x1 y1 r2 c2 x2 y2
  obtain ⟨na, hna⟩ : ∃ x, pkI (swB ar r1 r2) r1 r2 = x := ⟨_, rfl⟩
  obtain ⟨nb, hnb⟩ : ∃ x, pkI (swB ar r1 r2) r2 r1 = x := ⟨_, rfl⟩
  have hmax : max na nb = max r1 r2 := by
    rw [← hna, ← hnb]
    unfold pkI
    split <;> omega
  unfold nrmV at hN0
  rw [hna, hnb] at hN0
  clear hna hnb
  generalize pkI (swB ar c1 c2) c1 c2 = nc at *
  generalize pkI (swB ar c1 c2) c2 c1 = nd at *
  generalize pkB (swB ar r1 r2) x1 x2 = nx at *
  generalize pkB (swB ar c1 c2) y1 y2 = ny at *
  generalize pkB (swB ar r1 r2) x2 x1 = nz at *
  generalize pkB (swB ar c1 c2) y2 y1 = nw at *
  have HNm : Hid (∀ W, Calls Tryd.prog 19 #[(.agg #[.string t, .string u, .bool fx, .bool ar, .int .i64 r1, .int .i64 c1, .bool x1, .bool y1, .int .i64 r2, .int .i64 c2, .bool x2, .bool y2])] W fun e w' => e = .returned (.agg #[.string t, .string u, .bool fx, .bool ar, .int .i64 na, .int .i64 nc, .bool nx, .bool ny, .int .i64 nb, .int .i64 nd, .bool nz, .bool nw]) ∧ Fr noB W w') := fun W => hN0 W
  have HCk : Hid (∀ W, Fr noB w W → Calls Tryd.prog 20 #[(.agg #[.string t, .string u, .bool fx, .bool ar, .int .i64 r1, .int .i64 c1, .bool x1, .bool y1, .int .i64 r2, .int .i64 c2, .bool x2, .bool y2])] W fun e w' => e = .returned (.int .i64 (chkF t u fx ar r1 c1 r2 c2 x2 y2)) ∧ Fr noB W w') := fun W hF => rcheck_any t u fx ar r1 c1 x1 y1 r2 c2 x2 y2 W ht hu (hT.keep hF)
  generalize chkF t u fx ar r1 c1 r2 c2 x2 y2 = kv at *
  have hkv : (kv != 0) = true := by simpa using hk
  clear hk hmax
  have bk0 := (HB.out).k.c0; have bk1 := (HB.out).k.c1; have bk2 := (HB.out).k.c2; have bk3 := (HB.out).k.c3; have bk4 := (HB.out).k.c4; have bk5 := (HB.out).k.c5; have bk6 := (HB.out).k.c6
  clear hB h hl hN hT ht hu hrem hv1 hv2 hs4 hN0 hc
  rw [hll]
  clear hll
  go_enter Tryd.func6, Tryd.ntmps6
  go_wp2_with (first
    | (with_reducible refine skip_g (3, false) (by rfl) (by kernel_rfl) ?_)
    | (with_reducible refine skip_g (15, true) (by rfl) (by kernel_rfl) ?_)
    | (go_at_call 12; (with_reducible refine (HC.out _ HB.out.f).mono ?_); rintro e wv1 ⟨rfl, hF1⟩; have HB1 : Hid (BSt w wv1 ao l cap sh At N nm own t u fx ar r1 c1 x1 y1 r2 c2 x2 y2 s rr c) := HB.out.go hF1; clear hF1 bk0 bk1 bk2 bk3 bk4 bk5 bk6)
    | (go_at_call 11; refine (HL.out _).mono ?_; rintro e wv2 ⟨rfl, hF2⟩; have HB2 : Hid (BSt w wv2 ao l cap sh At N nm own t u fx ar r1 c1 x1 y1 r2 c2 x2 y2 s rr c) := HB1.out.go hF2; have dk0 := (HB2.out).k.c0; have dk1 := (HB2.out).k.c1; have dk2 := (HB2.out).k.c2; have dk3 := (HB2.out).k.c3; have dk4 := (HB2.out).k.c4; have dk5 := (HB2.out).k.c5; have dk6 := (HB2.out).k.c6; have da0 := (HB2.out).a.c0; have da1 := (HB2.out).a.c1; have da2 := (HB2.out).a.c2; clear hF2)
    | (go_at_call 17; (with_reducible refine (HP.out _ HB2.out.f).mono ?_); rintro e wv3 ⟨rfl, hF3⟩; have HB3 : Hid (BSt w (wv3.alloc (.cells #[.int .i64 q1, .int .i64 q2, .int .i64 q3] 38 (0, 0))) ao l cap sh At N nm own t u fx ar r1 c1 x1 y1 r2 c2 x2 y2 s rr c) := HB2.out.go (hF3.alloc (.cells #[.int .i64 q1, .int .i64 q2, .int .i64 q3] 38 (0, 0))); have hx3 : AAt (wv3.alloc (.cells #[.int .i64 q1, .int .i64 q2, .int .i64 q3] 38 (0, 0))) wv3.heap.size q1 q2 q3 := ⟨heap_alloc_new wv3 _⟩; have ek0 := (HB3.out).k.c0; have ek1 := (HB3.out).k.c1; have ek2 := (HB3.out).k.c2; have ek3 := (HB3.out).k.c3; have ek4 := (HB3.out).k.c4; have ek5 := (HB3.out).k.c5; have ek6 := (HB3.out).k.c6; have ex0 := (HB3.out).x.c0; have ex1 := (HB3.out).x.c1; have ex2 := (HB3.out).x.c2; have ex3 := (HB3.out).x.c3; have ex4 := (HB3.out).x.c4; have z0 := hx3.c0; have z1 := hx3.c1; have z2 := hx3.c2; clear hF3 hx3 dk0 dk1 dk2 dk3 dk4 dk5 dk6 da0 da1 da2)
    | (go_at_call 17; (with_reducible refine (HQ.out _ HB3.out.f).mono ?_); rintro e wv4 ⟨rfl, hF4⟩; have HB4 : Hid (BSt w (wv4.alloc (.cells #[.int .i64 s, .int .i64 rr, .int .i64 c] 38 (0, 0))) ao l cap sh At N nm own t u fx ar r1 c1 x1 y1 r2 c2 x2 y2 s rr c) := HB3.out.go (hF4.alloc (.cells #[.int .i64 s, .int .i64 rr, .int .i64 c] 38 (0, 0))); have hx4 : AAt (wv4.alloc (.cells #[.int .i64 s, .int .i64 rr, .int .i64 c] 38 (0, 0))) wv4.heap.size s rr c := ⟨heap_alloc_new wv4 _⟩; have fa0 := (HB4.out).a.c0; have fa1 := (HB4.out).a.c1; have fa2 := (HB4.out).a.c2; have z3 := hx4.c0; have z4 := hx4.c1; have z5 := hx4.c2; clear hF4 hx4 ek0 ek1 ek2 ek3 ek4 ek5 ek6 ex0 ex1 ex2 ex3 ex4 z0 z1 z2)
    | (refine wpList_load_row rfl 46 (.tmp 4) rfl (w.heap.size + 1) rfl 46 #[.string t, .string u, .bool fx, .bool ar, .int .i64 r1, .int .i64 c1, .bool x1, .bool y1, .int .i64 r2, .int .i64 c2, .bool x2, .bool y2] (0, 0) _ HB4.out.r.o Tryd.underlying46 rfl info_ref ?_)
    | (go_at_call 19; (with_reducible refine (HNm.out _).mono ?_); rintro e wv5 ⟨rfl, hF5⟩; have HB5 : Hid (BSt w (wv5.alloc (.cells #[.string t, .string u, .bool fx, .bool ar, .int .i64 na, .int .i64 nc, .bool nx, .bool ny, .int .i64 nb, .int .i64 nd, .bool nz, .bool nw] 46 (0, 0))) ao l cap sh At N nm own t u fx ar r1 c1 x1 y1 r2 c2 x2 y2 s rr c) := HB4.out.go (hF5.alloc (.cells #[.string t, .string u, .bool fx, .bool ar, .int .i64 na, .int .i64 nc, .bool nx, .bool ny, .int .i64 nb, .int .i64 nd, .bool nz, .bool nw] 46 (0, 0))); have hn5 : RAt (wv5.alloc (.cells #[.string t, .string u, .bool fx, .bool ar, .int .i64 na, .int .i64 nc, .bool nx, .bool ny, .int .i64 nb, .int .i64 nd, .bool nz, .bool nw] 46 (0, 0))) wv5.heap.size t u fx ar na nc nx ny nb nd nz nw := ⟨heap_alloc_new wv5 _⟩; have HN5 : Hid _ := hn5; clear hF5 hn5 fa0 fa1 fa2 z3 z4 z5)
    | (refine wpList_load_row rfl 46 (.tmp 4) rfl (w.heap.size + 1) rfl 46 #[.string t, .string u, .bool fx, .bool ar, .int .i64 r1, .int .i64 c1, .bool x1, .bool y1, .int .i64 r2, .int .i64 c2, .bool x2, .bool y2] (0, 0) _ HB5.out.r.o Tryd.underlying46 rfl info_ref ?_)
    | (go_at_call 20; (with_reducible refine (HCk.out _ HB5.out.f).mono ?_); rintro e wv6 ⟨rfl, hF6⟩; have HB6 : Hid (BSt w wv6 ao l cap sh At N nm own t u fx ar r1 c1 x1 y1 r2 c2 x2 y2 s rr c) := HB5.out.go hF6; have hn6 := HN5.out.fr hF6 id; have i4 := hn6.g4; have i8 := hn6.g8; have gk0 := (HB6.out).k.c0; have gk1 := (HB6.out).k.c1; have gk2 := (HB6.out).k.c2; have gk3 := (HB6.out).k.c3; have gk4 := (HB6.out).k.c4; have gk5 := (HB6.out).k.c5; have gk6 := (HB6.out).k.c6; clear hF6 hn6))
  go_ret
  exact ⟨ret_bool (by simp), HB6.out.f.below (Nat.le_refl _) (fun _ h => h.elim)⟩
set_option maxRecDepth 100000 in
set_option maxHeartbeats 4000000 in
theorem back_cfar (ao : Option Addr) (cap : Nat) (L : List ByteArray) (K : Int) (sh : ByteArray) (At N : Int) (nm own : ByteArray) (t u : ByteArray) (fx ar : Bool) (r1 c1 : Int) (x1 y1 : Bool) (r2 c2 : Int) (x2 y2 : Bool) (s rr c : Int) (w : World) (h : SsAt w ao L) (hl : L.length ≤ 140737488355328) (hN : N ≤ 9223372036854775807) (hT : Tabs w)  (ht : t.size ≤ 140737488355328) (hu : u.size ≤ 140737488355328) (hc : chkS L 1 sh At N nm = 0) (hrem : remB L 1 sh At N nm s rr c = true) (hk : chkF t u fx ar r1 c1 r2 c2 x2 y2 = 0) (hm1 : At ≤ max r1 r2) (hm2 : 1048576 ≤ max r1 r2 + N) :
    Calls Tryd.prog 6 #[.agg #[.slice ao L.length cap, .int .i64 K, .string sh, .int .i64 At, .int .i64 N, .string nm, .string own], (.agg #[.string t, .string u, .bool fx, .bool ar, .int .i64 r1, .int .i64 c1, .bool x1, .bool y1, .int .i64 r2, .int .i64 c2, .bool x2, .bool y2]), .agg #[.int .i64 s, .int .i64 rr, .int .i64 c]] w fun e w' => e = .returned (.bool true) ∧ Below w.heap.size w w' := by
  obtain ⟨l, hll⟩ : ∃ l, L.length = l := ⟨_, rfl⟩
  obtain ⟨W0, hW0⟩ : ∃ W0, (((w.alloc (.cells #[.slice ao l cap, .int .i64 1, .string sh, .int .i64 At, .int .i64 N, .string nm, .string own] 26 (0, 0))).alloc (.cells #[.string t, .string u, .bool fx, .bool ar, .int .i64 r1, .int .i64 c1, .bool x1, .bool y1, .int .i64 r2, .int .i64 c2, .bool x2, .bool y2] 46 (0, 0))).alloc (.cells #[.int .i64 s, .int .i64 rr, .int .i64 c] 38 (0, 0))).alloc (.cells #[.int .i64 2, .string sh, .int .i64 At, .int .i64 N, .string nm] 24 (0, 0)) = W0 := ⟨_, rfl⟩
  have hB : BSt w W0 ao l cap sh At N nm own t u fx ar r1 c1 x1 y1 r2 c2 x2 y2 s rr c := by
    rw [← hW0]
    exact ⟨⟨old1 (old1 (old1 (heap_alloc_new w _)))⟩, ⟨old1 (old1 (new1 _ _ _ (by simp)))⟩, ⟨old1 (new1 _ _ _ (by simp))⟩, ⟨new1 _ _ _ (by simp)⟩, ((((Fr.refl noB w).alloc _).alloc _).alloc _).alloc _⟩
  have HB : Hid _ := hB
  have HL : Hid (∀ W, Calls Tryd.prog 11 #[] W fun e w' => e = .returned (.bool true) ∧ Fr noB W w') := fun W => live_true W
  have HC : Hid (∀ W, Fr noB w W → Calls Tryd.prog 12 #[.slice ao l cap, .agg #[.int .i64 1, .string sh, .int .i64 At, .int .i64 N, .string nm]] W fun e w' => e = .returned (.int .i64 0) ∧ Fr noB W w') := fun W hF => by rw [← hll, ← hc]; exact check_all ao cap L 1 sh At N nm W (h.keep hF) hl hN
  have hv1 : celV L 1 sh At N nm s rr c = .tuple #[.agg #[.int .i64 (ceS (fndN L sh : Int) 1 At s), .int .i64 (ceR (fndN L sh : Int) 1 At N s rr), .int .i64 (ceC (fndN L sh : Int) 1 At N s c)], .bool true] := by unfold celV; rw [if_pos hrem]
  have hv2 := cell_back hrem
  generalize ceS (fndN L sh : Int) 1 At s = q1 at *
  generalize ceR (fndN L sh : Int) 1 At N s rr = q2 at *
  generalize ceC (fndN L sh : Int) 1 At N s c = q3 at *
  have HQ : Hid (∀ W, Fr noB w W → Calls Tryd.prog 17 #[.slice ao l cap, .agg #[.int .i64 2, .string sh, .int .i64 At, .int .i64 N, .string nm], .agg #[.int .i64 q1, .int .i64 q2, .int .i64 q3]] W fun e w' => e = .returned (.tuple #[.agg #[.int .i64 s, .int .i64 rr, .int .i64 c], .bool true]) ∧ Fr noB W w') := fun W hF => by rw [← hll, ← hv2]; exact pcell_any ao cap L 2 sh At N nm q1 q2 q3 W (h.keep hF) hl hN
  have HP : Hid (∀ W, Fr noB w W → Calls Tryd.prog 17 #[.slice ao l cap, .agg #[.int .i64 1, .string sh, .int .i64 At, .int .i64 N, .string nm], .agg #[.int .i64 s, .int .i64 rr, .int .i64 c]] W fun e w' => e = .returned (.tuple #[.agg #[.int .i64 q1, .int .i64 q2, .int .i64 q3], .bool true]) ∧ Fr noB W w') := fun W hF => by rw [← hll, ← hv1]; exact pcell_any ao cap L 1 sh At N nm s rr c W (h.keep hF) hl hN
  have hs4 := chk_span hc (by omega)
  unfold limF at hs4
  rw [if_pos (by decide)] at hs4
  have hN0 := rnorm_any t u fx ar r1 c1 x1 y1 r2 c2 x2 y2
  obtain ⟨na, hna⟩ : ∃ x, pkI (swB ar r1 r2) r1 r2 = x := ⟨_, rfl⟩
  obtain ⟨nb, hnb⟩ : ∃ x, pkI (swB ar r1 r2) r2 r1 = x := ⟨_, rfl⟩
  have hmax : max na nb = max r1 r2 := by
    rw [← hna, ← hnb]
    unfold pkI
    split <;> omega
  unfold nrmV at hN0
  rw [hna, hnb] at hN0
  clear hna hnb
  generalize pkI (swB ar c1 c2) c1 c2 = nc at *
  generalize pkI (swB ar c1 c2) c2 c1 = nd at *
  generalize pkB (swB ar r1 r2) x1 x2 = nx at *
  generalize pkB (swB ar c1 c2) y1 y2 = ny at *
  generalize pkB (swB ar r1 r2) x2 x1 = nz at *
  generalize pkB (swB ar c1 c2) y2 y1 = nw at *
  have HNm : Hid (∀ W, Calls Tryd.prog 19 #[(.agg #[.string t, .string u, .bool fx, .bool ar, .int .i64 r1, .int .i64 c1, .bool x1, .bool y1, .int .i64 r2, .int .i64 c2, .bool x2, .bool y2])] W fun e w' => e = .returned (.agg #[.string t, .string u, .bool fx, .bool ar, .int .i64 na, .int .i64 nc, .bool nx, .bool ny, .int .i64 nb, .int .i64 nd, .bool nz, .bool nw]) ∧ Fr noB W w') := fun W => hN0 W
  have HCk : Hid (∀ W, Fr noB w W → Calls Tryd.prog 20 #[(.agg #[.string t, .string u, .bool fx, .bool ar, .int .i64 r1, .int .i64 c1, .bool x1, .bool y1, .int .i64 r2, .int .i64 c2, .bool x2, .bool y2])] W fun e w' => e = .returned (.int .i64 (chkF t u fx ar r1 c1 r2 c2 x2 y2)) ∧ Fr noB W w') := fun W hF => rcheck_any t u fx ar r1 c1 x1 y1 r2 c2 x2 y2 W ht hu (hT.keep hF)
  have hbr := chk_ref hk
  rw [hk] at HCk
  clear hk
  obtain ⟨M, hM⟩ : ∃ M, max na nb = M := ⟨_, rfl⟩
  have hM2 : max r1 r2 = M := hmax.symm.trans hM
  rw [hM2] at hm1 hm2
  have hMb : 0 ≤ M ∧ M < 1048576 := by omega
  clear hmax hM2 hbr
  obtain ⟨qs, hqs⟩ : ∃ qs, M + N = qs := ⟨_, rfl⟩
  have hwq : IntKind.i64.wrap qs = qs := by rw [IntKind.wrap_i64]; omega
  rw [hqs] at hm2
  clear hMb
  have bk0 := (HB.out).k.c0; have bk1 := (HB.out).k.c1; have bk2 := (HB.out).k.c2; have bk3 := (HB.out).k.c3; have bk4 := (HB.out).k.c4; have bk5 := (HB.out).k.c5; have bk6 := (HB.out).k.c6
  clear hB h hl hN hT ht hu hrem hv1 hv2 hs4 hN0 hc
  rw [hll]
  clear hll
  go_enter Tryd.func6, Tryd.ntmps6
  go_wp2_with (first
    | (go_at_call 12; (with_reducible refine (HC.out _ HB.out.f).mono ?_); rintro e wv1 ⟨rfl, hF1⟩; have HB1 : Hid (BSt w wv1 ao l cap sh At N nm own t u fx ar r1 c1 x1 y1 r2 c2 x2 y2 s rr c) := HB.out.go hF1; clear hF1 bk0 bk1 bk2 bk3 bk4 bk5 bk6)
    | (go_at_call 11; refine (HL.out _).mono ?_; rintro e wv2 ⟨rfl, hF2⟩; have HB2 : Hid (BSt w wv2 ao l cap sh At N nm own t u fx ar r1 c1 x1 y1 r2 c2 x2 y2 s rr c) := HB1.out.go hF2; have dk0 := (HB2.out).k.c0; have dk1 := (HB2.out).k.c1; have dk2 := (HB2.out).k.c2; have dk3 := (HB2.out).k.c3; have dk4 := (HB2.out).k.c4; have dk5 := (HB2.out).k.c5; have dk6 := (HB2.out).k.c6; have da0 := (HB2.out).a.c0; have da1 := (HB2.out).a.c1; have da2 := (HB2.out).a.c2; clear hF2)
    | (go_at_call 17; (with_reducible refine (HP.out _ HB2.out.f).mono ?_); rintro e wv3 ⟨rfl, hF3⟩; have HB3 : Hid (BSt w (wv3.alloc (.cells #[.int .i64 q1, .int .i64 q2, .int .i64 q3] 38 (0, 0))) ao l cap sh At N nm own t u fx ar r1 c1 x1 y1 r2 c2 x2 y2 s rr c) := HB2.out.go (hF3.alloc (.cells #[.int .i64 q1, .int .i64 q2, .int .i64 q3] 38 (0, 0))); have hx3 : AAt (wv3.alloc (.cells #[.int .i64 q1, .int .i64 q2, .int .i64 q3] 38 (0, 0))) wv3.heap.size q1 q2 q3 := ⟨heap_alloc_new wv3 _⟩; have ek0 := (HB3.out).k.c0; have ek1 := (HB3.out).k.c1; have ek2 := (HB3.out).k.c2; have ek3 := (HB3.out).k.c3; have ek4 := (HB3.out).k.c4; have ek5 := (HB3.out).k.c5; have ek6 := (HB3.out).k.c6; have ex0 := (HB3.out).x.c0; have ex1 := (HB3.out).x.c1; have ex2 := (HB3.out).x.c2; have ex3 := (HB3.out).x.c3; have ex4 := (HB3.out).x.c4; have z0 := hx3.c0; have z1 := hx3.c1; have z2 := hx3.c2; clear hF3 hx3 dk0 dk1 dk2 dk3 dk4 dk5 dk6 da0 da1 da2)
    | (go_at_call 17; (with_reducible refine (HQ.out _ HB3.out.f).mono ?_); rintro e wv4 ⟨rfl, hF4⟩; have HB4 : Hid (BSt w (wv4.alloc (.cells #[.int .i64 s, .int .i64 rr, .int .i64 c] 38 (0, 0))) ao l cap sh At N nm own t u fx ar r1 c1 x1 y1 r2 c2 x2 y2 s rr c) := HB3.out.go (hF4.alloc (.cells #[.int .i64 s, .int .i64 rr, .int .i64 c] 38 (0, 0))); have hx4 : AAt (wv4.alloc (.cells #[.int .i64 s, .int .i64 rr, .int .i64 c] 38 (0, 0))) wv4.heap.size s rr c := ⟨heap_alloc_new wv4 _⟩; have fa0 := (HB4.out).a.c0; have fa1 := (HB4.out).a.c1; have fa2 := (HB4.out).a.c2; have z3 := hx4.c0; have z4 := hx4.c1; have z5 := hx4.c2; clear hF4 hx4 ek0 ek1 ek2 ek3 ek4 ek5 ek6 ex0 ex1 ex2 ex3 ex4 z0 z1 z2)
    | (refine wpList_load_row rfl 46 (.tmp 4) rfl (w.heap.size + 1) rfl 46 #[.string t, .string u, .bool fx, .bool ar, .int .i64 r1, .int .i64 c1, .bool x1, .bool y1, .int .i64 r2, .int .i64 c2, .bool x2, .bool y2] (0, 0) _ HB4.out.r.o Tryd.underlying46 rfl info_ref ?_)
    | (go_at_call 19; (with_reducible refine (HNm.out _).mono ?_); rintro e wv5 ⟨rfl, hF5⟩; have HB5 : Hid (BSt w (wv5.alloc (.cells #[.string t, .string u, .bool fx, .bool ar, .int .i64 na, .int .i64 nc, .bool nx, .bool ny, .int .i64 nb, .int .i64 nd, .bool nz, .bool nw] 46 (0, 0))) ao l cap sh At N nm own t u fx ar r1 c1 x1 y1 r2 c2 x2 y2 s rr c) := HB4.out.go (hF5.alloc (.cells #[.string t, .string u, .bool fx, .bool ar, .int .i64 na, .int .i64 nc, .bool nx, .bool ny, .int .i64 nb, .int .i64 nd, .bool nz, .bool nw] 46 (0, 0))); have hn5 : RAt (wv5.alloc (.cells #[.string t, .string u, .bool fx, .bool ar, .int .i64 na, .int .i64 nc, .bool nx, .bool ny, .int .i64 nb, .int .i64 nd, .bool nz, .bool nw] 46 (0, 0))) wv5.heap.size t u fx ar na nc nx ny nb nd nz nw := ⟨heap_alloc_new wv5 _⟩; have HN5 : Hid _ := hn5; clear hF5 hn5 fa0 fa1 fa2 z3 z4 z5)
    | (refine wpList_load_row rfl 46 (.tmp 4) rfl (w.heap.size + 1) rfl 46 #[.string t, .string u, .bool fx, .bool ar, .int .i64 r1, .int .i64 c1, .bool x1, .bool y1, .int .i64 r2, .int .i64 c2, .bool x2, .bool y2] (0, 0) _ HB5.out.r.o Tryd.underlying46 rfl info_ref ?_)
    | (go_at_call 20; (with_reducible refine (HCk.out _ HB5.out.f).mono ?_); rintro e wv6 ⟨rfl, hF6⟩; have HB6 : Hid (BSt w wv6 ao l cap sh At N nm own t u fx ar r1 c1 x1 y1 r2 c2 x2 y2 s rr c) := HB5.out.go hF6; have hn6 := HN5.out.fr hF6 id; have i4 := hn6.g4; have i8 := hn6.g8; have gk0 := (HB6.out).k.c0; have gk1 := (HB6.out).k.c1; have gk2 := (HB6.out).k.c2; have gk3 := (HB6.out).k.c3; have gk4 := (HB6.out).k.c4; have gk5 := (HB6.out).k.c5; have gk6 := (HB6.out).k.c6; clear hF6 hn6))
  go_ret
  exact ⟨ret_bool (by simp), HB6.out.f.below (Nat.le_refl _) (fun _ h => h.elim)⟩
set_option maxRecDepth 100000 in
set_option maxHeartbeats 4000000 in
theorem back_clow (ao : Option Addr) (cap : Nat) (L : List ByteArray) (K : Int) (sh : ByteArray) (At N : Int) (nm own : ByteArray) (t u : ByteArray) (fx ar : Bool) (r1 c1 : Int) (x1 y1 : Bool) (r2 c2 : Int) (x2 y2 : Bool) (s rr c : Int) (w : World) (h : SsAt w ao L) (hl : L.length ≤ 140737488355328) (hN : N ≤ 9223372036854775807) (hT : Tabs w)  (ht : t.size ≤ 140737488355328) (hu : u.size ≤ 140737488355328) (hc : chkS L 1 sh At N nm = 0) (hrem : remB L 1 sh At N nm s rr c = true) (hk : chkF t u fx ar r1 c1 r2 c2 x2 y2 = 0) (hm1 : ¬ At ≤ max r1 r2)
    (p1 p2 : Int) (HY : ∀ W, Fr noB w W → Calls Tryd.prog 21 #[.slice ao L.length cap, .agg #[.int .i64 1, .string sh, .int .i64 At, .int .i64 N, .string nm], .string own, (.agg #[.string t, .string u, .bool fx, .bool ar, .int .i64 r1, .int .i64 c1, .bool x1, .bool y1, .int .i64 r2, .int .i64 c2, .bool x2, .bool y2])] W fun e w' => e = .returned (.tuple #[(.agg #[.string t, .string u, .bool fx, .bool ar, .int .i64 p1, .int .i64 c1, .bool x1, .bool y1, .int .i64 p2, .int .i64 c2, .bool x2, .bool y2]), .bool true]) ∧ Fr noB W w') (HZ : ∀ W, Fr noB w W → Calls Tryd.prog 21 #[.slice ao L.length cap, .agg #[.int .i64 2, .string sh, .int .i64 At, .int .i64 N, .string nm], .string own, (.agg #[.string t, .string u, .bool fx, .bool ar, .int .i64 p1, .int .i64 c1, .bool x1, .bool y1, .int .i64 p2, .int .i64 c2, .bool x2, .bool y2])] W fun e w' => e = .returned (.tuple #[(.agg #[.string t, .string u, .bool fx, .bool ar, .int .i64 r1, .int .i64 c1, .bool x1, .bool y1, .int .i64 r2, .int .i64 c2, .bool x2, .bool y2]), .bool true]) ∧ Fr noB W w') :
    Calls Tryd.prog 6 #[.agg #[.slice ao L.length cap, .int .i64 K, .string sh, .int .i64 At, .int .i64 N, .string nm, .string own], (.agg #[.string t, .string u, .bool fx, .bool ar, .int .i64 r1, .int .i64 c1, .bool x1, .bool y1, .int .i64 r2, .int .i64 c2, .bool x2, .bool y2]), .agg #[.int .i64 s, .int .i64 rr, .int .i64 c]] w fun e w' => e = .returned (.bool true) ∧ Below w.heap.size w w' := by
  obtain ⟨l, hll⟩ : ∃ l, L.length = l := ⟨_, rfl⟩
  obtain ⟨W0, hW0⟩ : ∃ W0, (((w.alloc (.cells #[.slice ao l cap, .int .i64 1, .string sh, .int .i64 At, .int .i64 N, .string nm, .string own] 26 (0, 0))).alloc (.cells #[.string t, .string u, .bool fx, .bool ar, .int .i64 r1, .int .i64 c1, .bool x1, .bool y1, .int .i64 r2, .int .i64 c2, .bool x2, .bool y2] 46 (0, 0))).alloc (.cells #[.int .i64 s, .int .i64 rr, .int .i64 c] 38 (0, 0))).alloc (.cells #[.int .i64 2, .string sh, .int .i64 At, .int .i64 N, .string nm] 24 (0, 0)) = W0 := ⟨_, rfl⟩
  have hB : BSt w W0 ao l cap sh At N nm own t u fx ar r1 c1 x1 y1 r2 c2 x2 y2 s rr c := by
    rw [← hW0]
    exact ⟨⟨old1 (old1 (old1 (heap_alloc_new w _)))⟩, ⟨old1 (old1 (new1 _ _ _ (by simp)))⟩, ⟨old1 (new1 _ _ _ (by simp))⟩, ⟨new1 _ _ _ (by simp)⟩, ((((Fr.refl noB w).alloc _).alloc _).alloc _).alloc _⟩
  have HB : Hid _ := hB
  have HL : Hid (∀ W, Calls Tryd.prog 11 #[] W fun e w' => e = .returned (.bool true) ∧ Fr noB W w') := fun W => live_true W
  have HC : Hid (∀ W, Fr noB w W → Calls Tryd.prog 12 #[.slice ao l cap, .agg #[.int .i64 1, .string sh, .int .i64 At, .int .i64 N, .string nm]] W fun e w' => e = .returned (.int .i64 0) ∧ Fr noB W w') := fun W hF => by rw [← hll, ← hc]; exact check_all ao cap L 1 sh At N nm W (h.keep hF) hl hN
  have hv1 : celV L 1 sh At N nm s rr c = .tuple #[.agg #[.int .i64 (ceS (fndN L sh : Int) 1 At s), .int .i64 (ceR (fndN L sh : Int) 1 At N s rr), .int .i64 (ceC (fndN L sh : Int) 1 At N s c)], .bool true] := by unfold celV; rw [if_pos hrem]
  have hv2 := cell_back hrem
  generalize ceS (fndN L sh : Int) 1 At s = q1 at *
  generalize ceR (fndN L sh : Int) 1 At N s rr = q2 at *
  generalize ceC (fndN L sh : Int) 1 At N s c = q3 at *
  have HQ : Hid (∀ W, Fr noB w W → Calls Tryd.prog 17 #[.slice ao l cap, .agg #[.int .i64 2, .string sh, .int .i64 At, .int .i64 N, .string nm], .agg #[.int .i64 q1, .int .i64 q2, .int .i64 q3]] W fun e w' => e = .returned (.tuple #[.agg #[.int .i64 s, .int .i64 rr, .int .i64 c], .bool true]) ∧ Fr noB W w') := fun W hF => by rw [← hll, ← hv2]; exact pcell_any ao cap L 2 sh At N nm q1 q2 q3 W (h.keep hF) hl hN
  have HP : Hid (∀ W, Fr noB w W → Calls Tryd.prog 17 #[.slice ao l cap, .agg #[.int .i64 1, .string sh, .int .i64 At, .int .i64 N, .string nm], .agg #[.int .i64 s, .int .i64 rr, .int .i64 c]] W fun e w' => e = .returned (.tuple #[.agg #[.int .i64 q1, .int .i64 q2, .int .i64 q3], .bool true]) ∧ Fr noB W w') := fun W hF => by rw [← hll, ← hv1]; exact pcell_any ao cap L 1 sh At N nm s rr c W (h.keep hF) hl hN
  have HY1 : Hid (∀ W, Fr noB w W → Calls Tryd.prog 21 #[.slice ao l cap, .agg #[.int .i64 1, .string sh, .int .i64 At, .int .i64 N, .string nm], .string own, (.agg #[.string t, .string u, .bool fx, .bool ar, .int .i64 r1, .int .i64 c1, .bool x1, .bool y1, .int .i64 r2, .int .i64 c2, .bool x2, .bool y2])] W fun e w' => e = .returned (.tuple #[(.agg #[.string t, .string u, .bool fx, .bool ar, .int .i64 p1, .int .i64 c1, .bool x1, .bool y1, .int .i64 p2, .int .i64 c2, .bool x2, .bool y2]), .bool true]) ∧ Fr noB W w') := fun W hF => by rw [← hll]; exact HY W hF
  have HZ1 : Hid (∀ W, Fr noB w W → Calls Tryd.prog 21 #[.slice ao l cap, .agg #[.int .i64 2, .string sh, .int .i64 At, .int .i64 N, .string nm], .string own, (.agg #[.string t, .string u, .bool fx, .bool ar, .int .i64 p1, .int .i64 c1, .bool x1, .bool y1, .int .i64 p2, .int .i64 c2, .bool x2, .bool y2])] W fun e w' => e = .returned (.tuple #[(.agg #[.string t, .string u, .bool fx, .bool ar, .int .i64 r1, .int .i64 c1, .bool x1, .bool y1, .int .i64 r2, .int .i64 c2, .bool x2, .bool y2]), .bool true]) ∧ Fr noB W w') := fun W hF => by rw [← hll]; exact HZ W hF
  clear HY HZ
  have hs4 := chk_span hc (by omega)
  unfold limF at hs4
  rw [if_pos (by decide)] at hs4
  have hN0 := rnorm_any t u fx ar r1 c1 x1 y1 r2 c2 x2 y2
  obtain ⟨na, hna⟩ : ∃ x, pkI (swB ar r1 r2) r1 r2 = x := ⟨_, rfl⟩
  obtain ⟨nb, hnb⟩ : ∃ x, pkI (swB ar r1 r2) r2 r1 = x := ⟨_, rfl⟩
  have hmax : max na nb = max r1 r2 := by
    rw [← hna, ← hnb]
    unfold pkI
    split <;> omega
  unfold nrmV at hN0
  rw [hna, hnb] at hN0
  clear hna hnb
  generalize pkI (swB ar c1 c2) c1 c2 = nc at *
  generalize pkI (swB ar c1 c2) c2 c1 = nd at *
  generalize pkB (swB ar r1 r2) x1 x2 = nx at *
  generalize pkB (swB ar c1 c2) y1 y2 = ny at *
  generalize pkB (swB ar r1 r2) x2 x1 = nz at *
  generalize pkB (swB ar c1 c2) y2 y1 = nw at *
  have HNm : Hid (∀ W, Calls Tryd.prog 19 #[(.agg #[.string t, .string u, .bool fx, .bool ar, .int .i64 r1, .int .i64 c1, .bool x1, .bool y1, .int .i64 r2, .int .i64 c2, .bool x2, .bool y2])] W fun e w' => e = .returned (.agg #[.string t, .string u, .bool fx, .bool ar, .int .i64 na, .int .i64 nc, .bool nx, .bool ny, .int .i64 nb, .int .i64 nd, .bool nz, .bool nw]) ∧ Fr noB W w') := fun W => hN0 W
  have HCk : Hid (∀ W, Fr noB w W → Calls Tryd.prog 20 #[(.agg #[.string t, .string u, .bool fx, .bool ar, .int .i64 r1, .int .i64 c1, .bool x1, .bool y1, .int .i64 r2, .int .i64 c2, .bool x2, .bool y2])] W fun e w' => e = .returned (.int .i64 (chkF t u fx ar r1 c1 r2 c2 x2 y2)) ∧ Fr noB W w') := fun W hF => rcheck_any t u fx ar r1 c1 x1 y1 r2 c2 x2 y2 W ht hu (hT.keep hF)
  have hbr := chk_ref hk
  rw [hk] at HCk
  clear hk
  obtain ⟨M, hM⟩ : ∃ M, max na nb = M := ⟨_, rfl⟩
  have hM2 : max r1 r2 = M := hmax.symm.trans hM
  rw [hM2] at hm1
  have hMb : 0 ≤ M ∧ M < 1048576 := by omega
  clear hmax hM2 hbr
  obtain ⟨qs, hqs⟩ : ∃ qs, M + N = qs := ⟨_, rfl⟩
  have hwq : IntKind.i64.wrap qs = qs := by rw [IntKind.wrap_i64]; omega
  clear hqs hwq
  have hm3 : Hid (decide (At ≤ M) = false) := decide_eq_false hm1
  clear hMb
  have bk0 := (HB.out).k.c0; have bk1 := (HB.out).k.c1; have bk2 := (HB.out).k.c2; have bk3 := (HB.out).k.c3; have bk4 := (HB.out).k.c4; have bk5 := (HB.out).k.c5; have bk6 := (HB.out).k.c6
  clear hB h hl hN hT ht hu hrem hv1 hv2 hs4 hN0 hc
  rw [hll]
  clear hll
  go_enter Tryd.func6, Tryd.ntmps6
  go_wp2_with (first
    | (with_reducible refine skip_g (15, true) (by rfl) (by simp only [hm3.out]; kernel_rfl) ?_)
    | (go_at_call 12; (with_reducible refine (HC.out _ HB.out.f).mono ?_); rintro e wv1 ⟨rfl, hF1⟩; have HB1 : Hid (BSt w wv1 ao l cap sh At N nm own t u fx ar r1 c1 x1 y1 r2 c2 x2 y2 s rr c) := HB.out.go hF1; clear hF1 bk0 bk1 bk2 bk3 bk4 bk5 bk6)
    | (go_at_call 11; refine (HL.out _).mono ?_; rintro e wv2 ⟨rfl, hF2⟩; have HB2 : Hid (BSt w wv2 ao l cap sh At N nm own t u fx ar r1 c1 x1 y1 r2 c2 x2 y2 s rr c) := HB1.out.go hF2; have dk0 := (HB2.out).k.c0; have dk1 := (HB2.out).k.c1; have dk2 := (HB2.out).k.c2; have dk3 := (HB2.out).k.c3; have dk4 := (HB2.out).k.c4; have dk5 := (HB2.out).k.c5; have dk6 := (HB2.out).k.c6; have da0 := (HB2.out).a.c0; have da1 := (HB2.out).a.c1; have da2 := (HB2.out).a.c2; clear hF2)
    | (go_at_call 17; (with_reducible refine (HP.out _ HB2.out.f).mono ?_); rintro e wv3 ⟨rfl, hF3⟩; have HB3 : Hid (BSt w (wv3.alloc (.cells #[.int .i64 q1, .int .i64 q2, .int .i64 q3] 38 (0, 0))) ao l cap sh At N nm own t u fx ar r1 c1 x1 y1 r2 c2 x2 y2 s rr c) := HB2.out.go (hF3.alloc (.cells #[.int .i64 q1, .int .i64 q2, .int .i64 q3] 38 (0, 0))); have hx3 : AAt (wv3.alloc (.cells #[.int .i64 q1, .int .i64 q2, .int .i64 q3] 38 (0, 0))) wv3.heap.size q1 q2 q3 := ⟨heap_alloc_new wv3 _⟩; have ek0 := (HB3.out).k.c0; have ek1 := (HB3.out).k.c1; have ek2 := (HB3.out).k.c2; have ek3 := (HB3.out).k.c3; have ek4 := (HB3.out).k.c4; have ek5 := (HB3.out).k.c5; have ek6 := (HB3.out).k.c6; have ex0 := (HB3.out).x.c0; have ex1 := (HB3.out).x.c1; have ex2 := (HB3.out).x.c2; have ex3 := (HB3.out).x.c3; have ex4 := (HB3.out).x.c4; have z0 := hx3.c0; have z1 := hx3.c1; have z2 := hx3.c2; clear hF3 hx3 dk0 dk1 dk2 dk3 dk4 dk5 dk6 da0 da1 da2)
    | (go_at_call 17; (with_reducible refine (HQ.out _ HB3.out.f).mono ?_); rintro e wv4 ⟨rfl, hF4⟩; have HB4 : Hid (BSt w (wv4.alloc (.cells #[.int .i64 s, .int .i64 rr, .int .i64 c] 38 (0, 0))) ao l cap sh At N nm own t u fx ar r1 c1 x1 y1 r2 c2 x2 y2 s rr c) := HB3.out.go (hF4.alloc (.cells #[.int .i64 s, .int .i64 rr, .int .i64 c] 38 (0, 0))); have hx4 : AAt (wv4.alloc (.cells #[.int .i64 s, .int .i64 rr, .int .i64 c] 38 (0, 0))) wv4.heap.size s rr c := ⟨heap_alloc_new wv4 _⟩; have fa0 := (HB4.out).a.c0; have fa1 := (HB4.out).a.c1; have fa2 := (HB4.out).a.c2; have z3 := hx4.c0; have z4 := hx4.c1; have z5 := hx4.c2; clear hF4 hx4 ek0 ek1 ek2 ek3 ek4 ek5 ek6 ex0 ex1 ex2 ex3 ex4 z0 z1 z2)
    | (refine wpList_load_row rfl 46 (.tmp 4) rfl (w.heap.size + 1) rfl 46 #[.string t, .string u, .bool fx, .bool ar, .int .i64 r1, .int .i64 c1, .bool x1, .bool y1, .int .i64 r2, .int .i64 c2, .bool x2, .bool y2] (0, 0) _ HB4.out.r.o Tryd.underlying46 rfl info_ref ?_)
    | (go_at_call 19; (with_reducible refine (HNm.out _).mono ?_); rintro e wv5 ⟨rfl, hF5⟩; have HB5 : Hid (BSt w (wv5.alloc (.cells #[.string t, .string u, .bool fx, .bool ar, .int .i64 na, .int .i64 nc, .bool nx, .bool ny, .int .i64 nb, .int .i64 nd, .bool nz, .bool nw] 46 (0, 0))) ao l cap sh At N nm own t u fx ar r1 c1 x1 y1 r2 c2 x2 y2 s rr c) := HB4.out.go (hF5.alloc (.cells #[.string t, .string u, .bool fx, .bool ar, .int .i64 na, .int .i64 nc, .bool nx, .bool ny, .int .i64 nb, .int .i64 nd, .bool nz, .bool nw] 46 (0, 0))); have hn5 : RAt (wv5.alloc (.cells #[.string t, .string u, .bool fx, .bool ar, .int .i64 na, .int .i64 nc, .bool nx, .bool ny, .int .i64 nb, .int .i64 nd, .bool nz, .bool nw] 46 (0, 0))) wv5.heap.size t u fx ar na nc nx ny nb nd nz nw := ⟨heap_alloc_new wv5 _⟩; have HN5 : Hid _ := hn5; clear hF5 hn5 fa0 fa1 fa2 z3 z4 z5)
    | (refine wpList_load_row rfl 46 (.tmp 4) rfl (w.heap.size + 1) rfl 46 #[.string t, .string u, .bool fx, .bool ar, .int .i64 r1, .int .i64 c1, .bool x1, .bool y1, .int .i64 r2, .int .i64 c2, .bool x2, .bool y2] (0, 0) _ HB5.out.r.o Tryd.underlying46 rfl info_ref ?_)
    | (go_at_call 20; (with_reducible refine (HCk.out _ HB5.out.f).mono ?_); rintro e wv6 ⟨rfl, hF6⟩; have HB6 : Hid (BSt w wv6 ao l cap sh At N nm own t u fx ar r1 c1 x1 y1 r2 c2 x2 y2 s rr c) := HB5.out.go hF6; have hn6 := HN5.out.fr hF6 id; have i4 := hn6.g4; have i8 := hn6.g8; have gk0 := (HB6.out).k.c0; have gk1 := (HB6.out).k.c1; have gk2 := (HB6.out).k.c2; have gk3 := (HB6.out).k.c3; have gk4 := (HB6.out).k.c4; have gk5 := (HB6.out).k.c5; have gk6 := (HB6.out).k.c6; clear hF6 hn6)
    | (refine wpList_load_row rfl 46 (.tmp 4) rfl (w.heap.size + 1) rfl 46 #[.string t, .string u, .bool fx, .bool ar, .int .i64 r1, .int .i64 c1, .bool x1, .bool y1, .int .i64 r2, .int .i64 c2, .bool x2, .bool y2] (0, 0) _ HB6.out.r.o Tryd.underlying46 rfl info_ref ?_)
    | (go_at_call 21; (with_reducible refine (HY1.out _ HB6.out.f).mono ?_); rintro e wv7 ⟨rfl, hF7⟩; have HB7 : Hid (BSt w (wv7.alloc (.cells #[.string t, .string u, .bool fx, .bool ar, .int .i64 p1, .int .i64 c1, .bool x1, .bool y1, .int .i64 p2, .int .i64 c2, .bool x2, .bool y2] 46 (0, 0))) ao l cap sh At N nm own t u fx ar r1 c1 x1 y1 r2 c2 x2 y2 s rr c) := HB6.out.go (hF7.alloc (.cells #[.string t, .string u, .bool fx, .bool ar, .int .i64 p1, .int .i64 c1, .bool x1, .bool y1, .int .i64 p2, .int .i64 c2, .bool x2, .bool y2] 46 (0, 0))); have HY7 : Hid (RAt (wv7.alloc (.cells #[.string t, .string u, .bool fx, .bool ar, .int .i64 p1, .int .i64 c1, .bool x1, .bool y1, .int .i64 p2, .int .i64 c2, .bool x2, .bool y2] 46 (0, 0))) wv7.heap.size t u fx ar p1 c1 x1 y1 p2 c2 x2 y2) := ⟨heap_alloc_new wv7 _⟩; have mk0 := (HB7.out).k.c0; have mk1 := (HB7.out).k.c1; have mk2 := (HB7.out).k.c2; have mk3 := (HB7.out).k.c3; have mk4 := (HB7.out).k.c4; have mk5 := (HB7.out).k.c5; have mk6 := (HB7.out).k.c6; have mx0 := (HB7.out).x.c0; have mx1 := (HB7.out).x.c1; have mx2 := (HB7.out).x.c2; have mx3 := (HB7.out).x.c3; have mx4 := (HB7.out).x.c4; clear hF7 gk0 gk1 gk2 gk3 gk4 gk5 gk6 i4 i8)
    | (refine wpList_load_row rfl 46 (.tmp 13) rfl (wv7.heap.size) rfl 46 #[.string t, .string u, .bool fx, .bool ar, .int .i64 p1, .int .i64 c1, .bool x1, .bool y1, .int .i64 p2, .int .i64 c2, .bool x2, .bool y2] (0, 0) _ HY7.out.o Tryd.underlying46 rfl info_ref ?_)
    | (go_at_call 21; (with_reducible refine (HZ1.out _ HB7.out.f).mono ?_); rintro e wv8 ⟨rfl, hF8⟩; have HB8 : Hid (BSt w (wv8.alloc (.cells #[.string t, .string u, .bool fx, .bool ar, .int .i64 r1, .int .i64 c1, .bool x1, .bool y1, .int .i64 r2, .int .i64 c2, .bool x2, .bool y2] 46 (0, 0))) ao l cap sh At N nm own t u fx ar r1 c1 x1 y1 r2 c2 x2 y2 s rr c) := HB7.out.go (hF8.alloc (.cells #[.string t, .string u, .bool fx, .bool ar, .int .i64 r1, .int .i64 c1, .bool x1, .bool y1, .int .i64 r2, .int .i64 c2, .bool x2, .bool y2] 46 (0, 0))); have hz8 : RAt (wv8.alloc (.cells #[.string t, .string u, .bool fx, .bool ar, .int .i64 r1, .int .i64 c1, .bool x1, .bool y1, .int .i64 r2, .int .i64 c2, .bool x2, .bool y2] 46 (0, 0))) wv8.heap.size t u fx ar r1 c1 x1 y1 r2 c2 x2 y2 := ⟨heap_alloc_new wv8 _⟩; have y0z := hz8.g0; have y1z := hz8.g1; have y2z := hz8.g2; have y3z := hz8.g3; have y4z := hz8.g4; have y5z := hz8.g5; have y6z := hz8.g6; have y7z := hz8.g7; have y8z := hz8.g8; have y9z := hz8.g9; have y10z := hz8.g10; have y11z := hz8.g11; have r0z := HB8.out.r.g0; have r1z := HB8.out.r.g1; have r2z := HB8.out.r.g2; have r3z := HB8.out.r.g3; have r4z := HB8.out.r.g4; have r5z := HB8.out.r.g5; have r6z := HB8.out.r.g6; have r7z := HB8.out.r.g7; have r8z := HB8.out.r.g8; have r9z := HB8.out.r.g9; have r10z := HB8.out.r.g10; have r11z := HB8.out.r.g11; clear hF8 hz8 mk0 mk1 mk2 mk3 mk4 mk5 mk6 mx0 mx1 mx2 mx3 mx4))
  go_ret
  exact ⟨ret_bool (by simp), HB8.out.f.below (Nat.le_refl _) (fun _ h => h.elim)⟩
set_option maxRecDepth 100000 in
set_option maxHeartbeats 4000000 in
theorem back_cin (ao : Option Addr) (cap : Nat) (L : List ByteArray) (K : Int) (sh : ByteArray) (At N : Int) (nm own : ByteArray) (t u : ByteArray) (fx ar : Bool) (r1 c1 : Int) (x1 y1 : Bool) (r2 c2 : Int) (x2 y2 : Bool) (s rr c : Int) (w : World) (h : SsAt w ao L) (hl : L.length ≤ 140737488355328) (hN : N ≤ 9223372036854775807) (hT : Tabs w)  (ht : t.size ≤ 140737488355328) (hu : u.size ≤ 140737488355328) (hc : chkS L 1 sh At N nm = 0) (hrem : remB L 1 sh At N nm s rr c = true) (hk : chkF t u fx ar r1 c1 r2 c2 x2 y2 = 0) (hm1 : At ≤ max r1 r2) (hm2 : ¬ 1048576 ≤ max r1 r2 + N)
    (p1 p2 : Int) (HY : ∀ W, Fr noB w W → Calls Tryd.prog 21 #[.slice ao L.length cap, .agg #[.int .i64 1, .string sh, .int .i64 At, .int .i64 N, .string nm], .string own, (.agg #[.string t, .string u, .bool fx, .bool ar, .int .i64 r1, .int .i64 c1, .bool x1, .bool y1, .int .i64 r2, .int .i64 c2, .bool x2, .bool y2])] W fun e w' => e = .returned (.tuple #[(.agg #[.string t, .string u, .bool fx, .bool ar, .int .i64 p1, .int .i64 c1, .bool x1, .bool y1, .int .i64 p2, .int .i64 c2, .bool x2, .bool y2]), .bool true]) ∧ Fr noB W w') (HZ : ∀ W, Fr noB w W → Calls Tryd.prog 21 #[.slice ao L.length cap, .agg #[.int .i64 2, .string sh, .int .i64 At, .int .i64 N, .string nm], .string own, (.agg #[.string t, .string u, .bool fx, .bool ar, .int .i64 p1, .int .i64 c1, .bool x1, .bool y1, .int .i64 p2, .int .i64 c2, .bool x2, .bool y2])] W fun e w' => e = .returned (.tuple #[(.agg #[.string t, .string u, .bool fx, .bool ar, .int .i64 r1, .int .i64 c1, .bool x1, .bool y1, .int .i64 r2, .int .i64 c2, .bool x2, .bool y2]), .bool true]) ∧ Fr noB W w') :
    Calls Tryd.prog 6 #[.agg #[.slice ao L.length cap, .int .i64 K, .string sh, .int .i64 At, .int .i64 N, .string nm, .string own], (.agg #[.string t, .string u, .bool fx, .bool ar, .int .i64 r1, .int .i64 c1, .bool x1, .bool y1, .int .i64 r2, .int .i64 c2, .bool x2, .bool y2]), .agg #[.int .i64 s, .int .i64 rr, .int .i64 c]] w fun e w' => e = .returned (.bool true) ∧ Below w.heap.size w w' := by
  obtain ⟨l, hll⟩ : ∃ l, L.length = l := ⟨_, rfl⟩
  obtain ⟨W0, hW0⟩ : ∃ W0, (((w.alloc (.cells #[.slice ao l cap, .int .i64 1, .string sh, .int .i64 At, .int .i64 N, .string nm, .string own] 26 (0, 0))).alloc (.cells #[.string t, .string u, .bool fx, .bool ar, .int .i64 r1, .int .i64 c1, .bool x1, .bool y1, .int .i64 r2, .int .i64 c2, .bool x2, .bool y2] 46 (0, 0))).alloc (.cells #[.int .i64 s, .int .i64 rr, .int .i64 c] 38 (0, 0))).alloc (.cells #[.int .i64 2, .string sh, .int .i64 At, .int .i64 N, .string nm] 24 (0, 0)) = W0 := ⟨_, rfl⟩
  have hB : BSt w W0 ao l cap sh At N nm own t u fx ar r1 c1 x1 y1 r2 c2 x2 y2 s rr c := by
    rw [← hW0]
    exact ⟨⟨old1 (old1 (old1 (heap_alloc_new w _)))⟩, ⟨old1 (old1 (new1 _ _ _ (by simp)))⟩, ⟨old1 (new1 _ _ _ (by simp))⟩, ⟨new1 _ _ _ (by simp)⟩, ((((Fr.refl noB w).alloc _).alloc _).alloc _).alloc _⟩
  have HB : Hid _ := hB
  have HL : Hid (∀ W, Calls Tryd.prog 11 #[] W fun e w' => e = .returned (.bool true) ∧ Fr noB W w') := fun W => live_true W
  have HC : Hid (∀ W, Fr noB w W → Calls Tryd.prog 12 #[.slice ao l cap, .agg #[.int .i64 1, .string sh, .int .i64 At, .int .i64 N, .string nm]] W fun e w' => e = .returned (.int .i64 0) ∧ Fr noB W w') := fun W hF => by rw [← hll, ← hc]; exact check_all ao cap L 1 sh At N nm W (h.keep hF) hl hN
  have hv1 : celV L 1 sh At N nm s rr c = .tuple #[.agg #[.int .i64 (ceS (fndN L sh : Int) 1 At s), .int .i64 (ceR (fndN L sh : Int) 1 At N s rr), .int .i64 (ceC (fndN L sh : Int) 1 At N s c)], .bool true] := by unfold celV; rw [if_pos hrem]
  have hv2 := cell_back hrem
  generalize ceS (fndN L sh : Int) 1 At s = q1 at *
  generalize ceR (fndN L sh : Int) 1 At N s rr = q2 at *
  generalize ceC (fndN L sh : Int) 1 At N s c = q3 at *
  have HQ : Hid (∀ W, Fr noB w W → Calls Tryd.prog 17 #[.slice ao l cap, .agg #[.int .i64 2, .string sh, .int .i64 At, .int .i64 N, .string nm], .agg #[.int .i64 q1, .int .i64 q2, .int .i64 q3]] W fun e w' => e = .returned (.tuple #[.agg #[.int .i64 s, .int .i64 rr, .int .i64 c], .bool true]) ∧ Fr noB W w') := fun W hF => by rw [← hll, ← hv2]; exact pcell_any ao cap L 2 sh At N nm q1 q2 q3 W (h.keep hF) hl hN
  have HP : Hid (∀ W, Fr noB w W → Calls Tryd.prog 17 #[.slice ao l cap, .agg #[.int .i64 1, .string sh, .int .i64 At, .int .i64 N, .string nm], .agg #[.int .i64 s, .int .i64 rr, .int .i64 c]] W fun e w' => e = .returned (.tuple #[.agg #[.int .i64 q1, .int .i64 q2, .int .i64 q3], .bool true]) ∧ Fr noB W w') := fun W hF => by rw [← hll, ← hv1]; exact pcell_any ao cap L 1 sh At N nm s rr c W (h.keep hF) hl hN
  have HY1 : Hid (∀ W, Fr noB w W → Calls Tryd.prog 21 #[.slice ao l cap, .agg #[.int .i64 1, .string sh, .int .i64 At, .int .i64 N, .string nm], .string own, (.agg #[.string t, .string u, .bool fx, .bool ar, .int .i64 r1, .int .i64 c1, .bool x1, .bool y1, .int .i64 r2, .int .i64 c2, .bool x2, .bool y2])] W fun e w' => e = .returned (.tuple #[(.agg #[.string t, .string u, .bool fx, .bool ar, .int .i64 p1, .int .i64 c1, .bool x1, .bool y1, .int .i64 p2, .int .i64 c2, .bool x2, .bool y2]), .bool true]) ∧ Fr noB W w') := fun W hF => by rw [← hll]; exact HY W hF
  have HZ1 : Hid (∀ W, Fr noB w W → Calls Tryd.prog 21 #[.slice ao l cap, .agg #[.int .i64 2, .string sh, .int .i64 At, .int .i64 N, .string nm], .string own, (.agg #[.string t, .string u, .bool fx, .bool ar, .int .i64 p1, .int .i64 c1, .bool x1, .bool y1, .int .i64 p2, .int .i64 c2, .bool x2, .bool y2])] W fun e w' => e = .returned (.tuple #[(.agg #[.string t, .string u, .bool fx, .bool ar, .int .i64 r1, .int .i64 c1, .bool x1, .bool y1, .int .i64 r2, .int .i64 c2, .bool x2, .bool y2]), .bool true]) ∧ Fr noB W w') := fun W hF => by rw [← hll]; exact HZ W hF
  clear HY HZ
  have hs4 := chk_span hc (by omega)
  unfold limF at hs4
  rw [if_pos (by decide)] at hs4
  have hN0 := rnorm_any t u fx ar r1 c1 x1 y1 r2 c2 x2 y2
  obtain ⟨na, hna⟩ : ∃ x, pkI (swB ar r1 r2) r1 r2 = x := ⟨_, rfl⟩
  obtain ⟨nb, hnb⟩ : ∃ x, pkI (swB ar r1 r2) r2 r1 = x := ⟨_, rfl⟩
  have hmax : max na nb = max r1 r2 := by
    rw [← hna, ← hnb]
    unfold pkI
    split <;> omega
  unfold nrmV at hN0
  rw [hna, hnb] at hN0
  clear hna hnb
  generalize pkI (swB ar c1 c2) c1 c2 = nc at *
  generalize pkI (swB ar c1 c2) c2 c1 = nd at *
  generalize pkB (swB ar r1 r2) x1 x2 = nx at *
  generalize pkB (swB ar c1 c2) y1 y2 = ny at *
  generalize pkB (swB ar r1 r2) x2 x1 = nz at *
  generalize pkB (swB ar c1 c2) y2 y1 = nw at *
  have HNm : Hid (∀ W, Calls Tryd.prog 19 #[(.agg #[.string t, .string u, .bool fx, .bool ar, .int .i64 r1, .int .i64 c1, .bool x1, .bool y1, .int .i64 r2, .int .i64 c2, .bool x2, .bool y2])] W fun e w' => e = .returned (.agg #[.string t, .string u, .bool fx, .bool ar, .int .i64 na, .int .i64 nc, .bool nx, .bool ny, .int .i64 nb, .int .i64 nd, .bool nz, .bool nw]) ∧ Fr noB W w') := fun W => hN0 W
  have HCk : Hid (∀ W, Fr noB w W → Calls Tryd.prog 20 #[(.agg #[.string t, .string u, .bool fx, .bool ar, .int .i64 r1, .int .i64 c1, .bool x1, .bool y1, .int .i64 r2, .int .i64 c2, .bool x2, .bool y2])] W fun e w' => e = .returned (.int .i64 (chkF t u fx ar r1 c1 r2 c2 x2 y2)) ∧ Fr noB W w') := fun W hF => rcheck_any t u fx ar r1 c1 x1 y1 r2 c2 x2 y2 W ht hu (hT.keep hF)
  have hbr := chk_ref hk
  rw [hk] at HCk
  clear hk
  obtain ⟨M, hM⟩ : ∃ M, max na nb = M := ⟨_, rfl⟩
  have hM2 : max r1 r2 = M := hmax.symm.trans hM
  rw [hM2] at hm1 hm2
  have hMb : 0 ≤ M ∧ M < 1048576 := by omega
  clear hmax hM2 hbr
  obtain ⟨qs, hqs⟩ : ∃ qs, M + N = qs := ⟨_, rfl⟩
  have hwq : IntKind.i64.wrap qs = qs := by rw [IntKind.wrap_i64]; omega
  rw [hqs] at hm2
  clear hMb
  have bk0 := (HB.out).k.c0; have bk1 := (HB.out).k.c1; have bk2 := (HB.out).k.c2; have bk3 := (HB.out).k.c3; have bk4 := (HB.out).k.c4; have bk5 := (HB.out).k.c5; have bk6 := (HB.out).k.c6
  clear hB h hl hN hT ht hu hrem hv1 hv2 hs4 hN0 hc
  rw [hll]
  clear hll
  go_enter Tryd.func6, Tryd.ntmps6
  go_wp2_with (first
    | (go_at_call 12; (with_reducible refine (HC.out _ HB.out.f).mono ?_); rintro e wv1 ⟨rfl, hF1⟩; have HB1 : Hid (BSt w wv1 ao l cap sh At N nm own t u fx ar r1 c1 x1 y1 r2 c2 x2 y2 s rr c) := HB.out.go hF1; clear hF1 bk0 bk1 bk2 bk3 bk4 bk5 bk6)
    | (go_at_call 11; refine (HL.out _).mono ?_; rintro e wv2 ⟨rfl, hF2⟩; have HB2 : Hid (BSt w wv2 ao l cap sh At N nm own t u fx ar r1 c1 x1 y1 r2 c2 x2 y2 s rr c) := HB1.out.go hF2; have dk0 := (HB2.out).k.c0; have dk1 := (HB2.out).k.c1; have dk2 := (HB2.out).k.c2; have dk3 := (HB2.out).k.c3; have dk4 := (HB2.out).k.c4; have dk5 := (HB2.out).k.c5; have dk6 := (HB2.out).k.c6; have da0 := (HB2.out).a.c0; have da1 := (HB2.out).a.c1; have da2 := (HB2.out).a.c2; clear hF2)
    | (go_at_call 17; (with_reducible refine (HP.out _ HB2.out.f).mono ?_); rintro e wv3 ⟨rfl, hF3⟩; have HB3 : Hid (BSt w (wv3.alloc (.cells #[.int .i64 q1, .int .i64 q2, .int .i64 q3] 38 (0, 0))) ao l cap sh At N nm own t u fx ar r1 c1 x1 y1 r2 c2 x2 y2 s rr c) := HB2.out.go (hF3.alloc (.cells #[.int .i64 q1, .int .i64 q2, .int .i64 q3] 38 (0, 0))); have hx3 : AAt (wv3.alloc (.cells #[.int .i64 q1, .int .i64 q2, .int .i64 q3] 38 (0, 0))) wv3.heap.size q1 q2 q3 := ⟨heap_alloc_new wv3 _⟩; have ek0 := (HB3.out).k.c0; have ek1 := (HB3.out).k.c1; have ek2 := (HB3.out).k.c2; have ek3 := (HB3.out).k.c3; have ek4 := (HB3.out).k.c4; have ek5 := (HB3.out).k.c5; have ek6 := (HB3.out).k.c6; have ex0 := (HB3.out).x.c0; have ex1 := (HB3.out).x.c1; have ex2 := (HB3.out).x.c2; have ex3 := (HB3.out).x.c3; have ex4 := (HB3.out).x.c4; have z0 := hx3.c0; have z1 := hx3.c1; have z2 := hx3.c2; clear hF3 hx3 dk0 dk1 dk2 dk3 dk4 dk5 dk6 da0 da1 da2)
    | (go_at_call 17; (with_reducible refine (HQ.out _ HB3.out.f).mono ?_); rintro e wv4 ⟨rfl, hF4⟩; have HB4 : Hid (BSt w (wv4.alloc (.cells #[.int .i64 s, .int .i64 rr, .int .i64 c] 38 (0, 0))) ao l cap sh At N nm own t u fx ar r1 c1 x1 y1 r2 c2 x2 y2 s rr c) := HB3.out.go (hF4.alloc (.cells #[.int .i64 s, .int .i64 rr, .int .i64 c] 38 (0, 0))); have hx4 : AAt (wv4.alloc (.cells #[.int .i64 s, .int .i64 rr, .int .i64 c] 38 (0, 0))) wv4.heap.size s rr c := ⟨heap_alloc_new wv4 _⟩; have fa0 := (HB4.out).a.c0; have fa1 := (HB4.out).a.c1; have fa2 := (HB4.out).a.c2; have z3 := hx4.c0; have z4 := hx4.c1; have z5 := hx4.c2; clear hF4 hx4 ek0 ek1 ek2 ek3 ek4 ek5 ek6 ex0 ex1 ex2 ex3 ex4 z0 z1 z2)
    | (refine wpList_load_row rfl 46 (.tmp 4) rfl (w.heap.size + 1) rfl 46 #[.string t, .string u, .bool fx, .bool ar, .int .i64 r1, .int .i64 c1, .bool x1, .bool y1, .int .i64 r2, .int .i64 c2, .bool x2, .bool y2] (0, 0) _ HB4.out.r.o Tryd.underlying46 rfl info_ref ?_)
    | (go_at_call 19; (with_reducible refine (HNm.out _).mono ?_); rintro e wv5 ⟨rfl, hF5⟩; have HB5 : Hid (BSt w (wv5.alloc (.cells #[.string t, .string u, .bool fx, .bool ar, .int .i64 na, .int .i64 nc, .bool nx, .bool ny, .int .i64 nb, .int .i64 nd, .bool nz, .bool nw] 46 (0, 0))) ao l cap sh At N nm own t u fx ar r1 c1 x1 y1 r2 c2 x2 y2 s rr c) := HB4.out.go (hF5.alloc (.cells #[.string t, .string u, .bool fx, .bool ar, .int .i64 na, .int .i64 nc, .bool nx, .bool ny, .int .i64 nb, .int .i64 nd, .bool nz, .bool nw] 46 (0, 0))); have hn5 : RAt (wv5.alloc (.cells #[.string t, .string u, .bool fx, .bool ar, .int .i64 na, .int .i64 nc, .bool nx, .bool ny, .int .i64 nb, .int .i64 nd, .bool nz, .bool nw] 46 (0, 0))) wv5.heap.size t u fx ar na nc nx ny nb nd nz nw := ⟨heap_alloc_new wv5 _⟩; have HN5 : Hid _ := hn5; clear hF5 hn5 fa0 fa1 fa2 z3 z4 z5)
    | (refine wpList_load_row rfl 46 (.tmp 4) rfl (w.heap.size + 1) rfl 46 #[.string t, .string u, .bool fx, .bool ar, .int .i64 r1, .int .i64 c1, .bool x1, .bool y1, .int .i64 r2, .int .i64 c2, .bool x2, .bool y2] (0, 0) _ HB5.out.r.o Tryd.underlying46 rfl info_ref ?_)
    | (go_at_call 20; (with_reducible refine (HCk.out _ HB5.out.f).mono ?_); rintro e wv6 ⟨rfl, hF6⟩; have HB6 : Hid (BSt w wv6 ao l cap sh At N nm own t u fx ar r1 c1 x1 y1 r2 c2 x2 y2 s rr c) := HB5.out.go hF6; have hn6 := HN5.out.fr hF6 id; have i4 := hn6.g4; have i8 := hn6.g8; have gk0 := (HB6.out).k.c0; have gk1 := (HB6.out).k.c1; have gk2 := (HB6.out).k.c2; have gk3 := (HB6.out).k.c3; have gk4 := (HB6.out).k.c4; have gk5 := (HB6.out).k.c5; have gk6 := (HB6.out).k.c6; clear hF6 hn6)
    | (refine wpList_load_row rfl 46 (.tmp 4) rfl (w.heap.size + 1) rfl 46 #[.string t, .string u, .bool fx, .bool ar, .int .i64 r1, .int .i64 c1, .bool x1, .bool y1, .int .i64 r2, .int .i64 c2, .bool x2, .bool y2] (0, 0) _ HB6.out.r.o Tryd.underlying46 rfl info_ref ?_)
    | (go_at_call 21; (with_reducible refine (HY1.out _ HB6.out.f).mono ?_); rintro e wv7 ⟨rfl, hF7⟩; have HB7 : Hid (BSt w (wv7.alloc (.cells #[.string t, .string u, .bool fx, .bool ar, .int .i64 p1, .int .i64 c1, .bool x1, .bool y1, .int .i64 p2, .int .i64 c2, .bool x2, .bool y2] 46 (0, 0))) ao l cap sh At N nm own t u fx ar r1 c1 x1 y1 r2 c2 x2 y2 s rr c) := HB6.out.go (hF7.alloc (.cells #[.string t, .string u, .bool fx, .bool ar, .int .i64 p1, .int .i64 c1, .bool x1, .bool y1, .int .i64 p2, .int .i64 c2, .bool x2, .bool y2] 46 (0, 0))); have HY7 : Hid (RAt (wv7.alloc (.cells #[.string t, .string u, .bool fx, .bool ar, .int .i64 p1, .int .i64 c1, .bool x1, .bool y1, .int .i64 p2, .int .i64 c2, .bool x2, .bool y2] 46 (0, 0))) wv7.heap.size t u fx ar p1 c1 x1 y1 p2 c2 x2 y2) := ⟨heap_alloc_new wv7 _⟩; have mk0 := (HB7.out).k.c0; have mk1 := (HB7.out).k.c1; have mk2 := (HB7.out).k.c2; have mk3 := (HB7.out).k.c3; have mk4 := (HB7.out).k.c4; have mk5 := (HB7.out).k.c5; have mk6 := (HB7.out).k.c6; have mx0 := (HB7.out).x.c0; have mx1 := (HB7.out).x.c1; have mx2 := (HB7.out).x.c2; have mx3 := (HB7.out).x.c3; have mx4 := (HB7.out).x.c4; clear hF7 gk0 gk1 gk2 gk3 gk4 gk5 gk6 i4 i8)
    | (refine wpList_load_row rfl 46 (.tmp 13) rfl (wv7.heap.size) rfl 46 #[.string t, .string u, .bool fx, .bool ar, .int .i64 p1, .int .i64 c1, .bool x1, .bool y1, .int .i64 p2, .int .i64 c2, .bool x2, .bool y2] (0, 0) _ HY7.out.o Tryd.underlying46 rfl info_ref ?_)
    | (go_at_call 21; (with_reducible refine (HZ1.out _ HB7.out.f).mono ?_); rintro e wv8 ⟨rfl, hF8⟩; have HB8 : Hid (BSt w (wv8.alloc (.cells #[.string t, .string u, .bool fx, .bool ar, .int .i64 r1, .int .i64 c1, .bool x1, .bool y1, .int .i64 r2, .int .i64 c2, .bool x2, .bool y2] 46 (0, 0))) ao l cap sh At N nm own t u fx ar r1 c1 x1 y1 r2 c2 x2 y2 s rr c) := HB7.out.go (hF8.alloc (.cells #[.string t, .string u, .bool fx, .bool ar, .int .i64 r1, .int .i64 c1, .bool x1, .bool y1, .int .i64 r2, .int .i64 c2, .bool x2, .bool y2] 46 (0, 0))); have hz8 : RAt (wv8.alloc (.cells #[.string t, .string u, .bool fx, .bool ar, .int .i64 r1, .int .i64 c1, .bool x1, .bool y1, .int .i64 r2, .int .i64 c2, .bool x2, .bool y2] 46 (0, 0))) wv8.heap.size t u fx ar r1 c1 x1 y1 r2 c2 x2 y2 := ⟨heap_alloc_new wv8 _⟩; have y0z := hz8.g0; have y1z := hz8.g1; have y2z := hz8.g2; have y3z := hz8.g3; have y4z := hz8.g4; have y5z := hz8.g5; have y6z := hz8.g6; have y7z := hz8.g7; have y8z := hz8.g8; have y9z := hz8.g9; have y10z := hz8.g10; have y11z := hz8.g11; have r0z := HB8.out.r.g0; have r1z := HB8.out.r.g1; have r2z := HB8.out.r.g2; have r3z := HB8.out.r.g3; have r4z := HB8.out.r.g4; have r5z := HB8.out.r.g5; have r6z := HB8.out.r.g6; have r7z := HB8.out.r.g7; have r8z := HB8.out.r.g8; have r9z := HB8.out.r.g9; have r10z := HB8.out.r.g10; have r11z := HB8.out.r.g11; clear hF8 hz8 mk0 mk1 mk2 mk3 mk4 mk5 mk6 mx0 mx1 mx2 mx3 mx4))
  go_ret
  exact ⟨ret_bool (by simp), HB8.out.f.below (Nat.le_refl _) (fun _ h => h.elim)⟩
theorem refs_back (ao : Option Addr) (cap : Nat) (L : List ByteArray) (sh : ByteArray) (At N : Int) (nm own : ByteArray) (t u : ByteArray) (fx ar : Bool) (r1 c1 : Int) (x1 y1 : Bool) (r2 c2 : Int) (x2 y2 : Bool) (w : World) (h : SsAt w ao L) (hl : L.length ≤ 140737488355328) (ht : t.size ≤ 140737488355328) (hu : u.size ≤ 140737488355328) (hc : chkS L 1 sh At N nm = 0) (hk : chkF t u fx ar r1 c1 r2 c2 x2 y2 = 0) (hm : max r1 r2 < At ∨ max r1 r2 + N < 1048576) :
    ∃ p1 p2 : Int, (∀ W, Fr noB w W → Calls Tryd.prog 21 #[.slice ao L.length cap, .agg #[.int .i64 1, .string sh, .int .i64 At, .int .i64 N, .string nm], .string own, (.agg #[.string t, .string u, .bool fx, .bool ar, .int .i64 r1, .int .i64 c1, .bool x1, .bool y1, .int .i64 r2, .int .i64 c2, .bool x2, .bool y2])] W fun e w' => e = .returned (.tuple #[(.agg #[.string t, .string u, .bool fx, .bool ar, .int .i64 p1, .int .i64 c1, .bool x1, .bool y1, .int .i64 p2, .int .i64 c2, .bool x2, .bool y2]), .bool true]) ∧ Fr noB W w') ∧ (∀ W, Fr noB w W → Calls Tryd.prog 21 #[.slice ao L.length cap, .agg #[.int .i64 2, .string sh, .int .i64 At, .int .i64 N, .string nm], .string own, (.agg #[.string t, .string u, .bool fx, .bool ar, .int .i64 p1, .int .i64 c1, .bool x1, .bool y1, .int .i64 p2, .int .i64 c2, .bool x2, .bool y2])] W fun e w' => e = .returned (.tuple #[(.agg #[.string t, .string u, .bool fx, .bool ar, .int .i64 r1, .int .i64 c1, .bool x1, .bool y1, .int .i64 r2, .int .i64 c2, .bool x2, .bool y2]), .bool true]) ∧ Fr noB W w') := by
  have hc2 : chkS L 2 sh At N nm = 0 := (chk_same L sh At N nm).trans hc
  have hs := chk_span hc (by omega)
  unfold limF at hs
  rw [if_pos (by decide)] at hs
  have hb := chk_ref hk
  cases ho : (u.toList.isEmpty && onB t sh (alkF own sh)) with
  | false => exact ⟨r1, r2, fun W hF => row1_off ao cap L sh At N nm own t u fx ar r1 c1 x1 y1 r2 c2 x2 y2 W (h.keep hF) hl ht hu hc hk ho, fun W hF => row2_off ao cap L sh At N nm own t u fx ar r1 c1 x1 y1 r2 c2 x2 y2 W (h.keep hF) hl ht hu hc2 hk ho⟩
  | true =>
    rw [Bool.and_eq_true] at ho
    have g1 : r1 < At ∨ r1 + N < 1048576 := by omega
    have g2 : r2 < At ∨ r2 + N < 1048576 := by omega
    obtain ⟨a1, a2, a3⟩ := back_row hs.1 g1
    obtain ⟨b1, b2, b3⟩ := back_row hs.1 g2
    obtain ⟨d1, d2⟩ := back_lt g1 hb.2.1 hb.1 hs.1
    obtain ⟨d3, d4⟩ := back_lt g2 hb.2.2.2 hb.2.2.1 hs.1
    refine ⟨movI At N true r1, if ar = true then movI At N true r2 else r2, fun W hF => row1_on ao cap L sh At N nm own t u fx ar r1 c1 x1 y1 r2 c2 x2 y2 W (h.keep hF) hl ht hu hc hk ho.1 ho.2 a1 (fun _ => b1), fun W hF => ?_⟩
    have hk2 : chkF t u fx ar (movI At N true r1) c1 (if ar = true then movI At N true r2 else r2) c2 x2 y2 = 0 := chk_rows hk _ _ ⟨d1, d2⟩ (fun e => by rw [if_pos e]; exact ⟨d3, d4⟩) (fun e => by rw [e]; exact if_neg (by simp))
    have H := row2_on ao cap L sh At N nm own t u fx ar (movI At N true r1) c1 x1 y1 (if ar = true then movI At N true r2 else r2) c2 x2 y2 W (h.keep hF) hl ht hu hc2 hk2 ho.1 ho.2 a2 (fun e => by rw [if_pos e]; exact b2)
    rw [a3, show (if ar = true then movI At N false (if ar = true then movI At N true r2 else r2) else (if ar = true then movI At N true r2 else r2)) = r2 by cases ar <;> simp [b3]] at H
    exact H
theorem back_walk (ao : Option Addr) (cap : Nat) (L : List ByteArray) (K : Int) (sh : ByteArray) (At N : Int) (nm own : ByteArray) (t u : ByteArray) (fx ar : Bool) (r1 c1 : Int) (x1 y1 : Bool) (r2 c2 : Int) (x2 y2 : Bool) (s rr c : Int) (w : World) (h : SsAt w ao L) (hl : L.length ≤ 140737488355328) (hN : N ≤ 9223372036854775807) (hsh : sh.size ≤ 140737488355328) (hnm : nm.size ≤ 140737488355328) (hL : ∀ x ∈ L, x.size ≤ 140737488355328) (hT : Tabs w) (ht : t.size ≤ 140737488355328) (hu : u.size ≤ 140737488355328) :
    Calls Tryd.prog 6 #[.agg #[.slice ao L.length cap, .int .i64 K, .string sh, .int .i64 At, .int .i64 N, .string nm, .string own], (.agg #[.string t, .string u, .bool fx, .bool ar, .int .i64 r1, .int .i64 c1, .bool x1, .bool y1, .int .i64 r2, .int .i64 c2, .bool x2, .bool y2]), .agg #[.int .i64 s, .int .i64 rr, .int .i64 c]] w fun e w' => e = .returned (.bool true) ∧ Below w.heap.size w w' := by
  by_cases hc : chkS L 1 sh At N nm = 0
  case neg => exact back_no ao cap L K sh At N nm own t u fx ar r1 c1 x1 y1 r2 c2 x2 y2 s rr c w h hl hN hsh hnm hL hT hc
  by_cases hk : chkF t u fx ar r1 c1 r2 c2 x2 y2 = 0
  case neg =>
    cases hrem : remB L 1 sh At N nm s rr c with
    | false => exact back_nbad ao cap L K sh At N nm own t u fx ar r1 c1 x1 y1 r2 c2 x2 y2 s rr c w h hl hN hT ht hu hc hrem hk
    | true => exact back_cbad ao cap L K sh At N nm own t u fx ar r1 c1 x1 y1 r2 c2 x2 y2 s rr c w h hl hN hT ht hu hc hrem hk
  by_cases hm1 : At ≤ max r1 r2
  case neg =>
    obtain ⟨p1, p2, HY, HZ⟩ := refs_back ao cap L sh At N nm own t u fx ar r1 c1 x1 y1 r2 c2 x2 y2 w h hl ht hu hc hk (by omega)
    cases hrem : remB L 1 sh At N nm s rr c with
    | false => exact back_nlow ao cap L K sh At N nm own t u fx ar r1 c1 x1 y1 r2 c2 x2 y2 s rr c w h hl hN hT ht hu hc hrem hk hm1 p1 p2 HY HZ
    | true => exact back_clow ao cap L K sh At N nm own t u fx ar r1 c1 x1 y1 r2 c2 x2 y2 s rr c w h hl hN hT ht hu hc hrem hk hm1 p1 p2 HY HZ
  by_cases hm2 : 1048576 ≤ max r1 r2 + N
  · cases hrem : remB L 1 sh At N nm s rr c with
    | false => exact back_nfar ao cap L K sh At N nm own t u fx ar r1 c1 x1 y1 r2 c2 x2 y2 s rr c w h hl hN hT ht hu hc hrem hk hm1 hm2
    | true => exact back_cfar ao cap L K sh At N nm own t u fx ar r1 c1 x1 y1 r2 c2 x2 y2 s rr c w h hl hN hT ht hu hc hrem hk hm1 hm2
  · obtain ⟨p1, p2, HY, HZ⟩ := refs_back ao cap L sh At N nm own t u fx ar r1 c1 x1 y1 r2 c2 x2 y2 w h hl ht hu hc hk (by omega)
    cases hrem : remB L 1 sh At N nm s rr c with
    | false => exact back_nin ao cap L K sh At N nm own t u fx ar r1 c1 x1 y1 r2 c2 x2 y2 s rr c w h hl hN hT ht hu hc hrem hk hm1 hm2 p1 p2 HY HZ
    | true => exact back_cin ao cap L K sh At N nm own t u fx ar r1 c1 x1 y1 r2 c2 x2 y2 s rr c w h hl hN hT ht hu hc hrem hk hm1 hm2 p1 p2 HY HZ
#print axioms back_walk
end Go.Proofs.YthokhnbecgkpbaaDoor
