/- The walk of BitioBack. -/
import Derived.Test.YtokgolmioonbfaaBackM
import Derived.Test.YtokgolmioonbfaaLive
import Derived.Test.YtokgolmioonbfaaEq
import Derived.Deep.CutRange
namespace Go.Proofs.Ytokgolmioonbfaa
open Go.RowKit

/-- What stands at each round's head of the first loop. -/
structure BInv (w wr : World) (wb : Nat) (lv : Value) (Q : List QOp) : Prop where
  ok : ∀ q ∈ Q, q.n ≤ 32 ∧ q.v < 2 ^ q.n
  own : wr.ownsRow (wb + 1) 31 4 lv Q.length (qall Q)
  wi : WrIs wr wb (qbits Q)
  below : Below w.heap.size w wr

theorem BInv.same {w wr wn : World} {wb : Nat} {lv : Value} {Q : List QOp} (h : BInv w wr wb lv Q) (hf : Fr noB wr wn) : BInv w wn wb lv Q :=
  ⟨h.ok, own_frE h.own hf (fun _ _ _ hk => hk.elim), h.wi.same hf, h.below.trans (hf.below h.below.size (fun _ hk => hk.elim))⟩

theorem own31_block {w : World} {base n : Nat} {v : Value} {xs : List Value} (h : w.ownsRow base 31 4 v n xs) (k : Nat) (hk : v.ownBlock = some k) : base ≤ k ∧ ∃ cur, w.heap[k]? = some (.cells cur 31 (0, 0)) := by
  obtain ⟨_, h2⟩ := h
  rcases h2 with ⟨rfl, _⟩ | ⟨g, cap, cur, rfl, hg, hh, _⟩
  · simp [Value.ownBlock] at hk
  · simp [Value.ownBlock] at hk
    subst hk
    exact ⟨hg, cur, hh⟩

theorem own31_slice {w : World} {base n : Nat} {v : Value} {xs : List Value} (h : w.ownsRow base 31 4 v n xs) :
    ∃ so cap, v = .slice so n cap ∧ n ≤ cap ∧ cap ≤ maxLen ∧ (n = 0 ∨ ∃ g cur, so = some ⟨g, 0, none⟩ ∧ w.heap[g]? = some (.cells cur 31 (0, 0)) ∧ cur.toList.take (n * 4) = xs) := by
  obtain ⟨_, h2⟩ := h
  rcases h2 with ⟨rfl, rfl⟩ | ⟨g, cap, cur, rfl, hg, hh, hc, hm, hs, ht⟩
  · exact ⟨none, 0, rfl, Nat.le_refl _, by unfold maxLen; omega, Or.inl rfl⟩
  · exact ⟨_, cap, rfl, hc, hm, Or.inr ⟨g, cur, rfl, hh, ht⟩⟩

theorem below_one' {w W0 W1 : World} {rb : Nat} (hb : Below w.heap.size w W0) (hrb : w.heap.size ≤ rb) (f : Fr (oneB rb) W0 W1) : Below w.heap.size w W1 :=
  hb.trans (f.below hb.size (fun k hk => by rw [show k = rb from hk]; exact hrb))
theorem below_drewN {B : Nat} {a w : World} (h : Below B a w) (n : Nat) : Below B a (w.drewN n) := ⟨h.os, h.tape, h.output, h.size, h.block⟩

theorem own31_w {W0 w5 : World} {wb n : Nat} {v : Value} {xs : List Value} (h : W0.ownsRow (wb + 1) 31 4 v n xs) (hF : Fr (wS W0 wb) W0 w5) : w5.ownsRow (wb + 1) 31 4 v n xs :=
  own_frE h hF (fun k cs fr hk hb he => by
    rcases hk with rfl | ⟨_, cs', fr', hc⟩
    · omega
    · rw [he] at hc; simp at hc)

theorem below_w {w W0 w5 : World} {wb : Nat} (hb : Below w.heap.size w W0) (hwb : w.heap.size ≤ wb) (hF : Fr (wS W0 wb) W0 w5) : Below w.heap.size w w5 :=
  hb.trans (hF.below hb.size (fun k hk => by rcases hk with rfl | ⟨h, _⟩ <;> omega))

theorem obj31_w {W0 w5 : World} {wb ob : Nat} {cs : Array Value} (hO : W0.heap[ob]? = some (.cells cs 31 (0, 0))) (hne : ob ≠ wb) (hF : Fr (wS W0 wb) W0 w5) : w5.heap[ob]? = some (.cells cs 31 (0, 0)) :=
  hF.obj hO (fun hk => by
    rcases hk with rfl | ⟨_, cs', fr', hc⟩
    · exact hne rfl
    · rw [hO] at hc; simp at hc)

theorem BInv.step {w W0 w5 w6 : World} {wb : Nat} {lv lv' : Value} {Q : List QOp} {q : QOp} {O : Obj} (h : BInv w W0 wb lv Q) (hwb : w.heap.size ≤ wb) (hq : q.n ≤ 32 ∧ q.v < 2 ^ q.n) (hW5 : WrIs w5 wb (qbits Q ++ bitsN q.v q.n)) (hF5 : Fr (wS W0 wb) W0 w5)
    (hown6 : w6.ownsRow (wb + 1) 31 4 lv' (Q.length + 1) (qall Q ++ qcells q)) (hg6 : (w5.alloc O).grownBy w6 lv.ownBlock) : BInv w w6 wb lv' (Q ++ [q]) := by
  have hF6 : Fr (fun k => lv.ownBlock = some k) w5 w6 := ((Fr.refl _ w5).alloc O).grown hg6 (fun k hk => Or.inl hk)
  have own5 := own31_w h.own hF5
  have hbl := below_w h.below hwb hF5
  refine ⟨?_, ?_, ?_, ?_⟩
  · intro q' hq'
    simp at hq'
    rcases hq' with hq' | rfl
    · exact h.ok q' hq'
    · exact hq
  · rw [qall_snoc, List.length_append]; exact hown6
  · rw [qbits_snoc]
    refine hW5.fr hF6 (fun hk => ?_) (fun k cs fr hk _ he => ?_)
    · have := (own31_block own5 wb hk).1; omega
    · obtain ⟨cur, hc⟩ := (own31_block own5 k hk).2
      rw [hc] at he; simp at he
  · refine hbl.trans (hF6.below hbl.size (fun k hk => ?_))
    have := (own31_block own5 k hk).1
    omega

theorem mask_u32 (v n : Nat) (hv : v < 4294967296) (hn : n < 32) : bits .and .u32 (v : Int) ((2 ^ n - 1) % 4294967296) = ((v % 2 ^ n : Nat) : Int) := by
  have h1 := pow_lt_32 n hn
  have h2 : 0 < 2 ^ n := Nat.pow_pos (by decide)
  have h3 : (((2 : Int) ^ n) - 1) % 4294967296 = ((2 ^ n - 1 : Nat) : Int) := by
    have h4 : ((2 : Int) ^ n) = ((2 ^ n : Nat) : Int) := by simp
    rw [h4]; omega
  rw [h3, u32_and_nat _ _ hv (by omega), Nat.and_two_pow_sub_one_eq_mod]

set_option maxRecDepth 100000 in
set_option maxHeartbeats 3200000 in
theorem back_walk (s : Value) (X : List OpD) (w : World) (hs : OpsL w s X) (hL48 : X.length * 48 ≤ 140737488351232) :
    Calls Try.prog 5 #[s] w fun e w' => e = .returned (.bool true) ∧ Below w.heap.size w w' := by
  obtain ⟨i0, hi, hz0, hz1, hz2⟩ := info_parts Try.info31
  obtain ⟨so, cap, rfl, hLc, hcap, hops⟩ := hs
  obtain ⟨L, hL⟩ : ∃ L, L = X.length := ⟨_, rfl⟩
  unfold maxLen at hcap
  rw [← hL] at hLc hL48 ⊢
  have HL : Hid (L = X.length) := hL
  clear hL
  go_enter Try.func5, Try.ntmps5
  go_wp2_with fail
  refine (newWriter_any _).mono ?_
  rintro e w1 ⟨rfl, hW1, hF1, hsz1⟩
  go_wp2_with fail
  refine (live_any _).mono ?_
  rintro e w2 ⟨rfl, hF2⟩
  have hinv : BInv w w2 w.heap.size (.slice none 0 0) [] := by
    refine ⟨by simp, World.ownsRow_nil _ _ _ _, hW1.same hF2, (hF1.then hF2 (fun _ hk => hk.elim)).below (Nat.le_refl _) (fun _ hk => hk.elim)⟩
  clear hF1 hF2 hW1 hsz1
  go_wp2_with fail
  obtain ⟨wb, hwb⟩ : ∃ wb, wb = w.heap.size := ⟨_, rfl⟩
  rw [← hwb] at hinv ⊢
  have hwbw : w.heap.size ≤ wb := by omega
  clear hwb
  go_loopw [4, 21] (fun lv i wr => ∃ (k : Nat) (Q : List QOp), k ≤ L ∧ Q.length = k ∧ i = .int .i64 (k : Int) ∧ BInv w wr wb lv Q) (fun _ i _ => L - (intOf i).toNat)
  case atStart => exact ⟨0, [], Nat.zero_le _, rfl, rfl, hinv⟩
  case round =>
    clear hinv
    obtain ⟨k, Q, hk, rfl, rfl, hI⟩ := hrel
    by_cases hlt : Q.length < L
    · obtain ⟨b, off, rfl, hb, hop⟩ : ∃ b off, so = some ⟨b, off, none⟩ ∧ b < w.heap.size ∧ ∀ k (h : k < X.length), OpIs w b (off + k * 4) X[k] := by
        rcases hops with h0 | h0
        · have := HL.out; subst h0; simp at this; omega
        · exact h0
      obtain ⟨da, dl, dc, ⟨o0, o1, o2, o3⟩, hdb, hdd, hvv, hn1, hn2⟩ := hop Q.length (by have := HL.out; omega)
      clear hop hops hdb hdd
      have e0 := (hI.below.cell (p := ⟨b, off + Q.length * 4, none⟩) hb).trans o0
      have e1 := (hI.below.cell (p := ⟨b, off + Q.length * 4 + 1, none⟩) hb).trans o1
      have e2 := (hI.below.cell (p := ⟨b, off + Q.length * 4 + 2, none⟩) hb).trans o2
      have e3 := (hI.below.cell (p := ⟨b, off + Q.length * 4 + 3, none⟩) hb).trans o3
      clear o0 o1 o2 o3
      generalize X[Q.length].kind = kd at *
      generalize X[Q.length].n = n at *
      generalize X[Q.length].v = v at *
      by_cases hbad : n < 0 ∨ 32 < n
      · have hNN : 32 ≤ 32 := by omega
        have hVV : Hid (v < 2 ^ 32) := by show v < 2 ^ 32; omega
        go_upto_region 12 with fail
        all_goals
          obtain ⟨ob, hob⟩ : ∃ ob, ob = wr.heap.size := ⟨_, rfl⟩
          obtain ⟨W0, hW0⟩ : ∃ W0, W0 = wr.alloc (.cells #[.int .i64 kd, .int .i64 32, .int .u32 (v : Int), .slice da dl dc] 31 (0, 0)) := ⟨_, rfl⟩
          have hO : W0.heap[ob]? = some (.cells #[.int .i64 kd, .int .i64 ((32 : Nat) : Int), .int .u32 ((v : Nat) : Int), .slice da dl dc] 31 (0, 0)) := by rw [hW0, hob]; exact heap_alloc_new _ _
          have hI0 : BInv w W0 wb u4 Q := by rw [hW0]; exact hI.same ((Fr.refl _ _).alloc _)
          have m1 : ob ≠ wb := by obtain ⟨sv, hsv, _⟩ := hI.wi; have := lt_of_block hsv; omega
          rw [← hW0, ← hob]
          clear hW0 hob e0 e1 e2 e3 hI
          have q1 := cellOf (o := 1) hO rfl
          have q2 := cellOf (o := 2) hO rfl
          have HO : Hid (W0.heap[ob]? = some (.cells #[.int .i64 kd, .int .i64 ((32 : Nat) : Int), .int .u32 ((v : Nat) : Int), .slice da dl dc] 31 (0, 0))) := hO
          clear hO
          go_wp2_with fail
          refine (wbits_good wb v 32 (qbits Q) _ hI0.wi hNN hVV.out (by have := qbits_le Q hI0.ok; omega)).mono ?_
          rintro e w5 ⟨rfl, hW5, hF5⟩
          have hO5 := obj31_w HO.out m1 hF5
          have own5 := own31_w hI0.own hF5
          have r0 := cellOf (o := 0) hO5 rfl
          have r1 := cellOf (o := 1) hO5 rfl
          have r2 := cellOf (o := 2) hO5 rfl
          have r3 := cellOf (o := 3) hO5 rfl
          obtain ⟨q, hq⟩ : ∃ q : QOp, q = ⟨kd, 32, v, da, dl, dc⟩ := ⟨_, rfl⟩
          have hqc : qcells q = [.int .i64 kd, .int .i64 ((32 : Nat) : Int), .int .u32 ((v : Nat) : Int), .slice da dl dc] := by rw [hq]; rfl
          have hnews : ∀ j u, (qcells q)[j]? = some u → (w5.alloc (.cells #[.int .i64 kd, .int .i64 ((32 : Nat) : Int), .int .u32 ((v : Nat) : Int), .slice da dl dc] 31 (0, 0))).cell? ((⟨w5.heap.size, 0, none⟩ : Addr).add j) = some u := by
            intro j u hj
            rw [add_none]
            rw [hqc] at hj
            refine cellOf (heap_alloc_new _ _) ?_
            simpa using hj
          have hone : ∀ u ∈ qcells q, u.oneCell' = true := by
            intro u hu
            simp [qcells] at hu
            rcases hu with rfl | rfl | rfl | rfl <;> rfl
          have h63 : Q.length + 1 ≤ maxLen := by unfold maxLen; omega
          have hq4 : (qcells q).length = 1 * 4 := rfl
          have hszw : wb + 1 ≤ w5.heap.size + 1 := by obtain ⟨sv, hsv, _⟩ := hW5; have := lt_of_block hsv; omega
          have hqok : q.n ≤ 32 ∧ q.v < 2 ^ q.n := by rw [hq]; exact ⟨hNN, hVV.out⟩
          have hW5' : WrIs w5 wb (qbits Q ++ bitsN q.v q.n) := by rw [hq]; exact hW5
          have HNW : Hid (∀ j u, (qcells q)[j]? = some u → (w5.alloc (.cells #[.int .i64 kd, .int .i64 ((32 : Nat) : Int), .int .u32 ((v : Nat) : Int), .slice da dl dc] 31 (0, 0))).cell? ((⟨w5.heap.size, 0, none⟩ : Addr).add j) = some u) := hnews
          have HON : Hid (∀ u ∈ qcells q, u.oneCell' = true) := hone
          have HQK : Hid (q.n ≤ 32 ∧ q.v < 2 ^ q.n) := hqok
          clear hq hqc q1 q2 hnews hone hqok hW5 hO5
          go_wp2_with (at_builtin; refine wpList_append_own _ rfl (.tmp 52) (.tmp 54) 23 rfl (wb + 1) 31 i0 (.agg #[.int .i64 0, .int .i64 0, .int .u32 0, .slice none 0 0]) 4 48 Try.underlying23 hi hz0 hz1 hz2 rfl (by decide) _ Q.length (qall Q) rfl (own5.alloc _) ⟨w5.heap.size, 0, none⟩ 1 1 (qcells q) rfl hq4 HNW.out HON.out h63 (by omega) (by simpa using hszw) ?_)
          intro lv' w6 hown6 hg6 _
          have hI6 := hI0.step hwbw HQK.out hW5' hF5 hown6 hg6
          clear hown6 hg6 hW5' hF5 own5 hI0
          go_wp2_with fail
          go_roundw
          case rel => exact ⟨Q.length + 1, Q ++ [q], by omega, by simp, by go_num, hI6⟩
          case measure => simp [intOf]; omega
      · obtain ⟨N, rfl⟩ := Int.eq_ofNat_of_zero_le (show 0 ≤ n by omega)
        have hNN : N ≤ 32 := by omega
        clear hbad
        by_cases h32 : N < 32
        · go_upto_region 11 with fail
          go_region
          go_upto_region 12 with fail
          obtain ⟨V, hV⟩ : ∃ V, V = v % 2 ^ N := ⟨_, rfl⟩
          have hVV : Hid (V < 2 ^ N) := by rw [hV]; exact Nat.mod_lt _ (Nat.pow_pos (by decide))
          have hmask := mask_u32 v N hvv h32
          rw [← hV] at hmask
          rw [hmask]
          clear hmask hV
          obtain ⟨ob, hob⟩ : ∃ ob, ob = wr.heap.size := ⟨_, rfl⟩
          obtain ⟨W0, hW0⟩ : ∃ W0, W0 = (wr.alloc (.cells #[.int .i64 kd, .int .i64 (N : Int), .int .u32 (V : Int), .slice da dl dc] 31 (0, 0))).drew := ⟨_, rfl⟩
          have hO : W0.heap[ob]? = some (.cells #[.int .i64 kd, .int .i64 ((N : Nat) : Int), .int .u32 ((V : Nat) : Int), .slice da dl dc] 31 (0, 0)) := by rw [hW0, hob]; exact heap_alloc_new _ _
          have hI0 : BInv w W0 wb u4 Q := by rw [hW0]; exact hI.same (((Fr.refl _ _).alloc _).drew)
          have m1 : ob ≠ wb := by obtain ⟨sv, hsv, _⟩ := hI.wi; have := lt_of_block hsv; omega
          rw [← hW0, ← hob]
          clear hW0 hob e0 e1 e2 e3 hI
          have q1 := cellOf (o := 1) hO rfl
          have q2 := cellOf (o := 2) hO rfl
          have HO : Hid (W0.heap[ob]? = some (.cells #[.int .i64 kd, .int .i64 ((N : Nat) : Int), .int .u32 ((V : Nat) : Int), .slice da dl dc] 31 (0, 0))) := hO
          clear hO
          go_wp2_with fail
          refine (wbits_good wb V N (qbits Q) _ hI0.wi hNN hVV.out (by have := qbits_le Q hI0.ok; omega)).mono ?_
          rintro e w5 ⟨rfl, hW5, hF5⟩
          have hO5 := obj31_w HO.out m1 hF5
          have own5 := own31_w hI0.own hF5
          have r0 := cellOf (o := 0) hO5 rfl
          have r1 := cellOf (o := 1) hO5 rfl
          have r2 := cellOf (o := 2) hO5 rfl
          have r3 := cellOf (o := 3) hO5 rfl
          obtain ⟨q, hq⟩ : ∃ q : QOp, q = ⟨kd, N, V, da, dl, dc⟩ := ⟨_, rfl⟩
          have hqc : qcells q = [.int .i64 kd, .int .i64 ((N : Nat) : Int), .int .u32 ((V : Nat) : Int), .slice da dl dc] := by rw [hq]; rfl
          have hnews : ∀ j u, (qcells q)[j]? = some u → (w5.alloc (.cells #[.int .i64 kd, .int .i64 ((N : Nat) : Int), .int .u32 ((V : Nat) : Int), .slice da dl dc] 31 (0, 0))).cell? ((⟨w5.heap.size, 0, none⟩ : Addr).add j) = some u := by
            intro j u hj
            rw [add_none]
            rw [hqc] at hj
            refine cellOf (heap_alloc_new _ _) ?_
            simpa using hj
          have hone : ∀ u ∈ qcells q, u.oneCell' = true := by
            intro u hu
            simp [qcells] at hu
            rcases hu with rfl | rfl | rfl | rfl <;> rfl
          have h63 : Q.length + 1 ≤ maxLen := by unfold maxLen; omega
          have hq4 : (qcells q).length = 1 * 4 := rfl
          have hszw : wb + 1 ≤ w5.heap.size + 1 := by obtain ⟨sv, hsv, _⟩ := hW5; have := lt_of_block hsv; omega
          have hqok : q.n ≤ 32 ∧ q.v < 2 ^ q.n := by rw [hq]; exact ⟨hNN, hVV.out⟩
          have hW5' : WrIs w5 wb (qbits Q ++ bitsN q.v q.n) := by rw [hq]; exact hW5
          have HNW : Hid (∀ j u, (qcells q)[j]? = some u → (w5.alloc (.cells #[.int .i64 kd, .int .i64 ((N : Nat) : Int), .int .u32 ((V : Nat) : Int), .slice da dl dc] 31 (0, 0))).cell? ((⟨w5.heap.size, 0, none⟩ : Addr).add j) = some u) := hnews
          have HON : Hid (∀ u ∈ qcells q, u.oneCell' = true) := hone
          have HQK : Hid (q.n ≤ 32 ∧ q.v < 2 ^ q.n) := hqok
          clear hq hqc q1 q2 hnews hone hqok hW5 hO5
          go_wp2_with (at_builtin; refine wpList_append_own _ rfl (.tmp 52) (.tmp 54) 23 rfl (wb + 1) 31 i0 (.agg #[.int .i64 0, .int .i64 0, .int .u32 0, .slice none 0 0]) 4 48 Try.underlying23 hi hz0 hz1 hz2 rfl (by decide) _ Q.length (qall Q) rfl (own5.alloc _) ⟨w5.heap.size, 0, none⟩ 1 1 (qcells q) rfl hq4 HNW.out HON.out h63 (by omega) (by simpa using hszw) ?_)
          intro lv' w6 hown6 hg6 _
          have hI6 := hI0.step hwbw HQK.out hW5' hF5 hown6 hg6
          clear hown6 hg6 hW5' hF5 own5 hI0
          go_wp2_with fail
          go_roundw
          case rel => exact ⟨Q.length + 1, Q ++ [q], by omega, by simp, by go_num, hI6⟩
          case measure => simp [intOf]; omega
        · obtain rfl : N = 32 := by omega
          have hVV : Hid (v < 2 ^ 32) := by show v < 2 ^ 32; omega
          go_upto_region 12 with fail
          obtain ⟨ob, hob⟩ : ∃ ob, ob = wr.heap.size := ⟨_, rfl⟩
          obtain ⟨W0, hW0⟩ : ∃ W0, W0 = wr.alloc (.cells #[.int .i64 kd, .int .i64 32, .int .u32 (v : Int), .slice da dl dc] 31 (0, 0)) := ⟨_, rfl⟩
          have hO : W0.heap[ob]? = some (.cells #[.int .i64 kd, .int .i64 ((32 : Nat) : Int), .int .u32 ((v : Nat) : Int), .slice da dl dc] 31 (0, 0)) := by rw [hW0, hob]; exact heap_alloc_new _ _
          have hI0 : BInv w W0 wb u4 Q := by rw [hW0]; exact hI.same ((Fr.refl _ _).alloc _)
          have m1 : ob ≠ wb := by obtain ⟨sv, hsv, _⟩ := hI.wi; have := lt_of_block hsv; omega
          rw [← hW0, ← hob]
          clear hW0 hob e0 e1 e2 e3 hI
          have q1 := cellOf (o := 1) hO rfl
          have q2 := cellOf (o := 2) hO rfl
          have HO : Hid (W0.heap[ob]? = some (.cells #[.int .i64 kd, .int .i64 ((32 : Nat) : Int), .int .u32 ((v : Nat) : Int), .slice da dl dc] 31 (0, 0))) := hO
          clear hO
          go_wp2_with fail
          refine (wbits_good wb v 32 (qbits Q) _ hI0.wi hNN hVV.out (by have := qbits_le Q hI0.ok; omega)).mono ?_
          rintro e w5 ⟨rfl, hW5, hF5⟩
          have hO5 := obj31_w HO.out m1 hF5
          have own5 := own31_w hI0.own hF5
          have r0 := cellOf (o := 0) hO5 rfl
          have r1 := cellOf (o := 1) hO5 rfl
          have r2 := cellOf (o := 2) hO5 rfl
          have r3 := cellOf (o := 3) hO5 rfl
          obtain ⟨q, hq⟩ : ∃ q : QOp, q = ⟨kd, 32, v, da, dl, dc⟩ := ⟨_, rfl⟩
          have hqc : qcells q = [.int .i64 kd, .int .i64 ((32 : Nat) : Int), .int .u32 ((v : Nat) : Int), .slice da dl dc] := by rw [hq]; rfl
          have hnews : ∀ j u, (qcells q)[j]? = some u → (w5.alloc (.cells #[.int .i64 kd, .int .i64 ((32 : Nat) : Int), .int .u32 ((v : Nat) : Int), .slice da dl dc] 31 (0, 0))).cell? ((⟨w5.heap.size, 0, none⟩ : Addr).add j) = some u := by
            intro j u hj
            rw [add_none]
            rw [hqc] at hj
            refine cellOf (heap_alloc_new _ _) ?_
            simpa using hj
          have hone : ∀ u ∈ qcells q, u.oneCell' = true := by
            intro u hu
            simp [qcells] at hu
            rcases hu with rfl | rfl | rfl | rfl <;> rfl
          have h63 : Q.length + 1 ≤ maxLen := by unfold maxLen; omega
          have hq4 : (qcells q).length = 1 * 4 := rfl
          have hszw : wb + 1 ≤ w5.heap.size + 1 := by obtain ⟨sv, hsv, _⟩ := hW5; have := lt_of_block hsv; omega
          have hqok : q.n ≤ 32 ∧ q.v < 2 ^ q.n := by rw [hq]; exact ⟨hNN, hVV.out⟩
          have hW5' : WrIs w5 wb (qbits Q ++ bitsN q.v q.n) := by rw [hq]; exact hW5
          have HNW : Hid (∀ j u, (qcells q)[j]? = some u → (w5.alloc (.cells #[.int .i64 kd, .int .i64 ((32 : Nat) : Int), .int .u32 ((v : Nat) : Int), .slice da dl dc] 31 (0, 0))).cell? ((⟨w5.heap.size, 0, none⟩ : Addr).add j) = some u) := hnews
          have HON : Hid (∀ u ∈ qcells q, u.oneCell' = true) := hone
          have HQK : Hid (q.n ≤ 32 ∧ q.v < 2 ^ q.n) := hqok
          clear hq hqc q1 q2 hnews hone hqok hW5 hO5
          go_wp2_with (at_builtin; refine wpList_append_own _ rfl (.tmp 52) (.tmp 54) 23 rfl (wb + 1) 31 i0 (.agg #[.int .i64 0, .int .i64 0, .int .u32 0, .slice none 0 0]) 4 48 Try.underlying23 hi hz0 hz1 hz2 rfl (by decide) _ Q.length (qall Q) rfl (own5.alloc _) ⟨w5.heap.size, 0, none⟩ 1 1 (qcells q) rfl hq4 HNW.out HON.out h63 (by omega) (by simpa using hszw) ?_)
          intro lv' w6 hown6 hg6 _
          have hI6 := hI0.step hwbw HQK.out hW5' hF5 hown6 hg6
          clear hown6 hg6 hW5' hF5 own5 hI0
          go_wp2_with fail
          go_roundw
          case rel => exact ⟨Q.length + 1, Q ++ [q], by omega, by simp, by go_num, hI6⟩
          case measure => simp [intOf]; omega
    · obtain rfl : L = Q.length := by omega
      obtain ⟨lo, lcap, hlv, hlc, hl2, hlr⟩ := own31_slice hI.own
      have hqb := qbits_le Q hI.ok
      have hblen : (packB (qbits Q)).length ≤ 140737488355328 := by simp; omega
      clear hops
      rw [hlv] at *
      go_wp2_with fail
      refine (wout_any wb (qbits Q) _ hI.wi (by omega)).mono ?_
      rintro e w5 ⟨ov, rfl, hov, hF5⟩
      go_wp2_with fail
      refine (newReader_any ov (packB (qbits Q)) _ (Bs.ofOwn hov) hblen).mono ?_
      rintro e w6 ⟨rb, g, rfl, hrb, hg, hne, hR, hr, hF6⟩
      have hbl6 : Below w.heap.size w w6 := (hI.same (hF5.then hF6 (fun _ hk => hk.elim))).below
      have hrbw : w.heap.size ≤ rb := by have := hI.below.size; have := hF5.size; omega
      have hl6 : Q.length = 0 ∨ ∃ gl cur, lo = some ⟨gl, 0, none⟩ ∧ gl ≠ rb ∧ gl < w6.heap.size ∧ w6.heap[gl]? = some (.cells cur 31 (0, 0)) ∧ cur.toList.take (Q.length * 4) = qall Q := by
        rcases hlr with h0 | ⟨gl, cur, h1, h2, h3⟩
        · exact Or.inl h0
        · have h5 := hF5.obj h2 id
          have h6 := hF6.obj h5 id
          exact Or.inr ⟨gl, cur, h1, by have := lt_of_block h5; omega, lt_of_block h6, h6, h3⟩
      obtain ⟨B, hB⟩ : ∃ B, B = packB (qbits Q) := ⟨_, rfl⟩
      have hBl : ∀ x ∈ B, x < 256 := by rw [hB]; exact packB_lt _
      have hB8 : (qbits Q).length ≤ 8 * B.length := by rw [hB]; simp; omega
      have hB9 : 8 * B.length < (qbits Q).length + 8 := by rw [hB]; simp; omega
      have hnum : Hid (∀ k (hk : k < Q.length), numAt B (posQ Q k) Q[k].n = Q[k].v) := fun k hk => by rw [hB]; exact num_back Q k hk (hI.ok _ (List.getElem_mem hk)).2
      have hok := hI.ok
      rw [← hB] at hblen hR hr
      clear hB hov hF5 hF6 hI hlr
      go_wp2_with fail
      go_loopw [64] (fun i wr2 => ∃ k : Nat, k ≤ Q.length ∧ i = .int .i64 (k : Int) ∧ RdAt wr2 rb g B.length (posQ Q k) ∧ Fr (oneB rb) w6 wr2) (fun i _ => Q.length - (intOf i).toNat)
      case atStart => exact ⟨0, Nat.zero_le _, rfl, by rw [posQ_zero]; exact hR, Fr.refl _ _⟩
      case round =>
        clear hR
        obtain ⟨k, hk, rfl, hR2, hF2⟩ := hrel
        by_cases hkl : k < Q.length
        · obtain ⟨gl, cur, rfl, hgr, hgs, hgh, hgt⟩ : ∃ gl cur, lo = some ⟨gl, 0, none⟩ ∧ gl ≠ rb ∧ gl < w6.heap.size ∧ w6.heap[gl]? = some (.cells cur 31 (0, 0)) ∧ cur.toList.take (Q.length * 4) = qall Q := by
            rcases hl6 with h0 | h0
            · omega
            · exact h0
          have hgh2 := hF2.obj hgh hgr
          have cg : ∀ j v, j < 4 → (qcells Q[k])[j]? = some v → wr.cell? ⟨gl, k * 4 + j, none⟩ = some v := by
            intro j v hj hv
            refine cellOf hgh2 ?_
            rw [← qall_get Q k j hkl hj, ← hgt, List.getElem?_take_of_lt (by omega)] at hv
            simpa using hv
          have e0 := cg 0 _ (by omega) rfl
          have e1 := cg 1 _ (by omega) rfl
          have e2 := cg 2 _ (by omega) rfl
          have e3 := cg 3 _ (by omega) rfl
          simp only [Nat.add_zero] at e0
          have hqk := hok _ (List.getElem_mem hkl)
          have hpos := posQ_succ Q k hkl
          have hple := posQ_le Q (k + 1)
          have hnk := hnum.out k hkl
          have hr2 : RowAt wr g B := hF2.obj hr (fun h => hne h.symm)
          generalize Q[k] = q at *
          obtain ⟨ob, hob⟩ : ∃ ob, ob = wr.heap.size := ⟨_, rfl⟩
          have m1 : ob ≠ rb := by have := lt_of_block hR2; omega
          have HP : Hid (posQ Q (k + 1) = posQ Q k + q.n) := hpos
          have HK : Hid (numAt B (posQ Q k) q.n = q.v) := hnk
          have hfit : posQ Q k + q.n ≤ 8 * B.length := by omega
          have hq32 := hqk.1
          clear hpos hnk cg hgh2 hgt hqk hl6 hnum
          go_upto_region 22 with fail
          rw [← hob]
          obtain ⟨W0, hW0⟩ : ∃ W0, W0 = wr.alloc (.cells #[.int .i64 q.kind, .int .i64 (q.n : Int), .int .u32 (q.v : Int), .slice q.da q.dl q.dc] 31 (0, 0)) := ⟨_, rfl⟩
          have hO : W0.heap[ob]? = some (.cells #[.int .i64 q.kind, .int .i64 (q.n : Int), .int .u32 (q.v : Int), .slice q.da q.dl q.dc] 31 (0, 0)) := by rw [hW0, hob]; exact heap_alloc_new _ _
          have hFa : Fr noB wr W0 := by rw [hW0]; exact (Fr.refl _ _).alloc _
          rw [← hW0]
          have q1 := cellOf (o := 1) hO rfl
          have hR3 : RdAt W0 rb g B.length (posQ Q k) := hFa.obj hR2 id
          have hr3 : RowAt W0 g B := hFa.obj hr2 id
          have hF3 : Fr (oneB rb) w6 W0 := hF2.then hFa (fun _ h => h.elim)
          have HO : Hid (W0.heap[ob]? = some (.cells #[.int .i64 q.kind, .int .i64 (q.n : Int), .int .u32 (q.v : Int), .slice q.da q.dl q.dc] 31 (0, 0))) := hO
          clear hW0 hob hO hFa hR2 hr2 hF2 e0 e1 e2 e3
          go_wp2_with fail
          refine (bits_good rb g (posQ Q k) q.n B _ hR3 hr3 hBl hblen hq32 hfit).mono ?_
          rintro e w7 ⟨rfl, hR7, hF7⟩
          rw [HK.out]
          have q7 := cellOf (o := 2) (hF7.obj HO.out m1) rfl
          go_wp2_with fail
          go_roundw
          case rel => exact ⟨k + 1, by omega, by go_num, by rw [HP.out]; exact hR7, hF3.trans hF7⟩
          case measure => simp [intOf]; omega
        · obtain rfl : k = Q.length := by omega
          have hple := posQ_le Q Q.length
          have hpa := posQ_all Q
          go_wp2_with fail
          refine (left_any rb g B.length _ _ hR2 (by omega) hblen).mono ?_
          rintro e w7 ⟨rfl, m, rfl⟩
          go_wp2_with fail
          go_ret
          exact ⟨by simp; omega, below_drewN (below_one' hbl6 hrbw hF2) m⟩
end Go.Proofs.Ytokgolmioonbfaa
