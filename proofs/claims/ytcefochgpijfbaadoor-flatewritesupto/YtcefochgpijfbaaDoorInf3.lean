/- The contract of a final stored block; the iterator over it; Inflate of it. -/
import Derived.Test.YtcefochgpijfbaaDoorInf2
import Derived.Test.YtcefochgpijfbaaDoorRng
namespace Go.Proofs.YtcefochgpijfbaaDoor
open Go.RowKit Go.Shelf

/-- A stored block that is the final one, and right, at the place p, which is a whole byte. -/
structure Last (B : List Nat) (p f a b c d : Nat) (T : List Nat) : Prop where
  lt : ∀ x ∈ B, x < 256
  short : B.length ≤ 1073741824
  head : p + 3 ≤ 8 * B.length
  num : numAt B p 3 = 1
  place : f = (p + 3 + 7) / 8
  four : (B.drop f).take 4 = [a, b, c, d]
  compl : a + 256 * b + (c + 256 * d) = 65535
  text : (B.drop (f + 4)).take (a + 256 * b) = T
  there : f + 4 + (a + 256 * b) ≤ B.length
theorem Last.len {B : List Nat} {p f a b c d : Nat} {T : List Nat} (h : Last B p f a b c d T) : T.length = a + 256 * b := by
  rw [← h.text, List.length_take, List.length_drop]
  have := h.there
  omega

set_option maxRecDepth 100000 in
set_option maxHeartbeats 1600000 in
theorem block_last (fb rb g p f a b c d : Nat) (B sd T : List Nat) (most : Int) (sv : Value) (lt ds : Option Addr) (w : World) (h : InfIs w fb rb g B p most sv sd lt ds) (hL : Last B p f a b c d T) (hm : (sd.length : Int) + (T.length : Int) ≤ most) (hm2 : most ≤ 9223372036854775807) (hsd : sd.length ≤ 137438953472) :
    Calls Tryd.prog 38 #[.pointer (some ⟨fb, 0, none⟩)] w fun e w' => e = .returned (.tuple #[.agg #[.int .i64 0, .bool true, .int .i64 (T.length : Int)], .int .i64 0]) ∧ ∃ sv', InfIs w' fb rb g B (8 * (f + 4 + (a + 256 * b))) most sv' (sd ++ T) lt ds ∧ Fr (iS w fb rb) w w' := by
  have HLL : Hid (Last B p f a b c d T) := hL
  have hTl := hL.len
  obtain ⟨q, hq⟩ : ∃ q, sd.length = q := ⟨_, rfl⟩
  obtain ⟨t, ht⟩ : ∃ t, T.length = t := ⟨_, rfl⟩
  have HQ : Hid (sd.length = q ∧ T.length = t ∧ t = a + 256 * b) := ⟨hq, ht, by omega⟩
  have ht2 : t ≤ 65535 := by
    have := hL.compl
    omega
  rw [hq] at hm hsd
  rw [ht] at hm ⊢
  have hIa : InfIs (w.alloc (.cells #[.int .i64 0, .bool false, .int .i64 0] 33 (0, 0))) fb rb g B p most sv sd lt ds := h.keep ((Fr.refl noB w).alloc _) id id id (fun _ _ _ _ h => h)
  have HB := ibits_good fb rb g p 3 B sd most sv lt ds _ hIa hL.lt (by have := hL.short; omega) (by decide) hL.head
  rw [hL.num] at HB
  have HI : Hid (InfIs w fb rb g B p most sv sd lt ds) := h
  clear h hIa hL hq ht hTl
  go_enter Tryd.func38, Tryd.ntmps38
  go_wp2_with fail
  refine HB.mono ?_
  rintro e w1 ⟨rfl, hI1, hF1⟩
  obtain ⟨so, sc, hsv, -⟩ := own_slice hI1.own
  rw [HQ.out.1] at hsv
  subst hsv
  have c2 := cellOf (o := 2) hI1.at_ rfl
  have HSt := stored_good fb rb g (p + 3) f a b c d B sd T most (.slice so q sc) lt ds w1 hI1 HLL.out.lt (by have := HLL.out.head; omega) HLL.out.short HLL.out.place HLL.out.four HLL.out.compl HLL.out.text HLL.out.there (by have := HQ.out; omega) hm2 (by have := HQ.out; omega)
  clear HB
  go_wp2_with fail
  refine HSt.mono ?_
  rintro e w2 ⟨rfl, sv2, hI2, hF2⟩
  obtain ⟨so2, sc2, hsv2, -⟩ := own_slice hI2.own
  rw [List.length_append, HQ.out.1, HQ.out.2.1] at hsv2
  subst hsv2
  have d2 := cellOf (o := 2) hI2.at_ rfl
  have e0 : Fr (iS w fb rb) w (w.alloc (.cells #[.int .i64 0, .bool false, .int .i64 0] 33 (0, 0))) := (Fr.refl _ w).alloc _
  have hA : Fr (iS w fb rb) w w2 := itrans (itrans e0 hF1.toI) hF2
  have hfw : fb < w.heap.size := lt_of_block HI.out.at_
  have hrl : rb < fb := HI.out.rlt
  have ho1 : w1.heap[w.heap.size]? = some (.cells #[.int .i64 0, .bool false, .int .i64 0] 33 (0, 0)) := hF1.obj (heap_alloc_new w _) (fun e => by have e' : w.heap.size = rb := e; omega)
  have ho2 : w2.heap[w.heap.size]? = some (.cells #[.int .i64 0, .bool false, .int .i64 0] 33 (0, 0)) := hF2.obj ho1 (fun e => by
    rcases e with e | e | ⟨_, cs, fr, e⟩
    · omega
    · omega
    · rw [ho1] at e; simp at e)
  have HI2 : Hid _ := hI2
  have hx0 := cellOf (o := 0) ho2 rfl
  have hx1 := cellOf (o := 1) ho2 rfl
  have hx2 := cellOf (o := 2) ho2 rfl
  have hy0 := freeOf (o := 0) ho2
  have hy1 := freeOf (o := 1) ho2
  have hy2 := freeOf (o := 2) ho2
  have hand : bits .and .i64 1 1 = 1 := by kernel_rfl
  have hsub : (q : Int) + (t : Int) - (q : Int) = (t : Int) := by omega
  clear hI2 HSt e0
  go_wp2_with fail
  have e1 : ∀ (u v x : Value), Fr (iS w fb rb) w (((w2.setCell ⟨w.heap.size, 0, none⟩ u).setCell ⟨w.heap.size, 1, none⟩ v).setCell ⟨w.heap.size, 2, none⟩ x) := fun u v x => ((hA.setCell _ (Or.inr (Nat.le_refl _)) _).setCell _ (Or.inr (Nat.le_refl _)) _).setCell _ (Or.inr (Nat.le_refl _)) _
  have e2 : ∀ (u v x : Value), Fr (oneB w.heap.size) w2 (((w2.setCell ⟨w.heap.size, 0, none⟩ u).setCell ⟨w.heap.size, 1, none⟩ v).setCell ⟨w.heap.size, 2, none⟩ x) := fun u v x => (((Fr.refl _ w2).setOne _ _).setOne _ _).setOne _ _
  refine bodyPost_ret (v := .tuple #[.agg #[.int .i64 0, .bool true, .int .i64 (t : Int)], .int .i64 0]) ?_ rfl ⟨rfl, .slice so2 (q + t) sc2, ?_, e1 _ _ _⟩
  · simp [results, Tryd.results38, go_sem, hx0, hx1, hx2]
  · refine HI2.out.keep (e2 _ _ _) (fun e => ?_) (fun e => ?_) (fun e => ?_) (fun k cur _ hk e => ?_)
    · have e' : fb = w.heap.size := e; omega
    · have e' : rb = w.heap.size := e; omega
    · have e' : g = w.heap.size := e; have := HI.out.glt; omega
    · have e' : k = w.heap.size := e
      subst e'
      rw [ho2] at hk
      simp at hk

/-- What the iterator's blocks$1 tells here: one block, the final one. -/
def blkEnc (t : Nat) : Unit → Array Value := fun _ => #[.agg #[.int .i64 0, .bool true, .int .i64 (t : Int)], .int .i64 0]

set_option maxRecDepth 100000 in
set_option maxHeartbeats 1600000 in
theorem blocks_last (cb fb rb g p f a b c d l : Nat) (B sd T : List Nat) (most : Int) (sv : Value) (lt ds : Option Addr) (C : Nat → Prop) (w : World) (h : InfIs w fb rb g B p most sv sd lt ds) (hcb : w.heap[cb]? = some (.cells #[.pointer (some ⟨fb, 0, none⟩)] 42 (0, 0))) (hL : Last B p f a b c d T) (hm : (sd.length : Int) + (T.length : Int) ≤ most) (hm2 : most ≤ 9223372036854775807) (hsd : sd.length ≤ 137438953472)
    (hC : ∀ k, C k → k < w.heap.size ∧ ¬ iS w fb rb k ∧ k ≠ fb ∧ k ≠ g ∧ k ≠ cb) :
    Tells Tryd.prog 37 #[.pointer (some ⟨cb, 0, none⟩)] (blkEnc T.length) C (fun _ _ _ => True)
      (fun xs W => xs = [()] ∧ (∃ sv', InfIs W fb rb g B (8 * (f + 4 + (a + 256 * b))) most sv' (sd ++ T) lt ds) ∧ Fr (fun k => iS w fb rb k ∨ C k) w W)
      (fun _ _ => True) l w := by
  intro J Jx hJ hJx hYd h0
  have HB := block_last fb rb g p f a b c d B sd T most sv lt ds w h hL hm hm2 hsd
  have c0 := cellOf (o := 0) hcb rfl
  have hfw : fb < w.heap.size := lt_of_block h.at_
  have hrl := h.rlt
  have hgl := h.glt
  obtain ⟨t, ht⟩ : ∃ t, T.length = t := ⟨_, rfl⟩
  rw [ht] at HB hYd hm
  have HYd : Hid _ := hYd
  have HJ : Hid _ := hJ
  have HC : Hid _ := hC
  have H0 : Hid (J [] w) := h0
  clear hYd hJ hC h0 hL h ht
  refine (callsIn_wide (n := 1)).1 ?_
  refine callsIn_of_wp Tryd.func37 rfl trivial ?_ rfl
  simp only [Tryd.ntmps37, List.size_toArray, List.length_cons, List.length_nil, Nat.reduceAdd, Nat.reduceSub, Array.replicate_succ, Array.replicate_zero, List.push_toArray, List.append_toArray, List.nil_append, List.cons_append]
  gi_wp2
  gi_loopw [5] (fun _ wr => wr = w) (fun _ _ => 0)
  case atStart => rfl
  case round =>
    have hrel' := hrel.symm
    subst hrel'
    gi_wp2_with (refine ⟨trivial, ?_⟩; gi_at_call 38; refine (callsIn_wide.2 HB).mono ?_; rintro e w1 ⟨rfl, sv1, hI1, hF1⟩)
    have hF2 : Fr (iS w fb rb) w (w1.alloc (.cells #[.int .i64 0, .bool true, .int .i64 (t : Int)] 33 (0, 0))) := hF1.alloc _
    have hJ1 : J [] (w1.alloc (.cells #[.int .i64 0, .bool true, .int .i64 (t : Int)] 33 (0, 0))) := HJ.out [] w _ H0.out (fun k hk => hF2.block k (HC.out k hk).1 (HC.out k hk).2.1)
    obtain ⟨fn, tmps, assign, body, hy, hR⟩ := HYd.out [] () (w1.alloc (.cells #[.int .i64 0, .bool true, .int .i64 (t : Int)] 33 (0, 0))) trivial hJ1
    dsimp only [blkEnc] at hy

    have HI2 : Hid (InfIs (w1.alloc (.cells #[.int .i64 0, .bool true, .int .i64 (t : Int)] 33 (0, 0))) fb rb g B (8 * (f + 4 + (a + 256 * b))) most sv1 (sd ++ T) lt ds) := hI1.keep ((Fr.refl noB w1).alloc _) id id id (fun _ _ _ _ h => h)
    have hsz := hF1.size
    have HFin : Hid (∀ W', Fr C (w1.alloc (.cells #[.int .i64 0, .bool true, .int .i64 (t : Int)] 33 (0, 0))) W' → (∃ sv', InfIs W' fb rb g B (8 * (f + 4 + (a + 256 * b))) most sv' (sd ++ T) lt ds) ∧ W'.cell? ⟨w1.heap.size, 1, none⟩ = some (.bool true)) := fun W' hW => by
      refine ⟨⟨sv1, HI2.out.keep hW (fun e => (HC.out _ e).2.2.1 rfl) (fun e => (HC.out _ e).2.1 (Or.inl rfl)) (fun e => (HC.out _ e).2.2.2.1 rfl) (fun k cur hk hh e => ?_)⟩, ?_⟩
      · have h1 := (HC.out _ e).1
        have h2 := hF2.block k h1 (HC.out _ e).2.1
        rw [h2] at hh
        exact (HC.out _ e).2.1 (Or.inr (Or.inr ⟨hk, cur, _, hh⟩))
      · exact cellOf (hW.obj (heap_alloc_new w1 _) (fun e => by have := (HC.out _ e).1; omega)) rfl
    clear hJ1 hI1 HB
    rw [hy]
    gi_wp2
    refine hR.mono ?_
    rintro e W3 (⟨rfl, hJ3, hk3⟩ | ⟨rfl, hJx3, hk3⟩)
    · obtain ⟨hE, hc3⟩ := HFin.out W3 hk3
      gi_wp2
      refine bodyPost_ret (results_none rfl _ _ _) rfl ?_
      exact ⟨⟨_, rfl⟩, Or.inl ⟨[()], ⟨rfl, hE, (hF2.mono fun k _ hk => Or.inl hk).then hk3 (fun k hk => Or.inl (Or.inr hk))⟩, hJ3⟩⟩
    · gi_wp2
      refine bodyPost_ret (results_none rfl _ _ _) rfl ?_
      exact ⟨⟨_, rfl⟩, Or.inr ⟨[()], trivial, hJx3⟩⟩
#print axioms blocks_last
end Go.Proofs.YtcefochgpijfbaaDoor
