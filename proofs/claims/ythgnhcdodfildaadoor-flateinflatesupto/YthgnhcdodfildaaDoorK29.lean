/- The blocks, one by one: what the iterator tells. -/
import Derived.Test.YthgnhcdodfildaaDoorK27
import Derived.Test.YthgnhcdodfildaaDoorK28
namespace Go.Proofs.YthgnhcdodfildaaDoor
open Go.RowKit Go.Shelf

/-- A block and how much was said ahead of it. -/
abbrev Blk := ((Nat × Nat × List Nat) × Nat × Bool) × Nat
/-- A block, as it is yielded. -/
def encB (x : Blk) : Array Value := #[blkV x.1 x.2, .int .i64 ((x.1.1.1 : Nat) : Int)]
/-- The blocks from p on, up to the final one or one in which something is wrong. -/
def tellA (B : List Nat) (most : Int) : Nat → Nat → List Nat → List Blk
  | 0, _, _ => []
  | f + 1, p, sd => (blkA B most p sd, sd.length) :: (if (blkA B most p sd).1.1 ≠ 0 ∨ (blkA B most p sd).2.2 = true then [] else tellA B most f (blkA B most p sd).1.2.1 (blkA B most p sd).1.2.2)
/-- Where that ends: the error, the place behind, what was said. -/
def endA (B : List Nat) (most : Int) : Nat → Nat → List Nat → Nat × Nat × List Nat
  | 0, p, sd => (33, p, sd)
  | f + 1, p, sd => if (blkA B most p sd).1.1 ≠ 0 ∨ (blkA B most p sd).2.2 = true then (blkA B most p sd).1 else endA B most f (blkA B most p sd).1.2.1 (blkA B most p sd).1.2.2
theorem tellA_err (B : List Nat) (most : Int) : ∀ (f p : Nat) (sd : List Nat) (pre : List Blk) (x : Blk) (rest : List Blk), tellA B most f p sd = pre ++ x :: rest → x.1.1.1 ≠ 0 → x.1.1.1 = (endA B most f p sd).1 := by
  intro f
  induction f with
  | zero => intro p sd pre x rest h _; simp [tellA] at h
  | succ f ih =>
    intro p sd pre x rest h hx
    unfold tellA at h
    unfold endA
    by_cases c : (blkA B most p sd).1.1 ≠ 0 ∨ (blkA B most p sd).2.2 = true
    · rw [if_pos c] at h ⊢
      cases pre with
      | nil => simp only [List.nil_append, List.cons.injEq] at h; rw [← h.1]
      | cons y ys => simp at h
    · rw [if_neg c] at h ⊢
      cases pre with
      | nil =>
        simp only [List.nil_append, List.cons.injEq] at h
        rw [← h.1] at hx
        exact absurd (Or.inl hx) c
      | cons y ys =>
        simp only [List.cons_append, List.cons.injEq] at h
        exact ih _ _ ys x rest h.2 hx
theorem endA_err (B : List Nat) (most : Int) : ∀ (f p : Nat) (sd : List Nat), 8 * B.length < p + f → sd.length ≤ 258 * p → (sd.length : Int) ≤ most → (∀ x ∈ tellA B most f p sd, x.1.1.1 = 0) → p ≤ 8 * B.length → (endA B most f p sd).1 = 0 ∧ p < (endA B most f p sd).2.1 ∧ (endA B most f p sd).2.1 ≤ 8 * B.length ∧ (endA B most f p sd).2.2.length ≤ 258 * (endA B most f p sd).2.1 ∧ ((endA B most f p sd).2.2.length : Int) ≤ most := by
  intro f
  induction f with
  | zero => intro p sd h1 _ _ _ h2; omega
  | succ f ih =>
    intro p sd h1 h2 h3 h4 _
    unfold tellA at h4
    unfold endA
    have h0 : (blkA B most p sd).1.1 = 0 := h4 _ List.mem_cons_self
    have hk := blkA_ok B most p sd h2 h3 h0
    by_cases c : (blkA B most p sd).1.1 ≠ 0 ∨ (blkA B most p sd).2.2 = true
    · rw [if_pos c]; exact ⟨h0, hk⟩
    · rw [if_neg c] at h4 ⊢
      obtain ⟨r0, r1, r2, r3⟩ := ih (blkA B most p sd).1.2.1 (blkA B most p sd).1.2.2 (by omega) hk.2.2.1 hk.2.2.2 (fun x hx => h4 x (List.mem_cons_of_mem _ hx)) hk.2.1
      exact ⟨r0, by omega, r2, r3⟩

/-- What the iterator's own steps may change. -/
def tS (fb rb : Nat) (W : World) : Nat → Prop := fun k => iS W fb rb k ∧ ∃ cs t fr, W.heap[k]? = some (.cells cs t fr)
/-- What a round may change: what lies below the inflater, and rows of blocks above; not the block that was laid last. -/
def rS (fb rb g : Nat) (W : World) : Nat → Prop := fun k => ((k < fb ∧ k ≠ rb ∧ k ≠ g ∧ k ≠ toldB) ∨ (fb < k ∧ ∀ cs t fr, W.heap[k]? = some (.cells cs t fr) → t = 33)) ∧ ¬ (k + 1 = W.heap.size ∧ ∃ cs t fr, W.heap[k]? = some (.cells cs t fr))
theorem toT {fb rb : Nat} {W W' : World} {cs ds : Array Value} {t u : TypeId} {fr fs : Nat × Nat} (h1 : W.heap[fb]? = some (.cells cs t fr)) (h2 : W.heap[rb]? = some (.cells ds u fs)) (h : Fr (iS W fb rb) W W') : Fr (tS fb rb W) W W' := h.mono fun k _ hk => ⟨hk, by
  rcases hk with rfl | rfl | ⟨_, cs, fr, e⟩
  · exact ⟨_, _, _, h2⟩
  · exact ⟨_, _, _, h1⟩
  · exact ⟨_, _, _, e⟩⟩
theorem rS_hi {fb rb g k : Nat} {W : World} {cs : Array Value} {t : TypeId} {fr : Nat × Nat} (h : fb < k) (ho : W.heap[k]? = some (.cells cs t fr)) (ht : t ≠ 33) : ¬ rS fb rb g W k := by
  rintro ⟨(⟨h1, _⟩ | ⟨_, h2⟩), _⟩
  · omega
  · exact ht (h2 _ _ _ ho)
theorem InfIs.keepR {W W' : World} {fb rb g p : Nat} {B sd : List Nat} {most : Int} {sv : Value} {lt ds : Option Addr} (h : InfIs W fb rb g B p most sv sd lt ds) (hF : Fr (rS fb rb g W) W W') : InfIs W' fb rb g B p most sv sd lt ds := by
  have h1 := h.rlt
  have h2 := h.glt
  refine h.keep hF ?_ ?_ ?_ ?_
  · rintro ⟨(⟨h1, _⟩ | ⟨h2, _⟩), _⟩ <;> omega
  · rintro ⟨(⟨_, h3, _⟩ | ⟨h3, _⟩), _⟩ <;> omega
  · rintro ⟨(⟨_, _, h3, _⟩ | ⟨h3, _⟩), _⟩ <;> omega
  · intro k cur hk ho
    exact rS_hi hk ho (by decide)
theorem SdIs.keepR {W W' : World} {fb rb g : Nat} {sd : List Nat} {most : Int} {sv : Value} {lt ds : Option Addr} (h : SdIs W fb rb most sv sd lt ds) (hF : Fr (rS fb rb g W) W W') : SdIs W' fb rb most sv sd lt ds := by
  refine h.keep hF ?_ ?_
  · rintro ⟨(⟨h1, _⟩ | ⟨h2, _⟩), _⟩ <;> omega
  · intro k cur hk ho
    exact rS_hi hk ho (by decide)
theorem DecIs.keepR {W W' : World} {fb rb g db sb : Nat} {M : List Nat} (h : DecIs W db sb M) (hF : Fr (rS fb rb g W) W W') (h1 : fb < db) (h2 : fb < sb) : DecIs W' db sb M := by
  refine h.keep hF ?_ ?_
  · exact rS_hi h1 h.dec (by decide)
  · exact rS_hi h2 h.row (by decide)
theorem Alw.keepR {W W' : World} {fb rb g : Nat} {lt ds : Option Addr} (h : Alw W fb rb lt ds) (hF : Fr (rS fb rb g W) W W') : Alw W' fb rb lt ds := by
  rcases h with h | ⟨d1, s1, d2, s2, h1, h2, h3, h4, h5, h6, h7⟩
  · exact Or.inl h
  · exact Or.inr ⟨d1, s1, d2, s2, h1, h2, h3.keepR hF h7.1 h7.2.1, h4.keepR hF h7.2.2.1 h7.2.2.2, h5, h6, h7⟩
theorem Told.keepR {W W' : World} {fb rb g : Nat} (h : Told W) (hF : Fr (rS fb rb g W) W W') : Told W' := h.keep hF (by
  rintro ⟨(⟨_, _, _, h3⟩ | ⟨h3, _⟩), _⟩
  · exact h3 rfl
  · exact absurd h3 (Nat.not_lt_zero _))
theorem Told.keepI {w w' : World} {fb rb : Nat} (h : Told w) (hF : Fr (iS w fb rb) w w') (h1 : rb ≠ toldB) (h2 : fb ≠ toldB) : Told w' := h.keep hF (by
  rintro (e | e | ⟨e, _⟩)
  · exact h1 e.symm
  · exact h2 e.symm
  · exact absurd e (Nat.not_lt_zero _))
/-- The reader's place. -/
def posOf (W : World) (rb : Nat) : Nat := match W.cell? ⟨rb, 2, none⟩ with
  | some (.int _ p) => p.toNat
  | _ => 0
theorem InfIs.pos {W : World} {fb rb g p : Nat} {B sd : List Nat} {most : Int} {sv : Value} {lt ds : Option Addr} (h : InfIs W fb rb g B p most sv sd lt ds) : posOf W rb = p := by
  have : W.cell? ⟨rb, 2, none⟩ = some (.int .i64 (p : Int)) := cellOf h.rd rfl
  unfold posOf
  rw [this]
  simp
#print axioms endA_err
end Go.Proofs.YthgnhcdodfildaaDoor
/- The iterator over the blocks keeps its law. -/
namespace Go.Proofs.YthgnhcdodfildaaDoor
open Go.RowKit Go.Shelf

set_option maxRecDepth 100000 in
set_option maxHeartbeats 3200000 in
theorem blocks_tells (cb fb rb g l F : Nat) (B : List Nat) (most : Int) (sv0 : Value) (w : World) (h : InfIs w fb rb g B 0 most sv0 [] none none) (hTo : Told w) (hrT : rb ≠ toldB) (hfT : fb ≠ toldB) (hcb : w.heap[cb]? = some (.cells #[.pointer (some ⟨fb, 0, none⟩)] 40 (0, 0))) (hfc : fb < cb) (hB : ∀ x ∈ B, x < 256) (hl : B.length ≤ 1073741824) (hm : 0 ≤ most) (hm2 : most ≤ 9223372036854775807) (hF : 8 * B.length < F) :
    TellsS Tryd.prog 23 #[.pointer (some ⟨cb, 0, none⟩)] encB (fun W W' => Fr (tS fb rb W) W W') (fun W W' => Fr (rS fb rb g W) W W')
      (fun pre x W => (∃ rest, tellA B most F 0 [] = pre ++ x :: rest) ∧ ∃ sv lt ds, SdIs W fb rb most sv x.1.1.2.2 lt ds)
      (fun xs W => xs = tellA B most F 0 [] ∧ ∃ sv lt ds, SdIs W fb rb most sv (endA B most F 0 []).2.2 lt ds ∧ ((endA B most F 0 []).1 = 0 → InfIs W fb rb g B (endA B most F 0 []).2.1 most sv (endA B most F 0 []).2.2 lt ds))
      (fun pre _ => pre ≠ [] ∧ ∃ rest, tellA B most F 0 [] = pre ++ rest) l w := by
  intro J Jx hJ hJx hYd h0
  obtain ⟨TA, hTA⟩ : ∃ TA, tellA B most F 0 [] = TA := ⟨_, rfl⟩
  obtain ⟨EA, hEA⟩ : ∃ EA, endA B most F 0 [] = EA := ⟨_, rfl⟩
  rw [hTA] at hYd ⊢
  rw [hEA]
  have HTA : Hid (TA = [] ++ tellA B most F 0 []) := hTA.symm
  have HEA : Hid (EA = endA B most F 0 []) := hEA.symm
  have HYd : Hid _ := hYd
  have HJ : Hid _ := hJ
  have H0 : Hid (J [] w) := h0
  have HI0 : Hid (InfIs w fb rb g B 0 most sv0 [] none none) := h
  have HTo : Hid (Told w) := hTo
  have HCB : Hid (w.heap[cb]? = some (.cells #[.pointer (some ⟨fb, 0, none⟩)] 40 (0, 0))) := hcb
  clear hYd hJ h0 h hTo hTA hEA hcb
  refine (callsIn_wide (n := 1)).1 ?_
  refine callsIn_of_wp Tryd.func23 rfl trivial ?_ rfl
  simp only [Tryd.ntmps23, List.size_toArray, List.length_cons, List.length_nil, Nat.reduceAdd, Nat.reduceSub, Array.replicate_succ, Array.replicate_zero, List.push_toArray, List.append_toArray, List.nil_append, List.cons_append]
  gi_wp2
  gi_loopw [5] (fun _ wr => ∃ (f p : Nat) (sd : List Nat) (sv : Value) (lt ds : Option Addr) (pre : List Blk), InfIs wr fb rb g B p most sv sd lt ds ∧ Alw wr fb rb lt ds ∧ Told wr ∧ wr.heap[cb]? = some (.cells #[.pointer (some ⟨fb, 0, none⟩)] 40 (0, 0)) ∧ sd.length ≤ 258 * p ∧ (sd.length : Int) ≤ most ∧ p ≤ 8 * B.length ∧ 8 * B.length < p + f ∧ Hid (J pre wr) ∧ Hid (TA = pre ++ tellA B most f p sd) ∧ Hid (EA = endA B most f p sd)) (fun _ wr => 8 * B.length - posOf wr rb)
  case atStart => exact ⟨F, 0, [], sv0, none, none, [], HI0.out, Or.inl rfl, HTo.out, HCB.out, by simp, by simpa using hm, by omega, by omega, H0, HTA, HEA⟩
  case round =>
    obtain ⟨f, p, sd, sv, lt, ds, pre, hI, hA, hTo, hcb, hsd, hsm, hp, hf, HP, HT, HE⟩ := hrel
    obtain ⟨f, rfl⟩ : ∃ f', f = f' + 1 := ⟨f - 1, by omega⟩
    have HB := block_any fb rb g p B sd most sv lt ds wr hI hA hTo hrT hB hl hm hm2 hsd hp
    have hok := blkA_ok B most p sd hsd hsm
    have hT1 := HT.out
    have hE1 := HE.out
    unfold tellA at hT1
    unfold endA at hE1
    obtain ⟨⟨⟨e0, p', sd'⟩, k, fin⟩, hR⟩ : ∃ R, blkA B most p sd = R := ⟨_, rfl⟩
    rw [hR] at HB hok hT1 hE1
    simp only [blkV] at HB hok hT1 hE1
    obtain ⟨q, hq⟩ : ∃ q, sd.length = q := ⟨_, rfl⟩
    rw [hq] at HB hT1
    have c0 := cellOf (o := 0) hcb rfl
    have hpos := hI.pos
    have hat := hI.at_
    have hrd := hI.rd
    have hTo' := hTo
    have HI : Hid (InfIs wr fb rb g B p most sv sd lt ds) := hI
    have HTo1 : Hid (Told wr) := hTo
    have hszr : cb < wr.heap.size := lt_of_block hcb
    have HCB1 : Hid (wr.heap[cb]? = some (.cells #[.pointer (some ⟨fb, 0, none⟩)] 40 (0, 0))) := hcb
    have HOK : Hid _ := hok
    have HT1 : Hid (TA = pre ++ (((((e0, p', sd'), k, fin), q) : Blk) :: (if e0 ≠ 0 ∨ fin = true then [] else tellA B most f p' sd'))) := hT1
    have HE1 : Hid (EA = if e0 ≠ 0 ∨ fin = true then (e0, p', sd') else endA B most f p' sd') := hE1
    obtain ⟨t, ht⟩ : ∃ t : Int, (sd'.length : Int) - (q : Int) = t := ⟨_, rfl⟩
    rw [ht] at HB
    have HFP : Hid (8 * B.length < p + (f + 1) ∧ p ≤ 8 * B.length) := ⟨hf, hp⟩
    clear hok hT1 hE1 hR HT HE hI hA hTo hTo' hcb hsd hsm hq hf hp
    gi_wp2_with (refine ⟨trivial, ?_⟩; gi_at_call 24; refine (callsIn_wide.2 HB).mono ?_; rintro e w1 ⟨rfl, hK1⟩)
    obtain ⟨⟨sv1, lt1, ds1, hS1, hA1, hI1⟩, hF1⟩ := hK1
    obtain ⟨W1, hW1⟩ : ∃ W1, w1.alloc (.cells #[.int .i64 (k : Int), .bool fin, .int .i64 t] 33 (0, 0)) = W1 := ⟨_, rfl⟩
    have hn1 : W1.heap[w1.heap.size]? = some (.cells #[.int .i64 (k : Int), .bool fin, .int .i64 t] 33 (0, 0)) := by rw [← hW1]; exact heap_alloc_new _ _
    have hs1 : W1.heap.size = w1.heap.size + 1 := by rw [← hW1]; simp
    have hFa : Fr noB w1 W1 := by rw [← hW1]; exact (Fr.refl _ _).alloc _
    have hFi : Fr (iS wr fb rb) wr W1 := by rw [← hW1]; exact hF1.alloc _
    have hFt := toT hat hrd hFi
    have hszw := hF1.size
    obtain ⟨fn, tmps, assign, body, hy, hRd⟩ := HYd.out pre (((e0, p', sd'), k, fin), q) W1 ⟨⟨_, HT1.out⟩, sv1, lt1, ds1, hS1.keep hFa id (fun _ _ _ _ h => h)⟩ ⟨wr, HP.out, hFt, by omega⟩
    dsimp only [encB, blkV] at hy
    rw [ht] at hy
    have HFin : Hid (∀ W', Fr (rS fb rb g W1) W1 W' → W'.cell? ⟨w1.heap.size, 1, none⟩ = some (.bool fin) ∧ SdIs W' fb rb most sv1 sd' lt1 ds1 ∧ Alw W' fb rb lt1 ds1 ∧ Told W' ∧ W'.heap[cb]? = some (.cells #[.pointer (some ⟨fb, 0, none⟩)] 40 (0, 0)) ∧ (e0 = 0 → InfIs W' fb rb g B p' most sv1 sd' lt1 ds1)) := fun W' hW => by
      have a1 : ¬ rS fb rb g W1 w1.heap.size := fun h => h.2 ⟨hs1.symm, _, _, _, hn1⟩
      have a2 : W1.heap[cb]? = some (.cells #[.pointer (some ⟨fb, 0, none⟩)] 40 (0, 0)) := hFi.obj HCB1.out (by
        rintro (e | e | ⟨_, cs, fr, e⟩)
        · have := HI.out.rlt; omega
        · omega
        · rw [HCB1.out] at e; simp at e)
      exact ⟨cellOf (hW.obj hn1 a1) rfl, (hS1.keep hFa id (fun _ _ _ _ h => h)).keepR hW, (hA1.keepI (hFa.weak : Fr (iS w1 fb rb) w1 W1)).keepR hW, (HTo1.out.keepI hFi hrT hfT).keepR hW, hW.obj a2 (rS_hi hfc a2 (by decide)), fun e => ((hI1 e).keep hFa id id id (fun _ _ _ _ h => h)).keepR hW⟩
    rw [hW1, hy]
    clear hS1 hA1 hI1 HB hFt hFi hFa hF1 hW1
    gi_wp2
    refine hRd.mono ?_
    rintro e W3 (⟨rfl, hJ3, hk3⟩ | ⟨rfl, hJx3, hk3⟩)
    · obtain ⟨b1, b2, b3, b4, b5, b6⟩ := HFin.out W3 hk3
      have HJ3 : Hid (J (pre ++ [(((e0, p', sd'), k, fin), q)]) W3) := hJ3
      have HB2 : Hid (SdIs W3 fb rb most sv1 sd' lt1 ds1 ∧ Alw W3 fb rb lt1 ds1 ∧ Told W3 ∧ W3.heap[cb]? = some (.cells #[.pointer (some ⟨fb, 0, none⟩)] 40 (0, 0)) ∧ (e0 = 0 → InfIs W3 fb rb g B p' most sv1 sd' lt1 ds1)) := ⟨b2, b3, b4, b5, b6⟩
      clear b2 b3 b4 b5 b6 HFin hRd hy hk3 hJ3
      by_cases he : e0 = 0
      · subst he
        cases fin
        · have hok := HOK.out rfl
          gi_wp2
          refine ⟨⟨f, p', sd', sv1, lt1, ds1, pre ++ [(((0, p', sd'), k, false), q)], HB2.out.2.2.2.2 trivial, HB2.out.2.1, HB2.out.2.2.1, HB2.out.2.2.2.1, hok.2.2.1, hok.2.2.2, hok.2.1, by have := HFP.out; omega, HJ3, ?_, ?_⟩, ?_⟩
          · show _ = _; rw [HT1.out]; simp
          · show _ = _; rw [HE1.out]; simp
          · rw [hpos, (HB2.out.2.2.2.2 trivial).pos]
            have := HFP.out
            omega
        · gi_wp2
          refine bodyPost_ret (results_none rfl _ _ _) rfl ?_
          refine ⟨⟨_, rfl⟩, Or.inl ⟨_, ⟨?_, sv1, lt1, ds1, ?_⟩, HJ3.out⟩⟩
          · rw [HT1.out]; simp
          · rw [HE1.out, if_pos (Or.inr trivial)]
            exact ⟨HB2.out.1, fun _ => HB2.out.2.2.2.2 trivial⟩
      · have e1 : ((e0 : Int) == 0) = false := by simp; omega
        have e2 : ((e0 : Int) != 0) = true := by simp; omega
        gi_wp2
        refine bodyPost_ret (results_none rfl _ _ _) rfl ?_
        refine ⟨⟨_, rfl⟩, Or.inl ⟨_, ⟨?_, sv1, lt1, ds1, ?_⟩, HJ3.out⟩⟩
        · rw [HT1.out, if_pos (Or.inl he)]
        · rw [HE1.out, if_pos (Or.inl he)]
          exact ⟨HB2.out.1, HB2.out.2.2.2.2⟩
    · clear HFin hRd hy
      gi_wp2
      refine bodyPost_ret (results_none rfl _ _ _) rfl ?_
      exact ⟨⟨_, rfl⟩, Or.inr ⟨_, ⟨by simp, _, by rw [HT1.out, List.append_assoc]; rfl⟩, hJx3⟩⟩
#print axioms blocks_tells
end Go.Proofs.YthgnhcdodfildaaDoor
