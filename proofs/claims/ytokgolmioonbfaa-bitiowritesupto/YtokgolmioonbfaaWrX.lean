/- The contract of bitio.Writer's put, with the blocks that it turns told exactly: the writer's own, and the row that its slice leads to. -/
import Derived.Test.YtokgolmioonbfaaWr2
import Derived.Maps.AppendAt
namespace Go.Proofs.Ytokgolmioonbfaa
open Go.RowKit

/-- The writer's own block, and its row. -/
def pS (wb : Nat) (sv : Value) : Nat → Prop := fun k => k = wb ∨ sv.ownBlock = some k

/-- One step of a writer: nothing else turns; the row stays, or is new. -/
structure WStep (wb : Nat) (w : World) (sv : Value) (w' : World) (sv' : Value) : Prop where
  fr : Fr (pS wb sv) w w'
  at' : sv'.ownBlock = sv.ownBlock ∨ ∀ k, sv'.ownBlock = some k → w.heap.size ≤ k

theorem WStep.refl (wb : Nat) (w : World) (sv : Value) : WStep wb w sv w sv := ⟨Fr.refl _ _, Or.inl rfl⟩
theorem WStep.trans {wb : Nat} {a b c : World} {s0 s1 s2 : Value} (h : WStep wb a s0 b s1) (k : WStep wb b s1 c s2) : WStep wb a s0 c s2 := by
  refine ⟨⟨k.fr.os.trans h.fr.os, k.fr.tape.trans h.fr.tape, k.fr.output.trans h.fr.output, Nat.le_trans h.fr.size k.fr.size, fun i hi hn => ?_⟩, ?_⟩
  · refine (k.fr.block i (Nat.lt_of_lt_of_le hi h.fr.size) (fun hs => ?_)).trans (h.fr.block i hi hn)
    rcases hs with hs | hs
    · exact hn (Or.inl hs)
    · rcases h.at' with e | e
      · rw [e] at hs; exact hn (Or.inr hs)
      · have := e i hs; omega
  · rcases k.at' with e | e
    · rcases h.at' with e' | e'
      · exact Or.inl (e.trans e')
      · right; rw [e]; exact e'
    · right
      intro j hj
      have := e j hj
      have := h.fr.size
      omega

/-- 'append(s, x...)', s nil or the call's own, x any slice of bytes: nil, cut or whole. -/
theorem wpList_append_srcx {P : Program} {w : World} {ops : Array Oper} {rest : List Oper} {o : Oper} {a : Act} {Q : Exit → Act → World → Prop} (hgd : o.guard = none) (s x : Operand) (t : TypeId)
    (ho : o.op = .call { callee := .builtin .append, args := #[s, x], argTypes := #[t, t] })
    (base : Nat) (e : TypeId) (i : TypeInfo) (z : Value) (bytes : Nat) (ht : P.underlying t = some (.slice e)) (hi : P.info? e = some i) (hz : i.zero = some z)
    (hsize : i.size = 1) (hby : i.bytes = bytes) (hzs : z.cells.size = 1)
    (v : Value) (n : Nat) (xs : List Value) (hs : a.eval s = v) (hown : w.ownsRow base e 1 v n xs)
    (sp : Option Addr) (m c : Nat) (hx : a.eval x = .slice sp m c) (hnil : sp = none → c = 0) (hmc : m ≤ c) (news : List Value) (hl : news.length = m) (hsrc : Src w sp news) (h1 : ∀ u ∈ news, u.oneCell' = true)
    (h63 : n + m ≤ maxLen) (hbytes : (n + m) * bytes ≤ 140737488355328) (hbase : base ≤ w.heap.size)
    (h : ∀ v' w', w'.ownsRow base e 1 v' (n + m) (xs ++ news) → w.grownBy w' v.ownBlock → (v'.ownBlock = v.ownBlock ∨ v'.ownBlock = some w.heap.size) → wpList P ops Q rest (a.put o.dst v') w') : wpList P ops Q (o :: rest) a w := by
  cases sp with
  | none =>
    have hc := hnil rfl
    subst hc
    obtain rfl : m = 0 := by omega
    obtain rfl : news = [] := List.eq_nil_of_length_eq_zero hl
    refine wpList_append_own_none hgd s x t ho base e i 1 ht hi v n xs hs hown hx (h v w ?_ (World.grownBy.refl _ _) (Or.inl rfl))
    simpa using hown
  | some ad =>
    refine wpList_append_own_at w hgd s x t ho base e i z 1 bytes ht hi hz hsize hby hzs (by decide) v n xs hs hown ad m c news hx (by omega) ?_ h1 h63 hbytes hbase (fun v' w' h2 h3 _ h5 => h v' w' h2 h3 h5)
    intro j u hj
    have hj' : j < news.length := by
      rcases Nat.lt_or_ge j news.length with h' | h'
      · exact h'
      · rw [List.getElem?_eq_none h'] at hj; cases hj
    obtain ⟨ad', he, hc⟩ := hsrc.get (by omega)
    cases he
    exact hc j u hj

theorem put_finx {S : Nat → Prop} {w W2 : World} {wb g n cap nb i y : Nat} {cur : Array Value} {B : List Nat} (hW2 : WrAt W2 wb (.slice (some ⟨g, 0, none⟩) n cap) nb) (hg : wb + 1 ≤ g) (hrow : W2.heap[g]? = some (.cells cur 5 (0, 0)))
    (hn : n ≤ cap) (hm : cap ≤ maxLen) (hc : cur.size = cap) (ht : cur.toList.take n = byteVals B) (hf : Fr S w W2) (hSw : S wb) (hSg : S g ∨ w.heap.size ≤ g) :
    WrAt ((W2.setCell ⟨g, i, none⟩ (.int .u8 (y : Int))).setCell ⟨wb, 2, none⟩ (.int .i64 ((nb + 1 : Nat) : Int))) wb (.slice (some ⟨g, 0, none⟩) n cap) (nb + 1) ∧
    ((W2.setCell ⟨g, i, none⟩ (.int .u8 (y : Int))).setCell ⟨wb, 2, none⟩ (.int .i64 ((nb + 1 : Nat) : Int))).ownsRow (wb + 1) 5 1 (.slice (some ⟨g, 0, none⟩) n cap) n (byteVals (B.set i y)) ∧
    Fr S w ((W2.setCell ⟨g, i, none⟩ (.int .u8 (y : Int))).setCell ⟨wb, 2, none⟩ (.int .i64 ((nb + 1 : Nat) : Int))) := by
  have hlen : (byteVals B).length = n := by rw [← ht]; simp; omega
  refine ⟨?_, ⟨by simpa using hlen, Or.inr ⟨g, cap, cur.setIfInBounds i (.int .u8 (y : Int)), rfl, hg, ?_, hn, hm, by simpa using hc, ?_⟩⟩, ?_⟩
  · have h1 : (W2.setCell ⟨g, i, none⟩ (.int .u8 (y : Int))).heap[wb]? = some (.cells #[.bool true, .slice (some ⟨g, 0, none⟩) n cap, .int .i64 (nb : Int)] 56 (0, 0)) := by
      rw [Below.heap_setCell _ _ _ _ (show wb ≠ g by omega)]; exact hW2
    have h2 := setOf 2 (.int .i64 ((nb + 1 : Nat) : Int)) h1
    simpa [WrAt] using h2
  · rw [Below.heap_setCell _ _ _ _ (show g ≠ wb by omega)]
    exact setOf i _ hrow
  · have : (cur.setIfInBounds i (.int .u8 (y : Int))).toList.take (n * 1) = (cur.toList.take n).set i (.int .u8 (y : Int)) := by
      simp [List.take_set]
    rw [this, ht, byteVals_set]
  · exact (hf.setCell ⟨g, i, none⟩ hSg _).setCell ⟨wb, 2, none⟩ (Or.inl hSw) _

set_option maxHeartbeats 800000 in
theorem put_stayx (wb nb b g n cap x : Nat) (cur : Array Value) (B : List Nat) (w : World) (hW2 : WrAt w wb (.slice (some ⟨g, 0, none⟩) n cap) nb) (hg : wb + 1 ≤ g) (hrow : w.heap[g]? = some (.cells cur 5 (0, 0)))
    (hn : n ≤ cap) (hm : cap ≤ maxLen) (hc : cur.size = cap) (ht : cur.toList.take n = byteVals B) (hb : b ≤ 1) (h8 : ¬ nb % 8 = 0) (hnb : nb / 8 < n) (hx : cur[nb / 8]? = some (.int .u8 (x : Int))) (hx2 : x < 2 ^ (nb % 8)) (hl : nb ≤ 4611686018427387904) :
    Calls Try.prog 42 #[.pointer (some ⟨wb, 0, none⟩), .int .u32 (b : Int)] w fun e w' => e = .returned (.tuple #[]) ∧ WrAt w' wb (.slice (some ⟨g, 0, none⟩) n cap) (nb + 1) ∧ w'.ownsRow (wb + 1) 5 1 (.slice (some ⟨g, 0, none⟩) n cap) n (byteVals (B.set (nb / 8) (x + b * 2 ^ (nb % 8)))) ∧ Fr (pS wb (.slice (some ⟨g, 0, none⟩) n cap)) w w' := by
  have hz8 : ((nb : Int) % 8 == 0) = false := by simp; omega
  have hgw : ¬ g = wb := by omega
  have d1 := cellOf (o := 1) hW2 rfl
  have d2 := cellOf (o := 2) hW2 rfl
  have f2 := freeOf 2 hW2
  have dx : w.cell? ⟨g, nb / 8, none⟩ = some (.int .u8 (x : Int)) := cellOf hrow hx
  have fx := freeOf (nb / 8) hrow
  have hlt : (nb : Int) / 8 < (n : Int) := by omega
  have hx256 : x < 256 := by
    have : 2 ^ (nb % 8) ≤ 2 ^ 8 := Nat.pow_le_pow_right (by decide) (by omega)
    omega
  have HX := or_u8 x b (nb % 8) hx2 hb (by omega)
  have HX' : Hid _ := HX
  clear HX hx2
  go_enter Try.func42, Try.ntmps42
  go_wp2_with fail
  go_region
  go_wp2
  go_end0
  rw [HX'.out, show ((nb : Int) + 1) = ((nb + 1 : Nat) : Int) from by omega]
  have hfin := put_finx (S := pS wb (.slice (some ⟨g, 0, none⟩) n cap)) (w := w) (i := nb / 8) (y := x + b * 2 ^ (nb % 8)) hW2 hg hrow hn hm hc ht (Fr.refl _ _) (Or.inl rfl) (Or.inl (Or.inr rfl))
  exact ⟨rfl, hfin.1, hfin.2.1, hfin.2.2.drew⟩

set_option maxHeartbeats 800000 in
theorem put_growx (wb nb b : Nat) (sv : Value) (B : List Nat) (w : World) (h : WrAt w wb sv nb) (hown : w.ownsRow (wb + 1) 5 1 sv B.length (byteVals B)) (hb : b ≤ 1) (h8 : nb % 8 = 0) (hnb : B.length = nb / 8) (hl : B.length + 1 ≤ 140737488355328) :
    Calls Try.prog 42 #[.pointer (some ⟨wb, 0, none⟩), .int .u32 (b : Int)] w fun e w' => e = .returned (.tuple #[]) ∧ ∃ sv', WrAt w' wb sv' (nb + 1) ∧ w'.ownsRow (wb + 1) 5 1 sv' (B.length + 1) (byteVals (B ++ [b])) ∧ WStep wb w sv w' sv' := by
  obtain ⟨i0, hi, hz0, hz1, hz2⟩ := info_parts Try.info5'
  have c1 := cellOf (o := 1) h rfl
  have c2 := cellOf (o := 2) h rfl
  have hwb := lt_of_block h
  have hz8 : ((nb : Int) % 8 == 0) = true := by simp; omega
  have hsrc : Src (w.alloc (.cells #[.int .u8 0] 5 (0, 0))) (some ⟨w.heap.size, 0, none⟩) [.int .u8 0] :=
    ⟨fun _ => ⟨_, rfl, fun j v hj => by
      match j, hj with
      | 0, hj => simp at hj; subst hj; simp [Addr.add]⟩⟩
  have hone : ∀ u ∈ [Value.int .u8 0], u.oneCell' = true := by intro u hu; simp at hu; subst hu; rfl
  have hmx : B.length + 1 ≤ maxLen := by unfold maxLen; omega
  obtain ⟨so, sl, sc, hsv⟩ : ∃ so sl sc, sv = .slice so sl sc := by
    obtain ⟨_, h2⟩ := hown
    rcases h2 with ⟨h2, _⟩ | ⟨g, cap, cur, hv, _⟩
    · exact ⟨_, _, _, h2⟩
    · exact ⟨_, _, _, hv⟩
  subst hsv
  have hob' : (Value.slice so sl sc).ownBlock ≠ some wb := by
    intro hk
    obtain ⟨_, h2⟩ := hown
    rcases h2 with ⟨h2, _⟩ | ⟨g, cap, cur, hv, hg, hh, _⟩
    · rw [h2] at hk; simp [Value.ownBlock] at hk
    · rw [hv] at hk
      simp [Value.ownBlock] at hk
      omega
  have HN : Hid (B.length = nb / 8) := hnb
  have hnb2 : nb ≤ 1125899906842631 := by omega
  have hlt : (nb : Int) / 8 < ((B.length : Int) + 1) := by omega
  clear hnb
  go_enter Try.func42, Try.ntmps42
  go_wp2_with (at_builtin; refine wpList_append_srcx rfl (.tmp 14) (.tmp 15) 22 rfl (wb + 1) 5 i0 (.int .u8 0) 1 Try.underlying22 hi hz0 hz1 hz2 rfl _ B.length (byteVals B) rfl (hown.alloc _) _ 1 1 rfl (by simp) (by omega) [.int .u8 0] rfl hsrc hone hmx (by omega) (by simp; omega) ?_)
  intro v' w1 hown1 hg1 hat1
  obtain ⟨g, cap, cur, hv', hg, hrow, hn, hm, hc, ht⟩ := own_row hown1 (by omega)
  rw [hv']
  have hF1 : Fr (pS wb (.slice so sl sc)) w w1 := ((Fr.refl _ w).alloc _).grown hg1 (fun k hk => Or.inl (Or.inr hk))
  have hgat : (Value.slice so sl sc).ownBlock = some g ∨ w.heap.size ≤ g := by
    rw [hv'] at hat1
    rcases hat1 with h' | h'
    · exact Or.inl h'.symm
    · simp [Value.ownBlock] at h'; right; omega
  have hW1 : WrAt w1 wb (.slice so sl sc) nb := (hg1.block wb (by simp; omega) (fun e => hob' e.symm)).trans ((Below.heap_alloc _ _ _ hwb).trans h)
  have hgw : ¬ g = wb := by omega
  have d1 := cellOf (o := 1) hW1 rfl
  have d2 := cellOf (o := 2) hW1 rfl
  have f1 := freeOf 1 hW1
  have f2 := freeOf 2 hW1
  have hx : cur[nb / 8]? = some (.int .u8 ((0 : Nat) : Int)) := by
    have h1 : (cur.toList.take (B.length + 1))[nb / 8]? = some (.int .u8 ((0 : Nat) : Int)) := by
      rw [ht, ← HN.out, List.getElem?_append_right (by simp)]
      simp
    rw [List.getElem?_take_of_lt (by have := HN.out; omega)] at h1
    simpa using h1
  have dx : w1.cell? ⟨g, nb / 8, none⟩ = some (.int .u8 0) := cellOf hrow hx
  have fx := freeOf (nb / 8) hrow
  have HT : Hid (cur.toList.take (B.length + 1) = byteVals B ++ [.int .u8 0]) := ht
  have HR : Hid (w1.heap[g]? = some (.cells cur 5 (0, 0))) := hrow
  have HF : Hid (Fr (pS wb (.slice so sl sc)) w w1) := hF1
  have HG : Hid ((Value.slice so sl sc).ownBlock = some g ∨ w.heap.size ≤ g) := hgat
  have HW : Hid (WrAt w1 wb (.slice so sl sc) nb) := hW1
  clear ht hrow hF1 hx hown1 hg1 hsrc hone c1 c2 hW1 hob' hat1 hgat
  go_wp2_with fail
  go_region
  go_wp2
  go_end0
  have hor : bits .or .u8 0 ((b : Int) % 256) = ((b : Nat) : Int) := by simpa using or_u8 0 b 0 (by decide) hb (by decide)
  rw [hor, show ((nb : Int) + 1) = ((nb + 1 : Nat) : Int) from by omega]
  have hW2 : WrAt (w1.setCell ⟨wb, 1, none⟩ (.slice (some ⟨g, 0, none⟩) (B.length + 1) cap)) wb (.slice (some ⟨g, 0, none⟩) (B.length + 1) cap) nb := by
    have := setOf 1 (.slice (some ⟨g, 0, none⟩) (B.length + 1) cap) HW.out
    simpa [WrAt] using this
  have hrow2 : (w1.setCell ⟨wb, 1, none⟩ (.slice (some ⟨g, 0, none⟩) (B.length + 1) cap)).heap[g]? = some (.cells cur 5 (0, 0)) := by
    rw [Below.heap_setCell _ _ _ _ (show g ≠ wb by omega)]; exact HR.out
  have ht : cur.toList.take (B.length + 1) = byteVals (B ++ [0]) := by rw [HT.out]; simp [byteVals]
  have hfin := put_finx (S := pS wb (.slice so sl sc)) (w := w) (i := nb / 8) (y := b) hW2 hg hrow2 hn hm hc ht (HF.out.setCell ⟨wb, 1, none⟩ (Or.inl (Or.inl rfl)) _) (Or.inl rfl) (HG.out.elim (fun h => Or.inl (Or.inr h)) Or.inr)
  have hset : (B ++ [0]).set (nb / 8) b = B ++ [b] := by rw [← HN.out]; simp
  rw [hset] at hfin
  refine ⟨rfl, _, hfin.1, hfin.2.1, hfin.2.2.drew, ?_⟩
  rcases HG.out with h' | h'
  · left; rw [h']; rfl
  · right; intro k hk; simp [Value.ownBlock] at hk; omega
end Go.Proofs.Ytokgolmioonbfaa
