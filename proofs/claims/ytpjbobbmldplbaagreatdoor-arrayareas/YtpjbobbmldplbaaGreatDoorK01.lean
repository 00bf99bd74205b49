/- What a call leaves as it was: every block but those of a set S. Blocks of cells, read and written. No Go text here. -/
import Derived.WalkKit
import Derived.Deep.QuietTactic
import Derived.BigQuiet
import Derived.Laws.AppendOwnNone
namespace Go.Proofs.YtpjbobbmldplbaaGreatDoor
open Go.RowKit

/-- Every block of w outside S is in w' as it was; the streams too; no block has gone. -/
structure Fr (S : Nat → Prop) (w w' : World) : Prop where
  os : w'.os = w.os
  tape : w'.tape = w.tape
  output : w'.output = w.output
  size : w.heap.size ≤ w'.heap.size
  block : ∀ k, k < w.heap.size → ¬ S k → w'.heap[k]? = w.heap[k]?

/-- No block. -/
def noB : Nat → Prop := fun _ => False
/-- One block. -/
def oneB (b : Nat) : Nat → Prop := fun k => k = b
/-- Two blocks. -/
def twoB (b c : Nat) : Nat → Prop := fun k => k = b ∨ k = c

theorem Fr.refl (S : Nat → Prop) (w : World) : Fr S w w := ⟨rfl, rfl, rfl, Nat.le_refl _, fun _ _ _ => rfl⟩
theorem Fr.trans {S : Nat → Prop} {a b c : World} (h : Fr S a b) (k : Fr S b c) : Fr S a c :=
  ⟨k.os.trans h.os, k.tape.trans h.tape, k.output.trans h.output, Nat.le_trans h.size k.size, fun i hi hs => (k.block i (Nat.lt_of_lt_of_le hi h.size) hs).trans (h.block i hi hs)⟩
theorem Fr.mono {S S' : Nat → Prop} {w w' : World} (h : Fr S w w') (hs : ∀ k, k < w.heap.size → S k → S' k) : Fr S' w w' :=
  ⟨h.os, h.tape, h.output, h.size, fun i hi hn => h.block i hi fun hS => hn (hs i hi hS)⟩
theorem Fr.weak {S : Nat → Prop} {w w' : World} (h : Fr noB w w') : Fr S w w' := h.mono fun _ _ hf => hf.elim
theorem Fr.then {S S' : Nat → Prop} {a b c : World} (h : Fr S a b) (k : Fr S' b c) (hs : ∀ i, S' i → S i ∨ a.heap.size ≤ i) : Fr S a c :=
  ⟨k.os.trans h.os, k.tape.trans h.tape, k.output.trans h.output, Nat.le_trans h.size k.size, fun i hi hn =>
    (k.block i (Nat.lt_of_lt_of_le hi h.size) (fun h' => by rcases hs i h' with h1 | h1; exact hn h1; omega)).trans (h.block i hi hn)⟩
theorem Fr.below {S : Nat → Prop} {w w' : World} {B : Nat} (h : Fr S w w') (hB : B ≤ w.heap.size) (hs : ∀ k, S k → B ≤ k) : Below B w w' :=
  ⟨h.os, h.tape, h.output, h.size, fun k hk => h.block k (by omega) fun hS => by have := hs k hS; omega⟩
theorem Fr.ofBelow {S : Nat → Prop} {w w' : World} (h : Below w.heap.size w w') : Fr S w w' := ⟨h.os, h.tape, h.output, h.size, fun k hk _ => h.block k hk⟩
theorem Fr.obj {S : Nat → Prop} {w w' : World} (h : Fr S w w') {k : Nat} {o : Obj} (ho : w.heap[k]? = some o) (hs : ¬ S k) : w'.heap[k]? = some o := (h.block k (lt_of_block ho) hs).trans ho
theorem Fr.cell {S : Nat → Prop} {w w' : World} (h : Fr S w w') {a : Addr} (ha : a.block < w.heap.size) (hs : ¬ S a.block) : w'.cell? a = w.cell? a := World.cell?_of_block (h.block _ ha hs)
theorem Fr.drew {S : Nat → Prop} {a w : World} (h : Fr S a w) : Fr S a w.drew := ⟨h.os, h.tape, h.output, h.size, h.block⟩
theorem Fr.drewN {S : Nat → Prop} {a w : World} (h : Fr S a w) (n : Nat) : Fr S a (w.drewN n) := ⟨h.os, h.tape, h.output, h.size, h.block⟩
theorem Fr.setCell {S : Nat → Prop} {a w : World} (h : Fr S a w) (p : Addr) (hp : S p.block ∨ a.heap.size ≤ p.block) (u : Value) : Fr S a (w.setCell p u) :=
  ⟨h.os, h.tape, h.output, by simpa [World.setCell] using h.size, fun k hk hs => by
    rw [Below.heap_setCell _ _ _ _ (by rintro rfl; rcases hp with hp | hp; exact hs hp; omega)]; exact h.block k hk hs⟩
theorem Fr.setOne {a w : World} {b : Nat} (h : Fr (oneB b) a w) (o : Nat) (u : Value) : Fr (oneB b) a (w.setCell ⟨b, o, none⟩ u) := h.setCell ⟨b, o, none⟩ (Or.inl (show b = b from rfl)) u
theorem Fr.alloc {S : Nat → Prop} {a w : World} (h : Fr S a w) (o : Obj) : Fr S a (w.alloc o) :=
  ⟨h.os, h.tape, h.output, by have := h.size; simp; omega, fun k hk hs => by
    rw [Below.heap_alloc _ _ _ (by have := h.size; omega)]; exact h.block k hk hs⟩
theorem Fr.grown {S : Nat → Prop} {a w w' : World} {row : Option Nat} (h : Fr S a w) (hg : w.grownBy w' row) (hr : ∀ k, row = some k → S k ∨ a.heap.size ≤ k) : Fr S a w' :=
  ⟨hg.os.trans h.os, hg.tape.trans h.tape, hg.output.trans h.output, Nat.le_trans h.size hg.size, fun k hk hs =>
    (hg.block k (Nat.lt_of_lt_of_le hk h.size) (fun e => by rcases hr k e.symm with h1 | h1; exact hs h1; omega)).trans (h.block k hk hs)⟩

theorem cellOf {w : World} {b o : Nat} {cs : Array Value} {t : TypeId} {v : Value} (h : w.heap[b]? = some (.cells cs t (0, 0))) (hv : cs[o]? = some v) : w.cell? ⟨b, o, none⟩ = some v := by
  simp [World.cell?, h, hv]
theorem freeOf {w : World} {b : Nat} (o : Nat) {cs : Array Value} {t : TypeId} (h : w.heap[b]? = some (.cells cs t (0, 0))) : w.frozen? ⟨b, o, none⟩ = false := by
  simp [World.frozen?, h]
theorem setOf {w : World} {b : Nat} (o : Nat) {cs : Array Value} {t : TypeId} (u : Value) (h : w.heap[b]? = some (.cells cs t (0, 0))) : (w.setCell ⟨b, o, none⟩ u).heap[b]? = some (.cells (cs.setIfInBounds o u) t (0, 0)) := by
  have hlt := lt_of_block h
  have h' : w.heap[b] = .cells cs t (0, 0) := by simpa [Array.getElem?_eq_getElem hlt] using h
  show (w.heap.modify b _)[b]? = _
  rw [Array.getElem?_eq_getElem (by simpa using hlt), Array.getElem_modify_self, h']
  rfl
theorem heap_drewN (w : World) (n : Nat) : (w.drewN n).heap = w.heap := rfl

/-- Bytes as values. -/
def byteVals (B : List Nat) : List Value := B.map fun x : Nat => Value.int .u8 (x : Int)
@[simp] theorem length_byteVals (B : List Nat) : (byteVals B).length = B.length := by simp [byteVals]
theorem byteVals_get (B : List Nat) (i : Nat) (h : i < B.length) : (byteVals B)[i]? = some (.int .u8 ((B[i] : Nat) : Int)) := by simp [byteVals, h]
theorem byteVals_one (B : List Nat) : ∀ v ∈ byteVals B, v.oneCell' = true := by
  intro v hv
  simp [byteVals] at hv
  obtain ⟨x, _, rfl⟩ := hv
  rfl

/-- v is a slice whose elements read B. -/
def Bs (w : World) (v : Value) (B : List Nat) : Prop :=
  ∃ ao cap, v = .slice ao B.length cap ∧ B.length ≤ cap ∧ cap ≤ maxLen ∧ (ao = none → cap = 0) ∧ (B = [] ∨ ∃ b off, ao = some ⟨b, off, none⟩ ∧ b < w.heap.size ∧ ∀ i (h : i < B.length), w.cell? ⟨b, off + i, none⟩ = some (.int .u8 ((B[i] : Nat) : Int)))

theorem Bs.fr {w w' : World} {v : Value} {B : List Nat} {S : Nat → Prop} (h : Bs w v B) (hf : Fr S w w') (hs : ∀ ao len cap b off, v = .slice ao len cap → ao = some ⟨b, off, none⟩ → ¬ S b) : Bs w' v B := by
  obtain ⟨ao, cap, rfl, h1, h2, h4, h3⟩ := h
  refine ⟨ao, cap, rfl, h1, h2, h4, ?_⟩
  rcases h3 with h3 | ⟨b, off, rfl, hb, hc⟩
  · exact Or.inl h3
  · exact Or.inr ⟨b, off, rfl, Nat.lt_of_lt_of_le hb hf.size, fun i hi => (hf.cell (a := ⟨b, off + i, none⟩) hb (hs _ _ _ b off rfl rfl)).trans (hc i hi)⟩

/-- The cells cs lie at the address ao, if there are any: what a copy or an append asks of its source. -/
structure Src (w : World) (ao : Option Addr) (cs : List Value) : Prop where
  get : 0 < cs.length → ∃ ad, ao = some ad ∧ ∀ j v, cs[j]? = some v → w.cell? (ad.add j) = some v

theorem add_none (b off j : Nat) : (⟨b, off, none⟩ : Addr).add j = ⟨b, off + j, none⟩ := by
  by_cases h : j = 0
  · subst h; simp [Addr.add]
  · simp [Addr.add, h]

theorem Src.of {w : World} {ao : Option Addr} {B : List Nat} (h : B = [] ∨ ∃ b off, ao = some ⟨b, off, none⟩ ∧ ∀ i (h : i < B.length), w.cell? ⟨b, off + i, none⟩ = some (.int .u8 ((B[i] : Nat) : Int))) : Src w ao (byteVals B) := by
  refine ⟨fun h0 => ?_⟩
  rcases h with h3 | ⟨b, off, rfl, hc⟩
  · subst h3; simp [byteVals] at h0
  · refine ⟨_, rfl, fun j v hj => ?_⟩
    have hjl : j < B.length := by
      rcases Nat.lt_or_ge j B.length with h' | h'
      · exact h'
      · rw [List.getElem?_eq_none (by simpa using h')] at hj; cases hj
    rw [byteVals_get B j hjl] at hj
    cases hj
    rw [add_none]
    exact hc j hjl

/-- 'append(s, x...)', s nil or the call's own, x any slice of bytes: nil, cut or whole. -/
theorem wpList_append_src {P : Program} {w : World} {ops : Array Oper} {rest : List Oper} {o : Oper} {a : Act} {Q : Exit → Act → World → Prop} (hgd : o.guard = none) (s x : Operand) (t : TypeId)
    (ho : o.op = .call { callee := .builtin .append, args := #[s, x], argTypes := #[t, t] })
    (base : Nat) (e : TypeId) (i : TypeInfo) (z : Value) (bytes : Nat) (ht : P.underlying t = some (.slice e)) (hi : P.info? e = some i) (hz : i.zero = some z)
    (hsize : i.size = 1) (hby : i.bytes = bytes) (hzs : z.cells.size = 1)
    (v : Value) (n : Nat) (xs : List Value) (hs : a.eval s = v) (hown : w.ownsRow base e 1 v n xs)
    (sp : Option Addr) (m c : Nat) (hx : a.eval x = .slice sp m c) (hnil : sp = none → c = 0) (hmc : m ≤ c) (news : List Value) (hl : news.length = m) (hsrc : Src w sp news) (h1 : ∀ u ∈ news, u.oneCell' = true)
    (h63 : n + m ≤ maxLen) (hbytes : (n + m) * bytes ≤ 140737488355328) (hbase : base ≤ w.heap.size)
    (h : ∀ v' w', w'.ownsRow base e 1 v' (n + m) (xs ++ news) → w.grownBy w' v.ownBlock → wpList P ops Q rest (a.put o.dst v') w') : wpList P ops Q (o :: rest) a w := by
  cases sp with
  | none =>
    have hc := hnil rfl
    subst hc
    obtain rfl : m = 0 := by omega
    obtain rfl : news = [] := List.eq_nil_of_length_eq_zero hl
    refine wpList_append_own_none hgd s x t ho base e i 1 ht hi v n xs hs hown hx (h v w ?_ (World.grownBy.refl _ _))
    simpa using hown
  | some ad =>
    refine wpList_append_own w hgd s x t ho base e i z 1 bytes ht hi hz hsize hby hzs (by decide) v n xs hs hown ad m c news hx (by omega) ?_ h1 h63 hbytes hbase (fun v' w' h2 h3 _ => h v' w' h2 h3)
    intro j u hj
    have hj' : j < news.length := by
      rcases Nat.lt_or_ge j news.length with h' | h'
      · exact h'
      · rw [List.getElem?_eq_none h'] at hj; cases hj
    obtain ⟨ad', he, hc⟩ := hsrc.get (by omega)
    cases he
    exact hc j u hj

#print axioms Fr.grown
#print axioms Bs.fr
end Go.Proofs.YtpjbobbmldplbaaGreatDoor
/- Values, arrays and arguments as plain data: which may be. No Go text here. -/
namespace Go.Proofs.YtpjbobbmldplbaaGreatDoor
open Go.RowKit

/-- A value. -/
structure Vv where
  k : Int
  n : Nat
  s : ByteArray
  y : Bool
  e : Int
instance : Inhabited Vv := ⟨⟨0, 0, ⟨#[]⟩, false, 0⟩⟩
/-- A value's cells. -/
def vC (v : Vv) : List Value := [.int .i64 v.k, .float .f64 v.n, .string v.s, .bool v.y, .int .i64 v.e]
def vsC (L : List Vv) : List Value := L.flatMap vC
@[simp] theorem vC_len (v : Vv) : (vC v).length = 5 := rfl
@[simp] theorem vsC_nil : vsC [] = [] := rfl
theorem vsC_cons (v : Vv) (L : List Vv) : vsC (v :: L) = vC v ++ vsC L := rfl
theorem vsC_app (A B : List Vv) : vsC (A ++ B) = vsC A ++ vsC B := by simp [vsC]
theorem vsC_one (v : Vv) : vsC [v] = vC v := by simp [vsC]
@[simp] theorem vsC_len (L : List Vv) : (vsC L).length = L.length * 5 := by
  induction L with
  | nil => rfl
  | cons v L ih => rw [vsC_cons, List.length_append, ih, vC_len, List.length_cons]; omega
theorem vsC_get (L : List Vv) : ∀ (i : Nat) (h : i < L.length) (j : Nat), j < 5 → (vsC L)[i * 5 + j]? = (vC L[i])[j]? := by
  induction L with
  | nil => intro i h; simp at h
  | cons v L ih =>
    intro i h j hj
    cases i with
    | zero =>
      rw [vsC_cons, Nat.zero_mul, Nat.zero_add, List.getElem?_append_left (by simpa using hj)]
      rfl
    | succ i =>
      have e : (i + 1) * 5 + j = 5 + (i * 5 + j) := by omega
      rw [vsC_cons, List.getElem?_append_right (by simp; omega), vC_len, e, Nat.add_sub_cancel_left, ih i (by simpa using h) j hj]
      rfl
theorem vC_oneCell (v : Vv) : ∀ u ∈ vC v, u.oneCell' = true := by
  intro u hu
  simp [vC] at hu
  rcases hu with rfl | rfl | rfl | rfl | rfl <;> rfl
theorem vsC_oneCell (L : List Vv) : ∀ u ∈ vsC L, u.oneCell' = true := by
  intro u hu
  obtain ⟨v, _, h⟩ := List.mem_flatMap.1 hu
  exact vC_oneCell v u h
/-- A value that is within reach. -/
def Vok (v : Vv) : Prop := v.n < 18446744073709551616 ∧ v.s.size ≤ 140737488355328
/-- Where values lie. -/
def VsAt (w : World) (ao : Option Addr) (L : List Vv) : Prop := L = [] ∨ ∃ b off, ao = some ⟨b, off, none⟩ ∧ b < w.heap.size ∧ ∀ i (h : i < L.length), w.cell? ⟨b, off + i * 5, none⟩ = some (.int .i64 L[i].k) ∧ w.cell? ⟨b, off + i * 5 + 1, none⟩ = some (.float .f64 L[i].n) ∧ w.cell? ⟨b, off + i * 5 + 2, none⟩ = some (.string L[i].s) ∧ w.cell? ⟨b, off + i * 5 + 3, none⟩ = some (.bool L[i].y) ∧ w.cell? ⟨b, off + i * 5 + 4, none⟩ = some (.int .i64 L[i].e)
theorem VsAt.keep {w w' : World} {ao : Option Addr} {L : List Vv} (h : VsAt w ao L) (hf : Fr noB w w') : VsAt w' ao L := by
  rcases h with h | ⟨b, off, rfl, hb, hc⟩
  · exact Or.inl h
  · exact Or.inr ⟨b, off, rfl, Nat.lt_of_lt_of_le hb hf.size, fun i hi => ⟨(hf.cell (a := ⟨b, off + i * 5, none⟩) hb id).trans (hc i hi).1, (hf.cell (a := ⟨b, off + i * 5 + 1, none⟩) hb id).trans (hc i hi).2.1, (hf.cell (a := ⟨b, off + i * 5 + 2, none⟩) hb id).trans (hc i hi).2.2.1, (hf.cell (a := ⟨b, off + i * 5 + 3, none⟩) hb id).trans (hc i hi).2.2.2.1, (hf.cell (a := ⟨b, off + i * 5 + 4, none⟩) hb id).trans (hc i hi).2.2.2.2⟩⟩
theorem VsAt.get {w : World} {ao : Option Addr} {L : List Vv} (h : VsAt w ao L) (i : Nat) (hi : i < L.length) : ∃ b off, ao = some ⟨b, off, none⟩ ∧ b < w.heap.size ∧ w.cell? ⟨b, off + i * 5, none⟩ = some (.int .i64 L[i].k) ∧ w.cell? ⟨b, off + i * 5 + 1, none⟩ = some (.float .f64 L[i].n) ∧ w.cell? ⟨b, off + i * 5 + 2, none⟩ = some (.string L[i].s) ∧ w.cell? ⟨b, off + i * 5 + 3, none⟩ = some (.bool L[i].y) ∧ w.cell? ⟨b, off + i * 5 + 4, none⟩ = some (.int .i64 L[i].e) := by
  rcases h with h | ⟨b, off, rfl, hb, hc⟩
  · subst h; simp at hi
  · exact ⟨b, off, rfl, hb, hc i hi⟩
/-- A told place: its row, its column, its value. -/
structure Pl where
  r : Int
  c : Int
  v : Vv
instance : Inhabited Pl := ⟨⟨0, 0, default⟩⟩
def pC (p : Pl) : List Value := [.int .i64 p.r, .int .i64 p.c, .int .i64 p.v.k, .float .f64 p.v.n, .string p.v.s, .bool p.v.y, .int .i64 p.v.e]
/-- Where told places lie. -/
def PsAt (w : World) (ao : Option Addr) (L : List Pl) : Prop := L = [] ∨ ∃ b off, ao = some ⟨b, off, none⟩ ∧ b < w.heap.size ∧ ∀ i (h : i < L.length), w.cell? ⟨b, off + i * 7, none⟩ = some (.int .i64 L[i].r) ∧ w.cell? ⟨b, off + i * 7 + 1, none⟩ = some (.int .i64 L[i].c) ∧ w.cell? ⟨b, off + i * 7 + 2, none⟩ = some (.int .i64 L[i].v.k) ∧ w.cell? ⟨b, off + i * 7 + 3, none⟩ = some (.float .f64 L[i].v.n) ∧ w.cell? ⟨b, off + i * 7 + 4, none⟩ = some (.string L[i].v.s) ∧ w.cell? ⟨b, off + i * 7 + 5, none⟩ = some (.bool L[i].v.y) ∧ w.cell? ⟨b, off + i * 7 + 6, none⟩ = some (.int .i64 L[i].v.e)
theorem PsAt.keep {w w' : World} {ao : Option Addr} {L : List Pl} (h : PsAt w ao L) (hf : Fr noB w w') : PsAt w' ao L := by
  rcases h with h | ⟨b, off, rfl, hb, hc⟩
  · exact Or.inl h
  · exact Or.inr ⟨b, off, rfl, Nat.lt_of_lt_of_le hb hf.size, fun i hi => ⟨(hf.cell (a := ⟨b, off + i * 7, none⟩) hb id).trans (hc i hi).1, (hf.cell (a := ⟨b, off + i * 7 + 1, none⟩) hb id).trans (hc i hi).2.1, (hf.cell (a := ⟨b, off + i * 7 + 2, none⟩) hb id).trans (hc i hi).2.2.1, (hf.cell (a := ⟨b, off + i * 7 + 3, none⟩) hb id).trans (hc i hi).2.2.2.1, (hf.cell (a := ⟨b, off + i * 7 + 4, none⟩) hb id).trans (hc i hi).2.2.2.2.1, (hf.cell (a := ⟨b, off + i * 7 + 5, none⟩) hb id).trans (hc i hi).2.2.2.2.2.1, (hf.cell (a := ⟨b, off + i * 7 + 6, none⟩) hb id).trans (hc i hi).2.2.2.2.2.2⟩⟩
theorem PsAt.get {w : World} {ao : Option Addr} {L : List Pl} (h : PsAt w ao L) (i : Nat) (hi : i < L.length) : ∃ b off, ao = some ⟨b, off, none⟩ ∧ b < w.heap.size ∧ w.cell? ⟨b, off + i * 7, none⟩ = some (.int .i64 L[i].r) ∧ w.cell? ⟨b, off + i * 7 + 1, none⟩ = some (.int .i64 L[i].c) ∧ w.cell? ⟨b, off + i * 7 + 2, none⟩ = some (.int .i64 L[i].v.k) ∧ w.cell? ⟨b, off + i * 7 + 3, none⟩ = some (.float .f64 L[i].v.n) ∧ w.cell? ⟨b, off + i * 7 + 4, none⟩ = some (.string L[i].v.s) ∧ w.cell? ⟨b, off + i * 7 + 5, none⟩ = some (.bool L[i].v.y) ∧ w.cell? ⟨b, off + i * 7 + 6, none⟩ = some (.int .i64 L[i].v.e) := by
  rcases h with h | ⟨b, off, rfl, hb, hc⟩
  · subst h; simp at hi
  · exact ⟨b, off, rfl, hb, hc i hi⟩
/-- The first error of a list, by a function. -/
def fstE {α : Type} (f : α → Int) : List α → Int
  | [] => 0
  | v :: L => if f v = 0 then fstE f L else f v
theorem fstE_hit {α : Type} (f : α → Int) (L : List α) (k : Nat) (hk : k < L.length) (h1 : ∀ j (hj : j < L.length), j < k → f L[j] = 0) (h2 : f L[k] ≠ 0) : fstE f L = f L[k] := by
  induction L generalizing k with
  | nil => simp at hk
  | cons v L ih =>
    cases k with
    | zero => simp only [List.getElem_cons_zero] at h2 ⊢; simp [fstE, h2]
    | succ k =>
      have h0 : f v = 0 := h1 0 (by simp) (by omega)
      simp only [fstE, h0, if_true, List.getElem_cons_succ]
      exact ih k (by simpa using hk) (fun j hj h => h1 (j + 1) (by simpa using hj) (by omega)) h2
theorem fstE_none {α : Type} (f : α → Int) (L : List α) (h1 : ∀ j (hj : j < L.length), f L[j] = 0) : fstE f L = 0 := by
  induction L with
  | nil => rfl
  | cons v L ih =>
    have h0 : f v = 0 := h1 0 (by simp)
    simp only [fstE, h0, if_true]
    exact ih (fun j hj => h1 (j + 1) (by simpa using hj))
/-- May an array be? By an error of each value. -/
def arrF (f : Vv → Int) (r c : Int) (L : List Vv) : Int :=
  if r < 1 ∨ c < 1 then 1 else if 4096 < r * c then 3 else if (L.length : Int) ≠ r * c then 1 else fstE f L
/-- May a place be told? -/
def plOk (r c : Int) (p : Pl) : Bool := decide (0 ≤ p.r ∧ p.r < r ∧ 0 ≤ p.c ∧ p.c < c ∧ p.v.k ≠ 0)
/-- Are places told in their order, from a place's number on? -/
def laidF (r c : Int) : Int → List Pl → Bool
  | _, [] => true
  | nx, p :: P => plOk r c p && decide (nx ≤ p.r * c + p.c) && laidF r c (p.r * c + p.c + 1) P
/-- May an argument be? -/
def argF (f : Vv → Int) (m : Bool) (r c : Int) (P : List Pl) : Int :=
  if r < 1 ∨ 1048576 < r ∨ c < 1 ∨ 1024 < c then 1 else if m = true ∧ (1 < r ∨ 1 < c ∨ 0 < P.length) then 1 else if laidF r c 0 P = false then 1 else fstE (fun p => f p.v) P
theorem laidF_drop (r c nx : Int) (P : List Pl) (k : Nat) (hk : k < P.length) : laidF r c nx (P.drop k) = (plOk r c P[k] && decide (nx ≤ P[k].r * c + P[k].c) && laidF r c (P[k].r * c + P[k].c + 1) (P.drop (k + 1))) := by
  rw [List.drop_eq_getElem_cons hk]
  rfl
/-- A place stands behind another one by their numbers as it does by rows and columns. -/
theorem place_lt {c r1 c1 r2 c2 : Int} (h1 : 0 ≤ c1) (h2 : c1 < c) (h3 : 0 ≤ c2) (h4 : c2 < c) : r1 * c + c1 + 1 ≤ r2 * c + c2 ↔ ¬ (r2 < r1 ∨ r2 = r1 ∧ c2 ≤ c1) := by
  have key : ∀ a b : Int, a < b → a * c + c ≤ b * c := by
    intro a b h
    have := Int.mul_le_mul_of_nonneg_right (show a + 1 ≤ b by omega) (show 0 ≤ c by omega)
    rw [Int.add_mul, Int.one_mul] at this
    exact this
  rcases Int.lt_trichotomy r1 r2 with h | h | h
  · have := key _ _ h
    constructor
    · intro _; omega
    · intro _; omega
  · subst h
    constructor
    · intro _; omega
    · intro _; omega
  · have := key _ _ h
    constructor
    · intro _; omega
    · intro _; omega
#print axioms place_lt
end Go.Proofs.YtpjbobbmldplbaaGreatDoor
