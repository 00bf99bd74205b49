/- What a call leaves as it was: every block but those of a set S. Blocks of cells, read and written. No Go text here. -/
import Derived.WalkKit
import Derived.Deep.QuietTactic
import Derived.BigQuiet
import Derived.Laws.AppendOwnNone
namespace Go.Proofs.YtdmjbhbiehjelaaGreatDoor
open Go.RowKit

/-- Every block of w outside S is in w' as it was; the streams too; no block has gone. -/
structure Fr (S : Nat → Prop) (w w' : World) : Prop where
  os : w'.os = w.os
  tape : w'.tape = w.tape
  output : w'.output = w.output
  size : w.heap.size ≤ w'.heap.size
  block : ∀ k, k < w.heap.size → ¬ S k → w'.heap[k]? = w.heap[k]?

/-- No block. -/
def noB : Nat → Prop := fun _ => False
/-- One block. -/
def oneB (b : Nat) : Nat → Prop := fun k => k = b
/-- Two blocks. -/
def twoB (b c : Nat) : Nat → Prop := fun k => k = b ∨ k = c

theorem Fr.refl (S : Nat → Prop) (w : World) : Fr S w w := ⟨rfl, rfl, rfl, Nat.le_refl _, fun _ _ _ => rfl⟩
theorem Fr.trans {S : Nat → Prop} {a b c : World} (h : Fr S a b) (k : Fr S b c) : Fr S a c :=
  ⟨k.os.trans h.os, k.tape.trans h.tape, k.output.trans h.output, Nat.le_trans h.size k.size, fun i hi hs => (k.block i (Nat.lt_of_lt_of_le hi h.size) hs).trans (h.block i hi hs)⟩
theorem Fr.mono {S S' : Nat → Prop} {w w' : World} (h : Fr S w w') (hs : ∀ k, k < w.heap.size → S k → S' k) : Fr S' w w' :=
  ⟨h.os, h.tape, h.output, h.size, fun i hi hn => h.block i hi fun hS => hn (hs i hi hS)⟩
theorem Fr.weak {S : Nat → Prop} {w w' : World} (h : Fr noB w w') : Fr S w w' := h.mono fun _ _ hf => hf.elim
theorem Fr.then {S S' : Nat → Prop} {a b c : World} (h : Fr S a b) (k : Fr S' b c) (hs : ∀ i, S' i → S i ∨ a.heap.size ≤ i) : Fr S a c :=
  ⟨k.os.trans h.os, k.tape.trans h.tape, k.output.trans h.output, Nat.le_trans h.size k.size, fun i hi hn =>
    (k.block i (Nat.lt_of_lt_of_le hi h.size) (fun h' => by rcases hs i h' with h1 | h1; exact hn h1; omega)).trans (h.block i hi hn)⟩
theorem Fr.below {S : Nat → Prop} {w w' : World} {B : Nat} (h : Fr S w w') (hB : B ≤ w.heap.size) (hs : ∀ k, S k → B ≤ k) : Below B w w' :=
  ⟨h.os, h.tape, h.output, h.size, fun k hk => h.block k (by omega) fun hS => by have := hs k hS; omega⟩
theorem Fr.ofBelow {S : Nat → Prop} {w w' : World} (h : Below w.heap.size w w') : Fr S w w' := ⟨h.os, h.tape, h.output, h.size, fun k hk _ => h.block k hk⟩
theorem Fr.obj {S : Nat → Prop} {w w' : World} (h : Fr S w w') {k : Nat} {o : Obj} (ho : w.heap[k]? = some o) (hs : ¬ S k) : w'.heap[k]? = some o := (h.block k (lt_of_block ho) hs).trans ho
theorem Fr.cell {S : Nat → Prop} {w w' : World} (h : Fr S w w') {a : Addr} (ha : a.block < w.heap.size) (hs : ¬ S a.block) : w'.cell? a = w.cell? a := World.cell?_of_block (h.block _ ha hs)
theorem Fr.drew {S : Nat → Prop} {a w : World} (h : Fr S a w) : Fr S a w.drew := ⟨h.os, h.tape, h.output, h.size, h.block⟩
theorem Fr.drewN {S : Nat → Prop} {a w : World} (h : Fr S a w) (n : Nat) : Fr S a (w.drewN n) := ⟨h.os, h.tape, h.output, h.size, h.block⟩
theorem Fr.setCell {S : Nat → Prop} {a w : World} (h : Fr S a w) (p : Addr) (hp : S p.block ∨ a.heap.size ≤ p.block) (u : Value) : Fr S a (w.setCell p u) :=
  ⟨h.os, h.tape, h.output, by simpa [World.setCell] using h.size, fun k hk hs => by
    rw [Below.heap_setCell _ _ _ _ (by rintro rfl; rcases hp with hp | hp; exact hs hp; omega)]; exact h.block k hk hs⟩
theorem Fr.setOne {a w : World} {b : Nat} (h : Fr (oneB b) a w) (o : Nat) (u : Value) : Fr (oneB b) a (w.setCell ⟨b, o, none⟩ u) := h.setCell ⟨b, o, none⟩ (Or.inl (show b = b from rfl)) u
theorem Fr.alloc {S : Nat → Prop} {a w : World} (h : Fr S a w) (o : Obj) : Fr S a (w.alloc o) :=
  ⟨h.os, h.tape, h.output, by have := h.size; simp; omega, fun k hk hs => by
    rw [Below.heap_alloc _ _ _ (by have := h.size; omega)]; exact h.block k hk hs⟩
theorem Fr.grown {S : Nat → Prop} {a w w' : World} {row : Option Nat} (h : Fr S a w) (hg : w.grownBy w' row) (hr : ∀ k, row = some k → S k ∨ a.heap.size ≤ k) : Fr S a w' :=
  ⟨hg.os.trans h.os, hg.tape.trans h.tape, hg.output.trans h.output, Nat.le_trans h.size hg.size, fun k hk hs =>
    (hg.block k (Nat.lt_of_lt_of_le hk h.size) (fun e => by rcases hr k e.symm with h1 | h1; exact hs h1; omega)).trans (h.block k hk hs)⟩

theorem cellOf {w : World} {b o : Nat} {cs : Array Value} {t : TypeId} {v : Value} (h : w.heap[b]? = some (.cells cs t (0, 0))) (hv : cs[o]? = some v) : w.cell? ⟨b, o, none⟩ = some v := by
  simp [World.cell?, h, hv]
theorem freeOf {w : World} {b : Nat} (o : Nat) {cs : Array Value} {t : TypeId} (h : w.heap[b]? = some (.cells cs t (0, 0))) : w.frozen? ⟨b, o, none⟩ = false := by
  simp [World.frozen?, h]
theorem setOf {w : World} {b : Nat} (o : Nat) {cs : Array Value} {t : TypeId} (u : Value) (h : w.heap[b]? = some (.cells cs t (0, 0))) : (w.setCell ⟨b, o, none⟩ u).heap[b]? = some (.cells (cs.setIfInBounds o u) t (0, 0)) := by
  have hlt := lt_of_block h
  have h' : w.heap[b] = .cells cs t (0, 0) := by simpa [Array.getElem?_eq_getElem hlt] using h
  show (w.heap.modify b _)[b]? = _
  rw [Array.getElem?_eq_getElem (by simpa using hlt), Array.getElem_modify_self, h']
  rfl
theorem heap_drewN (w : World) (n : Nat) : (w.drewN n).heap = w.heap := rfl

/-- Bytes as values. -/
def byteVals (B : List Nat) : List Value := B.map fun x : Nat => Value.int .u8 (x : Int)
@[simp] theorem length_byteVals (B : List Nat) : (byteVals B).length = B.length := by simp [byteVals]
theorem byteVals_get (B : List Nat) (i : Nat) (h : i < B.length) : (byteVals B)[i]? = some (.int .u8 ((B[i] : Nat) : Int)) := by simp [byteVals, h]
theorem byteVals_one (B : List Nat) : ∀ v ∈ byteVals B, v.oneCell' = true := by
  intro v hv
  simp [byteVals] at hv
  obtain ⟨x, _, rfl⟩ := hv
  rfl

/-- v is a slice whose elements read B. -/
def Bs (w : World) (v : Value) (B : List Nat) : Prop :=
  ∃ ao cap, v = .slice ao B.length cap ∧ B.length ≤ cap ∧ cap ≤ maxLen ∧ (ao = none → cap = 0) ∧ (B = [] ∨ ∃ b off, ao = some ⟨b, off, none⟩ ∧ b < w.heap.size ∧ ∀ i (h : i < B.length), w.cell? ⟨b, off + i, none⟩ = some (.int .u8 ((B[i] : Nat) : Int)))

theorem Bs.fr {w w' : World} {v : Value} {B : List Nat} {S : Nat → Prop} (h : Bs w v B) (hf : Fr S w w') (hs : ∀ ao len cap b off, v = .slice ao len cap → ao = some ⟨b, off, none⟩ → ¬ S b) : Bs w' v B := by
  obtain ⟨ao, cap, rfl, h1, h2, h4, h3⟩ := h
  refine ⟨ao, cap, rfl, h1, h2, h4, ?_⟩
  rcases h3 with h3 | ⟨b, off, rfl, hb, hc⟩
  · exact Or.inl h3
  · exact Or.inr ⟨b, off, rfl, Nat.lt_of_lt_of_le hb hf.size, fun i hi => (hf.cell (a := ⟨b, off + i, none⟩) hb (hs _ _ _ b off rfl rfl)).trans (hc i hi)⟩

/-- The cells cs lie at the address ao, if there are any: what a copy or an append asks of its source. -/
structure Src (w : World) (ao : Option Addr) (cs : List Value) : Prop where
  get : 0 < cs.length → ∃ ad, ao = some ad ∧ ∀ j v, cs[j]? = some v → w.cell? (ad.add j) = some v

theorem add_none (b off j : Nat) : (⟨b, off, none⟩ : Addr).add j = ⟨b, off + j, none⟩ := by
  by_cases h : j = 0
  · subst h; simp [Addr.add]
  · simp [Addr.add, h]

theorem Src.of {w : World} {ao : Option Addr} {B : List Nat} (h : B = [] ∨ ∃ b off, ao = some ⟨b, off, none⟩ ∧ ∀ i (h : i < B.length), w.cell? ⟨b, off + i, none⟩ = some (.int .u8 ((B[i] : Nat) : Int))) : Src w ao (byteVals B) := by
  refine ⟨fun h0 => ?_⟩
  rcases h with h3 | ⟨b, off, rfl, hc⟩
  · subst h3; simp [byteVals] at h0
  · refine ⟨_, rfl, fun j v hj => ?_⟩
    have hjl : j < B.length := by
      rcases Nat.lt_or_ge j B.length with h' | h'
      · exact h'
      · rw [List.getElem?_eq_none (by simpa using h')] at hj; cases hj
    rw [byteVals_get B j hjl] at hj
    cases hj
    rw [add_none]
    exact hc j hjl

/-- 'append(s, x...)', s nil or the call's own, x any slice of bytes: nil, cut or whole. -/
theorem wpList_append_src {P : Program} {w : World} {ops : Array Oper} {rest : List Oper} {o : Oper} {a : Act} {Q : Exit → Act → World → Prop} (hgd : o.guard = none) (s x : Operand) (t : TypeId)
    (ho : o.op = .call { callee := .builtin .append, args := #[s, x], argTypes := #[t, t] })
    (base : Nat) (e : TypeId) (i : TypeInfo) (z : Value) (bytes : Nat) (ht : P.underlying t = some (.slice e)) (hi : P.info? e = some i) (hz : i.zero = some z)
    (hsize : i.size = 1) (hby : i.bytes = bytes) (hzs : z.cells.size = 1)
    (v : Value) (n : Nat) (xs : List Value) (hs : a.eval s = v) (hown : w.ownsRow base e 1 v n xs)
    (sp : Option Addr) (m c : Nat) (hx : a.eval x = .slice sp m c) (hnil : sp = none → c = 0) (hmc : m ≤ c) (news : List Value) (hl : news.length = m) (hsrc : Src w sp news) (h1 : ∀ u ∈ news, u.oneCell' = true)
    (h63 : n + m ≤ maxLen) (hbytes : (n + m) * bytes ≤ 140737488355328) (hbase : base ≤ w.heap.size)
    (h : ∀ v' w', w'.ownsRow base e 1 v' (n + m) (xs ++ news) → w.grownBy w' v.ownBlock → wpList P ops Q rest (a.put o.dst v') w') : wpList P ops Q (o :: rest) a w := by
  cases sp with
  | none =>
    have hc := hnil rfl
    subst hc
    obtain rfl : m = 0 := by omega
    obtain rfl : news = [] := List.eq_nil_of_length_eq_zero hl
    refine wpList_append_own_none hgd s x t ho base e i 1 ht hi v n xs hs hown hx (h v w ?_ (World.grownBy.refl _ _))
    simpa using hown
  | some ad =>
    refine wpList_append_own w hgd s x t ho base e i z 1 bytes ht hi hz hsize hby hzs (by decide) v n xs hs hown ad m c news hx (by omega) ?_ h1 h63 hbytes hbase (fun v' w' h2 h3 _ => h v' w' h2 h3)
    intro j u hj
    have hj' : j < news.length := by
      rcases Nat.lt_or_ge j news.length with h' | h'
      · exact h'
      · rw [List.getElem?_eq_none h'] at hj; cases hj
    obtain ⟨ad', he, hc⟩ := hsrc.get (by omega)
    cases he
    exact hc j u hj

#print axioms Fr.grown
#print axioms Bs.fr
end Go.Proofs.YtdmjbhbiehjelaaGreatDoor
/- Terms as plain data, and in memory. -/
namespace Go.Proofs.YtdmjbhbiehjelaaGreatDoor
open Go.RowKit

/-- A term's fields, its Args aside. -/
structure TF where
  op : Int
  x : Nat
  t : ByteArray
  er : Int
  nm : ByteArray
  r1 : ByteArray
  r2 : ByteArray
  r3 : Bool
  r4 : Bool
  r5 : Int
  r6 : Int
  r7 : Bool
  r8 : Bool
  r9 : Int
  r10 : Int
  r11 : Bool
  r12 : Bool
  rows : Int
/-- A term: its fields, where its Args lie, and they. -/
inductive Tm where
  | mk (f : TF) (sl : Option (Nat × Nat)) (cap : Nat) (args : List Tm)
def Tm.f : Tm → TF
  | .mk f _ _ _ => f
def Tm.args : Tm → List Tm
  | .mk _ _ _ a => a
def Tm.sl : Tm → Option (Nat × Nat)
  | .mk _ s _ _ => s
def Tm.cap : Tm → Nat
  | .mk _ _ c _ => c
/-- A slice as a value. -/
def slV (sl : Option (Nat × Nat)) (n cap : Nat) : Value :=
  match sl with
  | none => .slice none n cap
  | some (g, o) => .slice (some ⟨g, o, none⟩) n cap
/-- A term's slice. -/
def Tm.sv (t : Tm) : Value := slV t.sl t.args.length t.cap
/-- The nineteen cells of a term. -/
def TF.cells (f : TF) (s : Value) : List Value := [.int .i64 f.op, .float .f64 f.x, .string f.t, .int .i64 f.er, .string f.nm, .string f.r1, .string f.r2, .bool f.r3, .bool f.r4, .int .i64 f.r5, .int .i64 f.r6, .bool f.r7, .bool f.r8, .int .i64 f.r9, .int .i64 f.r10, .bool f.r11, .bool f.r12, .int .i64 f.rows, s]
/-- A term as a value. -/
def Tm.val (t : Tm) : Value := .agg #[.int .i64 t.f.op, .float .f64 t.f.x, .string t.f.t, .int .i64 t.f.er, .string t.f.nm, .string t.f.r1, .string t.f.r2, .bool t.f.r3, .bool t.f.r4, .int .i64 t.f.r5, .int .i64 t.f.r6, .bool t.f.r7, .bool t.f.r8, .int .i64 t.f.r9, .int .i64 t.f.r10, .bool t.f.r11, .bool t.f.r12, .int .i64 t.f.rows, t.sv]
/-- What lies at a place: a row of cells. -/
def RowAt (w : World) (B o : Nat) (L : List Value) : Prop := B < w.heap.size ∧ ∀ j v, L[j]? = some v → w.cell? ⟨B, o + j, none⟩ = some v
theorem RowAt.fr {S : Nat → Prop} {w w' : World} {B o : Nat} {L : List Value} (h : RowAt w B o L) (hF : Fr S w w') (hB : ¬ S B) : RowAt w' B o L :=
  ⟨Nat.lt_of_lt_of_le h.1 hF.size, fun j v hv => (hF.cell (a := ⟨B, o + j, none⟩) h.1 hB).trans (h.2 j v hv)⟩
/-- The fields are what an input's may be. -/
structure TF.ok (f : TF) : Prop where
  x : f.x < 18446744073709551616
  t : f.t.size ≤ 140737488355328
  nm : f.nm.size ≤ 140737488355328
  r1 : f.r1.size ≤ 140737488355328
  r2 : f.r2.size ≤ 140737488355328
  op0 : -9223372036854775808 ≤ f.op
  op1 : f.op ≤ 9223372036854775807
  er0 : -9223372036854775808 ≤ f.er
  er1 : f.er ≤ 9223372036854775807
  w0 : -9223372036854775808 ≤ f.rows
  w1 : f.rows ≤ 9223372036854775807
mutual
/-- The term is well formed, and its Args lie where its slice leads. -/
def Tm.Lies (w : World) : Tm → Prop
  | .mk f sl cap args => f.ok ∧ args.length ≤ cap ∧ cap ≤ 7407762545966 ∧ (match sl with
    | none => args = [] ∧ cap = 0
    | some (g, o) => LiesL w g o args)
/-- Terms lie one behind the other. -/
def LiesL (w : World) (g o : Nat) : List Tm → Prop
  | [] => True
  | t :: l => (RowAt w g o (t.f.cells t.sv) ∧ Tm.Lies w t) ∧ LiesL w g (o + 19) l
end
mutual
theorem Tm.Lies.fr {w w' : World} (hF : Fr noB w w') : ∀ (t : Tm), t.Lies w → t.Lies w'
  | .mk f sl cap args, h => by
    simp only [Tm.Lies] at h ⊢
    refine ⟨h.1, h.2.1, h.2.2.1, ?_⟩
    have h4 := h.2.2.2
    split
    · exact h4
    · exact LiesL.fr hF _ _ args h4
theorem LiesL.fr {w w' : World} (hF : Fr noB w w') (g : Nat) : ∀ (o : Nat) (l : List Tm), LiesL w g o l → LiesL w' g o l
  | _, [], _ => by simp only [LiesL]
  | o, t :: l, h => by
    simp only [LiesL] at h ⊢
    exact ⟨⟨h.1.1.fr hF id, Tm.Lies.fr hF t h.1.2⟩, LiesL.fr hF g (o + 19) l h.2⟩
end
/-- The term lies at a place. -/
structure TAt (w : World) (b o : Nat) (t : Tm) : Prop where
  row : RowAt w b o (t.f.cells t.sv)
  lies : t.Lies w
theorem TAt.fr {w w' : World} {b o : Nat} {t : Tm} (h : TAt w b o t) (hF : Fr noB w w') : TAt w' b o t := ⟨h.row.fr hF id, Tm.Lies.fr hF t h.lies⟩
theorem liesL_get {w : World} {g : Nat} : ∀ {o : Nat} {l : List Tm} {i : Nat} {t : Tm}, LiesL w g o l → l[i]? = some t → TAt w g (o + 19 * i) t
  | o, [], i, t, _, h => by simp at h
  | o, a :: l, 0, t, h, e => by
    simp only [LiesL] at h
    simp at e
    subst e
    exact ⟨by simpa using h.1.1, h.1.2⟩
  | o, a :: l, i + 1, t, h, e => by
    simp only [LiesL] at h
    have := liesL_get (i := i) h.2 (by simpa using e)
    rwa [show o + 19 * (i + 1) = o + 19 + 19 * i by omega]
theorem Tm.Lies.ok {w : World} {t : Tm} (h : t.Lies w) : t.f.ok := by
  cases t
  simp only [Tm.Lies] at h
  exact h.1
theorem Tm.Lies.cap {w : World} {t : Tm} (h : t.Lies w) : t.args.length ≤ t.cap ∧ t.cap ≤ 7407762545966 := by
  cases t
  simp only [Tm.Lies] at h
  exact ⟨h.2.1, h.2.2.1⟩
/-- A term with Args: where they lie. -/
theorem Tm.Lies.at {w : World} {t : Tm} (h : t.Lies w) (hn : t.args ≠ []) : ∃ g o, t.sl = some (g, o) ∧ ∀ i a, t.args[i]? = some a → TAt w g (o + 19 * i) a := by
  cases t with
  | mk f sl cap args =>
    simp only [Tm.Lies] at h
    cases sl with
    | none => exact absurd h.2.2.2.1 hn
    | some p =>
      obtain ⟨g, o⟩ := p
      exact ⟨g, o, rfl, fun i a e => liesL_get h.2.2.2 e⟩
mutual
/-- How great a term is. -/
def Tm.size : Tm → Nat
  | .mk _ _ _ a => sizeL a + 1
/-- How great terms are. -/
def sizeL : List Tm → Nat
  | [] => 0
  | t :: l => Tm.size t + sizeL l
end
theorem sizeL_mem {a : Tm} : ∀ {l : List Tm}, a ∈ l → a.size ≤ sizeL l
  | [], h => by cases h
  | t :: l, h => by
    simp only [sizeL]
    rcases List.mem_cons.1 h with rfl | h
    · omega
    · have := sizeL_mem h
      omega
theorem Tm.size_arg {t a : Tm} (h : a ∈ t.args) : a.size < t.size := by
  cases t with
  | mk f sl cap args =>
    have h : a ∈ args := h
    have := sizeL_mem h
    simp only [Tm.size]
    omega
/-- The line of an operation. -/
def lnF (op : Int) : Nat :=
  if 18 ≤ op ∧ op ≤ 23 then 1 else if op = 17 then 2 else if op = 15 ∨ op = 16 then 3 else if op = 13 ∨ op = 14 then 4 else if op = 12 then 5 else if op = 11 then 6
  else if op = 9 ∨ op = 10 then 7 else if op = 24 then 8 else if op = 25 then 9 else if 1 ≤ op ∧ op ≤ 8 then 10 else 0
/-- An operator's sign. -/
def sgF (op : Int) : ByteArray :=
  if op = 9 then ⟨#[43]⟩ else if op = 10 then ⟨#[45]⟩ else if op = 11 then ⟨#[37]⟩ else if op = 12 then ⟨#[94]⟩ else if op = 13 then ⟨#[42]⟩ else if op = 14 then ⟨#[47]⟩ else if op = 15 then ⟨#[43]⟩ else if op = 16 then ⟨#[45]⟩
  else if op = 17 then ⟨#[38]⟩ else if op = 18 then ⟨#[61]⟩ else if op = 19 then ⟨#[60, 62]⟩ else if op = 20 then ⟨#[60]⟩ else if op = 21 then ⟨#[60, 61]⟩ else if op = 22 then ⟨#[62]⟩ else if op = 23 then ⟨#[62, 61]⟩ else if op = 24 then ⟨#[126]⟩ else if op = 25 then ⟨#[33]⟩ else ⟨#[]⟩
#print axioms Tm.size_arg
#print axioms liesL_get
end Go.Proofs.YtdmjbhbiehjelaaGreatDoor
