/- A range over a function whose iterator writes memory of its own: a law for the statement, out of the kit's law L2. What the rounds own (the set C) and what the iterator owns lie in different blocks. No Go text here. -/
import Derived.Test.YthgnhcdodfildaaDoorFrame
import Derived.RangeFuncNested
import Derived.RangeFuncBound
import Derived.RangeFuncCalls
import Derived.RangeFuncLeaves
import Derived.Shelf.Abstract
import Derived.WalkKit
import Derived.OwnWalkIn
import Derived.TacticsInMore
import Derived.LoopNIn
import Derived.LoopIn
namespace Go.Proofs.YthgnhcdodfildaaDoor
open Go.RowKit Go.Shelf

/-- The blocks of C lie as they lay. -/
def SameOn (C : Nat → Prop) (W W' : World) : Prop := ∀ k, C k → W'.heap[k]? = W.heap[k]?
/-- J speaks of the blocks of C alone. -/
def Only (C : Nat → Prop) (J : World → Prop) : Prop := ∀ W W', J W → SameOn C W W' → J W'
/-- What a loop's rounds own: the blocks of C, and the loop's own two. -/
def andTwo (C : Nat → Prop) (n : Nat) : Nat → Prop := fun k => C k ∨ k = n ∨ k = n + 1
theorem Fr.putObj {S : Nat → Prop} {a w : World} (h : Fr S a w) (l : Nat) (o : Obj) (hl : S l ∨ a.heap.size ≤ l) : Fr S a (w.putObj l o) :=
  h.grown (grownBy_putObj' w l o) (fun k e => by cases e; exact hl)

/-- How the body of a round may be left. -/
def rndPost {α : Type} (C : Nat → Prop) (I : List α → World → Prop) (Ix : Code → List α → World → Prop) (xs : List α) (W : World) : Exit → Act → World → Prop
  | .normal, _, W' => Fr C W W' ∧ I xs W'
  | .ret, _, W' => Fr C W W' ∧ Ix .ret xs W'
  | .exit id, _, W' => Fr C W W' ∧ Ix (.exit id) xs W'
  | _, _, _ => False

/-- What is asked of an iterator, called with the yield of the record l: while the rounds keep to their own blocks it tells xs and ends in R, or is stopped in Rx. -/
def Tells {α : Type} (P : Program) (gf : Nat) (lb : Array Value) (encs : α → Array Value) (C : Nat → Prop) (Y : List α → α → World → Prop) (R Rx : List α → World → Prop) (l : Nat) (W1 : World) : Prop :=
  ∀ J Jx : List α → World → Prop, (∀ p, Only C (J p)) → (∀ p, Only C (Jx p)) →
    (∀ pre x W, Y pre x W → J pre W → YieldAt Fence.wide 0 P l (encs x) W fun e W' =>
      (e = .returned (.bool true) ∧ J (pre ++ [x]) W' ∧ Fr C W W') ∨ (e = .returned (.bool false) ∧ Jx (pre ++ [x]) W' ∧ Fr C W W')) →
    J [] W1 →
    Calls P gf (#[.func (.yield l) #[] #[]] ++ lb) W1 fun e W' => (∃ v, e = .returned v) ∧ ((∃ xs, R xs W' ∧ J xs W') ∨ (∃ pre, Rx pre W' ∧ Jx pre W'))

theorem wp_range {P : Program} {α : Type} {g : Operand} {ps : Array Tmp} {assign body : Code} {Q : Exit → Act → World → Prop} {a : Act} {w : World}
    {gf : Nat} {lb : Array Value} (hg : a.eval g = .func (.func gf) #[] lb) (eg : ∀ args w, (callFunc gf args).run P w = .ok (.enter gf args) w)
    {C : Nat → Prop} (hC : ∀ k, C k → k < w.heap.size) {encs : α → Array Value} (hps : ∀ x, (encs x).size = ps.size)
    {Y : List α → α → World → Prop} (hY : ∀ p x W r r', Y p x W → W.heap[w.heap.size + 1]? = some (.loop r) → Y p x (W.putObj (w.heap.size + 1) (.loop r')))
    {R Rx : List α → World → Prop} (hR : ∀ p W r r', R p W → W.heap[w.heap.size + 1]? = some (.loop r) → R p (W.putObj (w.heap.size + 1) (.loop r'))) (hRx : ∀ p W r r', Rx p W → W.heap[w.heap.size + 1]? = some (.loop r) → Rx p (W.putObj (w.heap.size + 1) (.loop r')))
    (hseq : ∀ W1, Fr noB w W1 → W1.heap.size = w.heap.size + 2 → (∀ k, w.heap.size ≤ k → ∀ cs t fr, W1.heap[k]? ≠ some (.cells cs t fr)) → Tells P gf lb encs (andTwo C w.heap.size) Y R Rx (w.heap.size + 1) W1)
    (I : List α → World → Prop) (Ix : Code → List α → World → Prop) (hI : ∀ p, Only C (I p)) (hIx : ∀ c p, Only C (Ix c p)) (h0 : I [] w) (a₁ : α → Act)
    (hassign : ∀ (l : Nat) (x : α) (W : World) (K : Act → World → Prop), K (a₁ x) W →
      assign.wpIn (Fence.wide.inRound l) 0 P (Exit.then K (fun _ _ _ => False)) { tmps := (ps.zip (encs x)).foldl (fun t (p, v) => t.setIfInBounds p v) a.tmps, defers := [] } W)
    (hbody : ∀ (l : Nat) (pre : List α) (x : α) (W : World), I pre W → Y pre x W → body.wpIn (Fence.wide.inRound l) 0 P (rndPost C I Ix (pre ++ [x]) W) (a₁ x) W)
    (hdone : ∀ (xs : List α) (W : World), R xs W → I xs W → W.heap[w.heap.size]? = some (.deferred (some [])) → Q .normal { a with defers := { target := .collected w.heap.size, args := #[] } :: a.defers } W)
    (hstop : ∀ (c : Code) (pre : List α) (W : World), Rx pre W → Ix c pre W → W.heap[w.heap.size]? = some (.deferred (some [])) → c.wpIn Fence.wide 0 P Q { a with defers := { target := .collected w.heap.size, args := #[] } :: a.defers } W) :
    (Code.rangeFunc g ps assign body).wpIn Fence.wide 0 P Q a w := by
  refine wpIn_rangeFunc fun fn hfn => ?_
  obtain ⟨rec, hrec⟩ : ∃ rec : LoopState → Option Code → Loop, rec = fun st pe => { state := st, pending := pe, fn := fn, tmps := a.tmps, params := ps, assign := assign, body := body, defers := w.heap.size } := ⟨_, rfl⟩
  obtain ⟨n, hn⟩ : ∃ n, w.heap.size = n := ⟨_, rfl⟩
  obtain ⟨W1, hW1⟩ : ∃ W1, (w.alloc (.deferred (some []))).alloc (.loop (rec .ready none)) = W1 := ⟨_, rfl⟩
  have hF1 : Fr noB w W1 := by rw [← hW1]; exact ((Fr.refl noB w).alloc _).alloc _
  have hs1 : W1.heap.size = w.heap.size + 2 := by rw [← hW1]; simp
  have hL1 : W1.heap[n + 1]? = some (.loop (rec .ready none)) := by
    rw [← hW1, ← hn]
    have := World.alloc_heap_new (w.alloc (.deferred (some []))) (.loop (rec .ready none))
    rwa [World.size_alloc] at this
  have hK1 : W1.heap[n]? = some (.deferred (some [])) := by
    rw [← hW1, ← hn]
    exact (Below.heap_alloc _ _ _ (by simp)).trans (World.alloc_heap_new w _)
  have he : (Instr.enterLoop fn a.tmps ps assign body Fence.wide.round).run P w = .ok (w.heap.size + 1, [{ target := .collected w.heap.size, args := #[] }]) W1 := by
    rw [← hW1, hrec]
    exact run_enterLoop_outer fn a.tmps ps assign body
  have hT := hseq W1 hF1 hs1 (fun k hk cs t fr e => by
    rcases Nat.lt_or_ge k (n + 2) with h | h
    · rcases (show k = n ∨ k = n + 1 by omega) with rfl | rfl
      · rw [hK1] at e; cases e
      · rw [hL1] at e; cases e
    · rw [Array.getElem?_eq_none (by omega)] at e; cases e)
  have hc1 : ∀ k, C k → k ≠ n ∧ k ≠ n + 1 := fun k hk => by have := hC k hk; omega
  have toC : ∀ {A B : World}, SameOn (andTwo C n) A B → SameOn C A B := fun h k hk => h k (Or.inl hk)
  have put1 : ∀ (A : World) (o : Obj), SameOn C A (A.putObj (n + 1) o) := fun A o k hk => World.putObj_heap_other (hc1 k hk).2
  have put2 : ∀ (A : World) (o : Obj), Fr (andTwo C n) A (A.putObj (n + 1) o) := fun A o => (Fr.refl _ A).putObj _ _ (Or.inl (Or.inr (Or.inr rfl)))
  rw [hn] at he hT hdone hstop hY hR hRx
  refine ⟨n + 1, [{ target := .collected n, args := #[] }], W1, { target := .fn (.func gf) lb, args := #[.func (.yield (n + 1)) #[] #[]] }, W1, gf, #[.func (.yield (n + 1)) #[] #[]] ++ lb, W1, he, ?_, fun _ _ => trivial, ?_, (fun h => by simp [Fence.wide] at h), ?_⟩
  · simp only [resolve, hg]
    simp [go_sem]
  · simp [invoke, go_sem, eg]
  · refine (callsIn_wide.2 (hT
      (fun pre W => I pre W ∧ W.heap[n + 1]? = some (.loop (rec .ready none)) ∧ W.heap[n]? = some (.deferred (some [])))
      (fun pre W => ∃ c, Ix c pre W ∧ W.heap[n + 1]? = some (.loop (rec .done (some c))) ∧ W.heap[n]? = some (.deferred (some []))) ?_ ?_ ?_ ?_)).mono ?_
    · rintro p A B ⟨q1, q2, q3⟩ hs
      exact ⟨hI p A B q1 (toC hs), (hs _ (Or.inr (Or.inr rfl))).trans q2, (hs _ (Or.inr (Or.inl rfl))).trans q3⟩
    · rintro p A B ⟨c, q1, q2, q3⟩ hs
      exact ⟨c, hIx c p A B q1 (toC hs), (hs _ (Or.inr (Or.inr rfl))).trans q2, (hs _ (Or.inr (Or.inl rfl))).trans q3⟩
    · rintro pre x W hy ⟨q1, q2, q3⟩
      have hlt : n + 1 < W.heap.size := (Array.getElem?_eq_some_iff.1 q2).1
      have hyl := run_yield (P := P) (args := encs x) q2 (by rw [hrec]; exact hps x)
      rw [hrec] at hyl
      refine ⟨fn, _, assign, body, hyl, roundIn_of_wpIn hfn (hassign _ x W _ ⟨_, run_beginRound q2 (by rw [hrec]), ?_⟩)⟩
      obtain ⟨W2, hW2⟩ : ∃ W2, W.putObj (n + 1) (.loop { rec .ready none with state := .busy }) = W2 := ⟨_, rfl⟩
      have l2 : W2.heap[n + 1]? = some (.loop { rec .ready none with state := .busy }) := by rw [← hW2]; exact World.putObj_heap_same hlt
      have k2 : W2.heap[n]? = some (.deferred (some [])) := by rw [← hW2]; exact (World.putObj_heap_other (by omega)).trans q3
      have f2 : Fr (andTwo C n) W W2 := by rw [← hW2]; exact put2 W _
      have i2 : I pre W2 := by rw [← hW2]; exact hI pre W _ q1 (put1 W _)
      rw [hW2]
      refine wpIn_mono (hbody _ pre x W2 i2 (by rw [← hW2]; exact hY pre x W _ _ hy q2)) ?_
      have fin : ∀ (jump : Option Code) (W3 : World), Fr C W2 W3 →
          (Instr.endRound (n + 1) jump).run P W3 = .ok (.bool jump.isNone) (W3.putObj (n + 1) (.loop (rec (if jump.isNone then .ready else .done) jump))) ∧
          (W3.putObj (n + 1) (.loop (rec (if jump.isNone then .ready else .done) jump))).heap[n + 1]? = some (.loop (rec (if jump.isNone then .ready else .done) jump)) ∧
          (W3.putObj (n + 1) (.loop (rec (if jump.isNone then .ready else .done) jump))).heap[n]? = some (.deferred (some [])) ∧ Fr (andTwo C n) W (W3.putObj (n + 1) (.loop (rec (if jump.isNone then .ready else .done) jump))) := by
        intro jump W3 h3
        have l3 := h3.obj l2 (fun h => (hc1 _ h).2 rfl)
        have k3 := h3.obj k2 (fun h => (hc1 _ h).1 rfl)
        have hr := run_endRound (P := P) jump l3
        rw [hrec] at hr ⊢
        refine ⟨hr, World.putObj_heap_same (Array.getElem?_eq_some_iff.1 l3).1, (World.putObj_heap_other (by omega)).trans k3, (f2.trans (h3.mono fun k _ hk => Or.inl hk)).putObj _ _ (Or.inl (Or.inr (Or.inr rfl)))⟩
      rintro e a3 W3 hp
      cases e with
      | normal =>
        obtain ⟨h3, i3⟩ := hp
        obtain ⟨r1, r2, r3, r4⟩ := fin none W3 h3
        exact ⟨_, _, r1, Or.inl ⟨rfl, ⟨hI _ _ _ i3 (put1 W3 _), r2, r3⟩, r4⟩⟩
      | ret =>
        obtain ⟨h3, i3⟩ := hp
        obtain ⟨r1, r2, r3, r4⟩ := fin (some .ret) W3 h3
        exact ⟨_, _, r1, Or.inr ⟨rfl, ⟨.ret, hIx _ _ _ _ i3 (put1 W3 _), r2, r3⟩, r4⟩⟩
      | exit id =>
        obtain ⟨h3, i3⟩ := hp
        obtain ⟨r1, r2, r3, r4⟩ := fin (some (.exit id)) W3 h3
        exact ⟨_, _, r1, Or.inr ⟨rfl, ⟨.exit id, hIx _ _ _ _ i3 (put1 W3 _), r2, r3⟩, r4⟩⟩
      | goto t => exact hp.elim
      | panic c => exact hp.elim
      | outgrown => exact hp.elim
    · exact ⟨hI [] w W1 h0 (fun k hk => hF1.block k (hC k hk) id), hL1, hK1⟩
    · rintro e W2 ⟨⟨v, rfl⟩, (⟨xs, hr, q1, q2, q3⟩ | ⟨pre, hr, c, q1, q2, q3⟩)⟩
      · refine ⟨none, _, by have := run_endLoop (P := P) q2 (by rw [hrec]; simp); rw [hrec] at this; exact this, ?_⟩
        exact hdone xs _ (hR xs _ _ _ hr q2) (hI _ _ _ q1 (put1 W2 _)) ((World.putObj_heap_other (by omega)).trans q3)
      · refine ⟨some c, _, by have := run_endLoop (P := P) q2 (by rw [hrec]; simp); rw [hrec] at this; exact this, ?_⟩
        exact hstop c pre _ (hRx pre _ _ _ hr q2) (hIx _ _ _ _ q1 (put1 W2 _)) ((World.putObj_heap_other (by omega)).trans q3)
#print axioms wp_range
end Go.Proofs.YthgnhcdodfildaaDoor
/- A range over a function whose iterator writes memory of its own, and whose rounds own what they make on the way: the law Rng again, with relations between worlds in the place of a fixed set of blocks. No Go text here. -/
namespace Go.Proofs.YthgnhcdodfildaaDoor
open Go.RowKit Go.Shelf

/-- How the body of a round may be left: as D allows, with the loop's own two blocks as they lay. -/
def rndPostS {α : Type} (n : Nat) (D : World → World → Prop) (I : List α → World → Prop) (Ix : Code → List α → World → Prop) (xs : List α) (W : World) : Exit → Act → World → Prop
  | .normal, _, W' => (D W W' ∧ W'.heap[n]? = W.heap[n]? ∧ W'.heap[n + 1]? = W.heap[n + 1]?) ∧ I xs W'
  | .ret, _, W' => (D W W' ∧ W'.heap[n]? = W.heap[n]? ∧ W'.heap[n + 1]? = W.heap[n + 1]?) ∧ Ix .ret xs W'
  | .exit id, _, W' => (D W W' ∧ W'.heap[n]? = W.heap[n]? ∧ W'.heap[n + 1]? = W.heap[n + 1]?) ∧ Ix (.exit id) xs W'
  | _, _, _ => False

/-- What is asked of an iterator, called with the yield of the record l: its own steps are T, the rounds' D; it tells xs and ends in R, or is stopped in Rx. -/
def TellsS {α : Type} (P : Program) (gf : Nat) (lb : Array Value) (encs : α → Array Value) (T D : World → World → Prop) (Y : List α → α → World → Prop) (R Rx : List α → World → Prop) (l : Nat) (W1 : World) : Prop :=
  ∀ J Jx : List α → World → Prop, (∀ p W W', J p W → T W W' → J p W') → (∀ p W W', Jx p W → T W W' → Jx p W') →
    (∀ pre x W, Y pre x W → (∃ W0, J pre W0 ∧ T W0 W ∧ W0.heap.size < W.heap.size) → YieldAt Fence.wide 0 P l (encs x) W fun e W' =>
      (e = .returned (.bool true) ∧ J (pre ++ [x]) W' ∧ D W W') ∨ (e = .returned (.bool false) ∧ Jx (pre ++ [x]) W' ∧ D W W')) →
    J [] W1 →
    Calls P gf (#[.func (.yield l) #[] #[]] ++ lb) W1 fun e W' => (∃ v, e = .returned v) ∧ ((∃ xs, R xs W' ∧ J xs W') ∨ (∃ pre, Rx pre W' ∧ Jx pre W'))

theorem wp_rangeS {P : Program} {α : Type} {g : Operand} {ps : Array Tmp} {assign body : Code} {Q : Exit → Act → World → Prop} {a : Act} {w : World}
    {gf : Nat} {lb : Array Value} (hg : a.eval g = .func (.func gf) #[] lb) (eg : ∀ args w, (callFunc gf args).run P w = .ok (.enter gf args) w)
    {encs : α → Array Value} (hps : ∀ x, (encs x).size = ps.size) {T D : World → World → Prop}
    (hT : ∀ W W' (k : Nat) (o : Obj), T W W' → W.heap[k]? = some o → (∀ cs t fr, o ≠ Obj.cells cs t fr) → W'.heap[k]? = some o)
    (hD1 : ∀ W W' r r', W.heap[w.heap.size + 1]? = some (.loop r) → D (W.putObj (w.heap.size + 1) (.loop r')) W' → D W W') (hD2 : ∀ W W' r r', W.heap[w.heap.size + 1]? = some (.loop r) → D W W' → D W (W'.putObj (w.heap.size + 1) (.loop r')))
    {Y : List α → α → World → Prop} (hY : ∀ p x W r r', Y p x W → W.heap[w.heap.size + 1]? = some (.loop r) → Y p x (W.putObj (w.heap.size + 1) (.loop r')))
    {R Rx : List α → World → Prop} (hR : ∀ p W r r', R p W → W.heap[w.heap.size + 1]? = some (.loop r) → R p (W.putObj (w.heap.size + 1) (.loop r'))) (hRx : ∀ p W r r', Rx p W → W.heap[w.heap.size + 1]? = some (.loop r) → Rx p (W.putObj (w.heap.size + 1) (.loop r')))
    (hseq : ∀ W1, Fr noB w W1 → W1.heap.size = w.heap.size + 2 → (∀ k, w.heap.size ≤ k → ∀ cs t fr, W1.heap[k]? ≠ some (.cells cs t fr)) → TellsS P gf lb encs T D Y R Rx (w.heap.size + 1) W1)
    (I : List α → World → Prop) (Ix : Code → List α → World → Prop) (hI : ∀ p W W', I p W → T W W' → I p W') (hIx : ∀ c p W W', Ix c p W → T W W' → Ix c p W')
    (hIp : ∀ p W r r', I p W → W.heap[w.heap.size + 1]? = some (.loop r) → I p (W.putObj (w.heap.size + 1) (.loop r'))) (hIxp : ∀ c p W r r', Ix c p W → W.heap[w.heap.size + 1]? = some (.loop r) → Ix c p (W.putObj (w.heap.size + 1) (.loop r')))
    (h0 : ∀ W1, Fr noB w W1 → I [] W1) (a₁ : α → Act)
    (hassign : ∀ (l : Nat) (x : α) (W : World) (K : Act → World → Prop), K (a₁ x) W →
      assign.wpIn (Fence.wide.inRound l) 0 P (Exit.then K (fun _ _ _ => False)) { tmps := (ps.zip (encs x)).foldl (fun t (p, v) => t.setIfInBounds p v) a.tmps, defers := [] } W)
    (hbody : ∀ (l : Nat) (pre : List α) (x : α) (W : World), I pre W → Y pre x W → (∃ W0 W1 r, I pre W0 ∧ T W0 W1 ∧ W0.heap.size < W1.heap.size ∧ W = W1.putObj (w.heap.size + 1) (.loop r)) → (∃ r, W.heap[w.heap.size + 1]? = some (.loop r)) → W.heap[w.heap.size]? = some (.deferred (some [])) → body.wpIn (Fence.wide.inRound l) 0 P (rndPostS w.heap.size D I Ix (pre ++ [x]) W) (a₁ x) W)
    (hdone : ∀ (xs : List α) (W : World), R xs W → I xs W → W.heap[w.heap.size]? = some (.deferred (some [])) → Q .normal { a with defers := { target := .collected w.heap.size, args := #[] } :: a.defers } W)
    (hstop : ∀ (c : Code) (pre : List α) (W : World), Rx pre W → Ix c pre W → W.heap[w.heap.size]? = some (.deferred (some [])) → c.wpIn Fence.wide 0 P Q { a with defers := { target := .collected w.heap.size, args := #[] } :: a.defers } W) :
    (Code.rangeFunc g ps assign body).wpIn Fence.wide 0 P Q a w := by
  refine wpIn_rangeFunc fun fn hfn => ?_
  obtain ⟨rec, hrec⟩ : ∃ rec : LoopState → Option Code → Loop, rec = fun st pe => { state := st, pending := pe, fn := fn, tmps := a.tmps, params := ps, assign := assign, body := body, defers := w.heap.size } := ⟨_, rfl⟩
  obtain ⟨n, hn⟩ : ∃ n, w.heap.size = n := ⟨_, rfl⟩
  obtain ⟨W1, hW1⟩ : ∃ W1, (w.alloc (.deferred (some []))).alloc (.loop (rec .ready none)) = W1 := ⟨_, rfl⟩
  have hF1 : Fr noB w W1 := by rw [← hW1]; exact ((Fr.refl noB w).alloc _).alloc _
  have hs1 : W1.heap.size = w.heap.size + 2 := by rw [← hW1]; simp
  have hL1 : W1.heap[n + 1]? = some (.loop (rec .ready none)) := by
    rw [← hW1, ← hn]
    have := World.alloc_heap_new (w.alloc (.deferred (some []))) (.loop (rec .ready none))
    rwa [World.size_alloc] at this
  have hK1 : W1.heap[n]? = some (.deferred (some [])) := by
    rw [← hW1, ← hn]
    exact (Below.heap_alloc _ _ _ (by simp)).trans (World.alloc_heap_new w _)
  have he : (Instr.enterLoop fn a.tmps ps assign body Fence.wide.round).run P w = .ok (w.heap.size + 1, [{ target := .collected w.heap.size, args := #[] }]) W1 := by
    rw [← hW1, hrec]
    exact run_enterLoop_outer fn a.tmps ps assign body
  have hTe := hseq W1 hF1 hs1 (fun k hk cs t fr e => by
    rcases Nat.lt_or_ge k (n + 2) with h | h
    · rcases (show k = n ∨ k = n + 1 by omega) with rfl | rfl
      · rw [hK1] at e; cases e
      · rw [hL1] at e; cases e
    · rw [Array.getElem?_eq_none (by omega)] at e; cases e)
  rw [hn] at he hTe hdone hstop hY hR hRx hD1 hD2 hIp hIxp hbody
  refine ⟨n + 1, [{ target := .collected n, args := #[] }], W1, { target := .fn (.func gf) lb, args := #[.func (.yield (n + 1)) #[] #[]] }, W1, gf, #[.func (.yield (n + 1)) #[] #[]] ++ lb, W1, he, ?_, fun _ _ => trivial, ?_, (fun h => by simp [Fence.wide] at h), ?_⟩
  · simp only [resolve, hg]
    simp [go_sem]
  · simp [invoke, go_sem, eg]
  · refine (callsIn_wide.2 (hTe
      (fun pre W => I pre W ∧ W.heap[n + 1]? = some (.loop (rec .ready none)) ∧ W.heap[n]? = some (.deferred (some [])))
      (fun pre W => ∃ c, Ix c pre W ∧ W.heap[n + 1]? = some (.loop (rec .done (some c))) ∧ W.heap[n]? = some (.deferred (some []))) ?_ ?_ ?_ ?_)).mono ?_
    · rintro p A B ⟨q1, q2, q3⟩ hs
      exact ⟨hI p A B q1 hs, hT _ _ _ _ hs q2 (by simp), hT _ _ _ _ hs q3 (by simp)⟩
    · rintro p A B ⟨c, q1, q2, q3⟩ hs
      exact ⟨c, hIx c p A B q1 hs, hT _ _ _ _ hs q2 (by simp), hT _ _ _ _ hs q3 (by simp)⟩
    · rintro pre x W hy ⟨W0, ⟨q1', q2', q3'⟩, hTW, hsW⟩
      have q1 := hI _ _ _ q1' hTW
      have q2 := hT _ _ _ _ hTW q2' (by simp)
      have q3 := hT _ _ _ _ hTW q3' (by simp)
      have hlt : n + 1 < W.heap.size := (Array.getElem?_eq_some_iff.1 q2).1
      have hyl := run_yield (P := P) (args := encs x) q2 (by rw [hrec]; exact hps x)
      rw [hrec] at hyl
      refine ⟨fn, _, assign, body, hyl, roundIn_of_wpIn hfn (hassign _ x W _ ⟨_, run_beginRound q2 (by rw [hrec]), ?_⟩)⟩
      obtain ⟨W2, hW2⟩ : ∃ W2, W.putObj (n + 1) (.loop { rec .ready none with state := .busy }) = W2 := ⟨_, rfl⟩
      have l2 : W2.heap[n + 1]? = some (.loop { rec .ready none with state := .busy }) := by rw [← hW2]; exact World.putObj_heap_same hlt
      have k2 : W2.heap[n]? = some (.deferred (some [])) := by rw [← hW2]; exact (World.putObj_heap_other (by omega)).trans q3
      have f2 : ∀ W3, D W2 W3 → D W W3 := fun W3 h3 => hD1 W W3 _ _ q2 (by rw [hW2]; exact h3)
      have i2 : I pre W2 := by rw [← hW2]; exact hIp pre W _ _ q1 q2
      rw [hW2]
      refine wpIn_mono (hbody _ pre x W2 i2 (by rw [← hW2]; exact hY pre x W _ _ hy q2) ⟨W0, W, _, q1', hTW, hsW, hW2.symm⟩ ⟨_, l2⟩ k2) ?_
      have fin : ∀ (jump : Option Code) (W3 : World), (D W2 W3 ∧ W3.heap[n]? = W2.heap[n]? ∧ W3.heap[n + 1]? = W2.heap[n + 1]?) →
          (Instr.endRound (n + 1) jump).run P W3 = .ok (.bool jump.isNone) (W3.putObj (n + 1) (.loop (rec (if jump.isNone then .ready else .done) jump))) ∧
          (W3.putObj (n + 1) (.loop (rec (if jump.isNone then .ready else .done) jump))).heap[n + 1]? = some (.loop (rec (if jump.isNone then .ready else .done) jump)) ∧
          (W3.putObj (n + 1) (.loop (rec (if jump.isNone then .ready else .done) jump))).heap[n]? = some (.deferred (some [])) ∧ D W (W3.putObj (n + 1) (.loop (rec (if jump.isNone then .ready else .done) jump))) ∧ W3.heap[n + 1]? = some (.loop { rec .ready none with state := .busy }) := by
        intro jump W3 h3
        have l3 := h3.2.2.trans l2
        have k3 := h3.2.1.trans k2
        have hr := run_endRound (P := P) jump l3
        have hd3 := hD2 W W3 _ (rec (if jump.isNone then .ready else .done) jump) q2 (f2 W3 h3.1)
        rw [hrec] at hr hd3 ⊢
        refine ⟨hr, World.putObj_heap_same (Array.getElem?_eq_some_iff.1 l3).1, (World.putObj_heap_other (by omega)).trans k3, hd3, by rw [hrec] at l3; exact l3⟩
      rintro e a3 W3 hp
      cases e with
      | normal =>
        obtain ⟨h3, i3⟩ := hp
        obtain ⟨r1, r2, r3, r4, r5⟩ := fin none W3 h3
        exact ⟨_, _, r1, Or.inl ⟨rfl, ⟨hIp _ _ _ _ i3 r5, r2, r3⟩, r4⟩⟩
      | ret =>
        obtain ⟨h3, i3⟩ := hp
        obtain ⟨r1, r2, r3, r4, r5⟩ := fin (some .ret) W3 h3
        exact ⟨_, _, r1, Or.inr ⟨rfl, ⟨.ret, hIxp _ _ _ _ _ i3 r5, r2, r3⟩, r4⟩⟩
      | exit id =>
        obtain ⟨h3, i3⟩ := hp
        obtain ⟨r1, r2, r3, r4, r5⟩ := fin (some (.exit id)) W3 h3
        exact ⟨_, _, r1, Or.inr ⟨rfl, ⟨.exit id, hIxp _ _ _ _ _ i3 r5, r2, r3⟩, r4⟩⟩
      | goto t => exact hp.elim
      | panic c => exact hp.elim
      | outgrown => exact hp.elim
    · exact ⟨h0 W1 hF1, hL1, hK1⟩
    · rintro e W2 ⟨⟨v, rfl⟩, (⟨xs, hr, q1, q2, q3⟩ | ⟨pre, hr, c, q1, q2, q3⟩)⟩
      · refine ⟨none, _, by have := run_endLoop (P := P) q2 (by rw [hrec]; simp); rw [hrec] at this; exact this, ?_⟩
        exact hdone xs _ (hR xs _ _ _ hr q2) (hIp _ _ _ _ q1 q2) ((World.putObj_heap_other (by omega)).trans q3)
      · refine ⟨some c, _, by have := run_endLoop (P := P) q2 (by rw [hrec]; simp); rw [hrec] at this; exact this, ?_⟩
        exact hstop c pre _ (hRx pre _ _ _ hr q2) (hIxp _ _ _ _ _ q1 q2) ((World.putObj_heap_other (by omega)).trans q3)
#print axioms wp_rangeS
end Go.Proofs.YthgnhcdodfildaaDoor
