/- What BitioWrites' walk wants besides: the two writers beside each other. -/
import Derived.Test.YtokgolmioonbfaaRw4
import Derived.Test.YtokgolmioonbfaaOpen
import Derived.Test.YtokgolmioonbfaaLive
namespace Go.Proofs.Ytokgolmioonbfaa
open Go.RowKit

theorem own_at {S : Nat → Prop} {w w' : World} {base n : Nat} {v : Value} {xs : List Value} (h : w.ownsRow base 5 1 v n xs) (hf : Fr S w w') (hs : ∀ k, v.ownBlock = some k → ¬ S k) : w'.ownsRow base 5 1 v n xs := by
  obtain ⟨h1, h2⟩ := h
  refine ⟨h1, ?_⟩
  rcases h2 with h2 | ⟨g, cap, cur, rfl, hg, hh, r⟩
  · exact Or.inl h2
  · exact Or.inr ⟨g, cap, cur, rfl, hg, hf.obj hh (hs g rfl), r⟩

/-- Both writers have the bits l, in rows apart; nothing old has turned. -/
structure WInv (w wr : World) (wb xb : Nat) (sv lv : Value) (l : List Bool) : Prop where
  a : WrSt wr wb sv l
  b : RwSt wr xb lv l
  dis : ∀ k, sv.ownBlock = some k → lv.ownBlock ≠ some k
  below : Below w.heap.size w wr

theorem WInv.same {w wr wn : World} {wb xb : Nat} {sv lv : Value} {l : List Bool} (h : WInv w wr wb xb sv lv l) (hf : Fr noB wr wn) : WInv w wn wb xb sv lv l :=
  ⟨⟨hf.obj h.a.1 id, own_at h.a.2 hf (fun _ _ hk => hk)⟩, ⟨hf.obj h.b.1 id, own_at h.b.2 hf (fun _ _ hk => hk)⟩, h.dis, h.below.trans (hf.below h.below.size (fun _ hk => hk.elim))⟩

theorem own5 {w : World} {base n : Nat} {v : Value} {xs : List Value} (h : w.ownsRow base 5 1 v n xs) (k : Nat) (hk : v.ownBlock = some k) : base ≤ k ∧ ∃ cur, w.heap[k]? = some (.cells cur 5 (0, 0)) := by
  obtain ⟨_, _, _, _, _, _, _, ho⟩ := own_slice h
  exact ho k hk

theorem WInv.one {w W W5 : World} {wb xb : Nat} {sv lv sv5 : Value} {l : List Bool} (h : WInv w W wb xb sv lv l) (hw : w.heap.size ≤ wb) (hx : wb < xb) (hs : WStep wb W sv W5 sv5) :
    RwSt W5 xb lv l ∧ (∀ k, sv5.ownBlock = some k → lv.ownBlock ≠ some k) ∧ Below w.heap.size w W5 := by
  refine ⟨⟨hs.fr.obj h.b.1 (fun hk => ?_), own_at h.b.2 hs.fr (fun k hk hp => ?_)⟩, ?_, h.below.trans (hs.fr.below h.below.size (fun k hk => ?_))⟩
  · rcases hk with hk | hk
    · omega
    · obtain ⟨_, cur, hc⟩ := own5 h.a.2 xb hk
      rw [h.b.1] at hc; simp at hc
  · rcases hp with hp | hp
    · have := (own5 h.b.2 k hk).1; omega
    · exact h.dis k hp hk
  · rcases hs.at' with e | e
    · rw [e]; exact h.dis
    · intro k hk hk2
      obtain ⟨_, cur, hc⟩ := own5 h.b.2 k hk2
      have := lt_of_block hc
      have := e k hk
      omega
  · rcases hk with hk | hk
    · omega
    · have := (own5 h.a.2 k hk).1; omega

theorem WInv.two {w W5 W6 : World} {wb xb : Nat} {sv lv lv6 : Value} {l l6 : List Bool} (ha : WrSt W5 wb sv l6) (hb : RwSt W5 xb lv l) (hd : ∀ k, sv.ownBlock = some k → lv.ownBlock ≠ some k) (hbl : Below w.heap.size w W5) (hw : w.heap.size ≤ wb) (hx : wb < xb)
    (h6 : RwSt W6 xb lv6 l6) (hs : WStep xb W5 lv W6 lv6) : WInv w W6 wb xb sv lv6 l6 := by
  refine ⟨⟨hs.fr.obj ha.1 (fun hk => ?_), own_at ha.2 hs.fr (fun k hk hp => ?_)⟩, h6, ?_, hbl.trans (hs.fr.below hbl.size (fun k hk => ?_))⟩
  · rcases hk with hk | hk
    · omega
    · have := (own5 hb.2 wb hk).1; omega
  · rcases hp with hp | hp
    · obtain ⟨_, cur, hc⟩ := own5 ha.2 k hk
      rw [show k = xb from hp, hb.1] at hc; simp at hc
    · exact hd k hk hp
  · intro k hk hk2
    rcases hs.at' with e | e
    · rw [e] at hk2; exact hd k hk hk2
    · obtain ⟨_, cur, hc⟩ := own5 ha.2 k hk
      have := lt_of_block hc
      have := e k hk2
      omega
  · rcases hk with hk | hk
    · omega
    · have := (own5 hb.2 k hk).1; omega

/-- An operation's own block stays through a step of either writer. -/
theorem ob_one {W W5 : World} {wb ob : Nat} {sv sv5 : Value} {n : Nat} {xs : List Value} {cs : Array Value} (ho : W.heap[ob]? = some (.cells cs 31 (0, 0))) (h1 : ob ≠ wb) (hown : W.ownsRow (wb + 1) 5 1 sv n xs) (hs : WStep wb W sv W5 sv5) : W5.heap[ob]? = some (.cells cs 31 (0, 0)) :=
  hs.fr.obj ho (fun hk => by
    rcases hk with hk | hk
    · exact h1 hk
    · obtain ⟨_, cur, hc⟩ := own5 hown ob hk
      rw [ho] at hc; simp at hc)

/-- What the first k operations may cost in bits. -/
def cost (X : List OpD) (k : Nat) : Nat := ((X.take k).map fun o => o.data.length + 1).sum
theorem cost_zero (X : List OpD) : cost X 0 = 0 := by simp [cost]
theorem cost_succ (X : List OpD) (k : Nat) (hk : k < X.length) : cost X (k + 1) = cost X k + (X[k].data.length + 1) := by
  unfold cost
  rw [List.take_succ_eq_append_getElem hk, List.map_append, List.sum_append]
  simp only [List.map_cons, List.map_nil, List.sum_cons, List.sum_nil, Nat.add_zero]
theorem cost_le (X : List OpD) (k : Nat) : cost X k ≤ (X.map fun o => o.data.length + 1).sum := by
  unfold cost
  have e : X.map (fun o => o.data.length + 1) = (X.take k).map (fun o => o.data.length + 1) ++ (X.drop k).map (fun o => o.data.length + 1) := by
    rw [← List.map_append, List.take_append_drop]
  rw [e, List.sum_append]
  omega
theorem alignB_le (l : List Bool) : (alignB l).length ≤ l.length + 7 := by rw [alignB_length]; omega
theorem Bs.old' {w wr : World} {v : Value} {B : List Nat} (h : Bs w v B) (hb : Below w.heap.size w wr) : Bs wr v B :=
  h.fr (Fr.ofBelow (S := noB) hb) (fun _ _ _ _ _ _ _ hk => hk.elim)
#print axioms WInv.two
end Go.Proofs.Ytokgolmioonbfaa
