/- A region that draws its order, where what is held of the world need be held only until given operations have come up. No Go text here. -/
import Derived.Deep.RegionHeld
import Derived.RegionTactic
import Derived.Laws.Tables
namespace Go.Proofs.YtjdgpnhinjahjaaGreatDoor
open Go

section
variable {P : Program} {md : Region.Mode} {ops : Array Oper} {Q : Exit → Act → World → Prop} {S0 : World → Prop} {G : Array Bool → Bool}

/-- Whatever order is picked from here on; S0 holds behind each operation, as long as G says that it is wanted. -/
def AnyU (P : Program) (md : Region.Mode) (ops : Array Oper) (Q : Exit → Act → World → Prop) (S0 : World → Prop) (G : Array Bool → Bool) : Nat → Array Bool → Act → World → Prop
  | 0, L, a, w => Region.ready md ops L = [] ∧ Q .normal a w
  | f + 1, L, a, w => (Region.ready md ops L = [] → Q .normal a w) ∧
    ∀ i ∈ Region.ready md ops L, wpOp P ops Q i (fun a' w' => (G (L.setIfInBounds i true) = true → S0 w') ∧ AnyU P md ops Q S0 G f (L.setIfInBounds i true) a' w') a w
theorem any_of_U : ∀ (f : Nat) (L : Array Bool) (a : Act) (w : World), AnyU P md ops Q S0 G f L a w → wpAny P md ops Q f L a w
  | 0, _, _, _, h => h
  | f + 1, _, _, _, h => ⟨h.1, fun i hi => wpOp_mono (fun a' w' h' => any_of_U f _ a' w' h'.2) (h.2 i hi)⟩
/-- An operation that yields wherever S0 holds, and for which c waits, may be taken first while c has not come up. -/
theorem AnyU.first {i c : Nat} {oi oc : Oper} {v : Value} (hi : ops[i]? = some oi) (hc : ops[c]? = some oc) (hce : ∃ e ∈ oc.after, Region.binds md e = true ∧ e.on = i)
    (hG : ∀ L : Array Bool, L.getD c true = false → G L = true) (hsel : ∀ (j : Nat) (o : Oper) cs b, ops[j]? = some o → o.op ≠ .select cs b)
    (hQ : ∀ c a w, Q (.panic c) (a.put oi.dst v) w → Q (.panic c) a w) :
    ∀ (f : Nat) (L : Array Bool) (a : Act) (w : World),
      (∀ j oj, ops[j]? = some oj → j ≠ i → L.getD j true = false → (∀ e ∈ oj.after, Region.binds md e = true → e.on ≠ i) → oi.apart ops oj = true) →
      i ∈ Region.ready md ops L → L.getD c true = false → YieldsIf P ops S0 oi v a → S0 w →
      AnyU P md ops Q S0 G f (L.setIfInBounds i true) (a.put oi.dst v) w → AnyU P md ops Q S0 G (f + 1) L a w := by
  intro f
  induction f with
  | zero =>
    intro L a w _ hr _ hy hS H
    refine ⟨fun h => (by rw [h] at hr; cases hr), fun j hj => ?_⟩
    by_cases hji : j = i
    · subst hji
      exact hy.wpOp hi hS ⟨fun _ => hS, H⟩
    · have := ready_mono hj hji
      rw [H.1] at this
      cases this
  | succ f ih =>
    intro L a w hfree hr hcl hy hS H
    refine ⟨fun h => (by rw [h] at hr; cases hr), fun j hj => ?_⟩
    by_cases hji : j = i
    · subst hji
      exact hy.wpOp hi hS ⟨fun _ => hS, H⟩
    have h1 := H.2 j (ready_mono hj hji)
    obtain ⟨hjun, oj, hoj, hall⟩ := mem_ready.1 hj
    have hiun := (mem_ready.1 hr).1
    have hnot : ∀ e ∈ oj.after, Region.binds md e = true → e.on ≠ i := by
      intro e he hb heq
      have h3 := hall e he hb
      rw [heq] at h3
      rcases Nat.lt_or_ge i L.size with h' | h'
      · simp [h'] at h3 hiun
        rw [hiun] at h3
        cases h3
      · simp [Array.getElem?_eq_none h'] at h3
    have hjc : j ≠ c := by
      rintro rfl
      rw [hoj] at hc
      cases hc
      obtain ⟨e, he, hb, hon⟩ := hce
      exact hnot e he hb hon
    have hic : i ≠ c := by
      rintro rfl
      rw [hi] at hc
      cases hc
      obtain ⟨e, he, hb, hon⟩ := hce
      obtain ⟨_, o', ho', hall'⟩ := mem_ready.1 hr
      rw [hi] at ho'
      cases ho'
      have h3 := hall' e he hb
      rw [hon] at h3
      rcases Nat.lt_or_ge i L.size with h' | h'
      · simp [h'] at h3 hiun
        rw [hiun] at h3
        cases h3
      · simp [Array.getElem?_eq_none h'] at h3
    have h2 := wpOp_putIf hoj (hfree j oj hoj hji hjun hnot) (fun cs b => hsel i oi cs b hi) (fun cs b => hsel j oj cs b hoj) hQ hy h1
    have hfree' : ∀ k ok, ops[k]? = some ok → k ≠ i → (L.setIfInBounds j true).getD k true = false → (∀ e ∈ ok.after, Region.binds md e = true → e.on ≠ i) → oi.apart ops ok = true := by
      intro k ok hk hki hun hno
      refine hfree k ok hk hki ?_ hno
      by_cases hjk : j = k
      · subst hjk
        exact hjun
      · rw [getD_set_ne true hjk] at hun
        exact hun
    have hcl2 : (L.setIfInBounds j true).getD c true = false := by rw [getD_set_ne true hjc]; exact hcl
    refine wpOp_mono (fun a' w' h3 => ?_) h2
    have hS' : S0 w' := h3.2.1 (hG _ (by rw [getD_set_ne true hjc, getD_set_ne true hic]; exact hcl))
    refine ⟨fun _ => hS', ih (L.setIfInBounds j true) a' w' hfree' (ready_mono hr (Ne.symm hji)) hcl2 h3.1 hS' ?_⟩
    rw [Array.setIfInBounds_comm _ _ hji]
    exact h3.2.2
theorem AnyU.take {i : Nat} (c : Nat) {oi oc : Oper} {v : Value} {f : Nat} {L : Array Bool} {a : Act} {w : World} (hi : ops[i]? = some oi) (hc : ops[c]? = some oc) (hce : (oc.after.toList.any fun e => Region.binds md e && (e.on == i)) = true)
    (hG : ∀ L : Array Bool, L.getD c true = false → G L = true) (hs : Region.noSelect ops = true) (hf : Region.free md ops L i = true) (hr : (Region.ready md ops L).contains i = true) (hcl : L.getD c true = false)
    (hQ : ∀ c a w, Q (.panic c) (a.put oi.dst v) w → Q (.panic c) a w) (hy : YieldsIf P ops S0 oi v a) (hS : S0 w)
    (h : AnyU P md ops Q S0 G f (L.setIfInBounds i true) (a.put oi.dst v) w) : AnyU P md ops Q S0 G (f + 1) L a w :=
  AnyU.first hi hc (by
    obtain ⟨e, he, hb⟩ := List.any_eq_true.1 hce
    simp only [Bool.and_eq_true, beq_iff_eq] at hb
    exact ⟨e, by simpa using he, hb.1, hb.2⟩) hG (Region.noSelect_spec hs) hQ f L a w (Region.free_spec hi hf) (by simpa using hr) hcl hy hS h
/-- One operation alone may come up. -/
theorem AnyU.one {i : Nat} {o : Oper} {f : Nat} {L : Array Bool} {a : Act} {w : World} (hr : Region.ready md ops L = [i]) (ho : ops[i]? = some o)
    (h : ∀ K' : Act → World → Prop, (∀ a' w', (G (L.setIfInBounds i true) = true → S0 w') → AnyU P md ops Q S0 G f (L.setIfInBounds i true) a' w' → K' a' w') → if Region.wanted o (yielded ops a.tmps) = true then Oper.wp P o a w K' Q else K' (a.put o.dst undef) w) :
    AnyU P md ops Q S0 G (f + 1) L a w :=
  ⟨fun h0 => (by rw [hr] at h0; cases h0), fun j hj => by
    rw [hr] at hj
    obtain rfl : j = i := by simpa using hj
    exact wpOp_step ho (fun K' hK => h K' (fun a' w' h1 h2 => hK a' w' ⟨h1, h2⟩))⟩
theorem AnyU.done {L : Array Bool} {a : Act} {w : World} (hr : Region.ready md ops L = []) (h : Q .normal a w) : ∀ f, AnyU P md ops Q S0 G f L a w
  | 0 => ⟨hr, h⟩
  | _ + 1 => ⟨fun _ => h, by rw [hr]; simp⟩
theorem AnyU.begin {id : Nat} {a : Act} {w : World} (hm : P.follows .mixedOrders = true) (h : AnyU P .any ops Q S0 G ops.size (Array.replicate ops.size false) a w.drew) : (Code.region id ops true).wp P Q a w :=
  wp_region_any hm (any_of_U _ _ _ _ h)
theorem AnyU.to {f : Nat} {L : Array Bool} {a : Act} {w : World} (b : Act) (e : a = b) (h : AnyU P md ops Q S0 G f L b w) : AnyU P md ops Q S0 G f L a w := by
  rw [e]
  exact h
end
#print axioms AnyU.take
#print axioms AnyU.one
#print axioms AnyU.begin
end Go.Proofs.YtjdgpnhinjahjaaGreatDoor
