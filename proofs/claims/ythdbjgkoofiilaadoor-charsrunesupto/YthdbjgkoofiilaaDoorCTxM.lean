/- Texts cut by characters: mathematics. -/
import Derived.Test.YthdbjgkoofiilaaDoorCAsc
namespace Go.Proofs.YthdbjgkoofiilaaDoor

/-- Where n characters end, or all of them. -/
def plL (z : Nat) : Nat → List (Nat × Nat × Nat) → Nat
  | _, [] => z
  | 0, x :: _ => x.1
  | n + 1, _ :: t => plL z n t
def placeF (s : ByteArray) (n : Int) : Nat := plL s.size n.toNat (runs s 0)
theorem plL_nil (z n : Nat) : plL z n [] = z := by cases n <;> rfl
theorem plL_step (s : ByteArray) (n p : Nat) (h : p < s.size) : plL s.size (n + 1) (runs s p) = plL s.size n (runs s (p + (Utf8.decode s p).2)) := by
  rw [runs_step s p h]; rfl
theorem plL_zero (s : ByteArray) (p : Nat) (h : p ≤ s.size) : plL s.size 0 (runs s p) = p := by
  by_cases hp : p < s.size
  · rw [runs_step s p hp]; rfl
  · rw [runs_end s p hp, plL_nil]; omega
theorem plL_le (s : ByteArray) (n : Nat) : ∀ p, p ≤ s.size → p ≤ plL s.size n (runs s p) ∧ plL s.size n (runs s p) ≤ s.size := by
  induction n with
  | zero => intro p h; rw [plL_zero s p h]; exact ⟨Nat.le_refl _, h⟩
  | succ n ih =>
    intro p h
    by_cases hp : p < s.size
    · rw [plL_step s n p hp]
      have := width_pos s p hp
      have := width_fits s p hp
      have := ih (p + (Utf8.decode s p).2) (by omega)
      omega
    · rw [runs_end s p hp, plL_nil]; omega
theorem runs_drop (s : ByteArray) (n : Nat) : ∀ p, p ≤ s.size → (runs s p).drop n = runs s (plL s.size n (runs s p)) := by
  induction n with
  | zero => intro p h; rw [plL_zero s p h]; rfl
  | succ n ih =>
    intro p h
    by_cases hp : p < s.size
    · rw [plL_step s n p hp, ← ih (p + (Utf8.decode s p).2) (width_fits s p hp)]
      conv => lhs; rw [runs_step s p hp]
      rfl
    · rw [runs_end s p hp, plL_nil, runs_end s s.size (by omega)]
      rfl
theorem plL_all (z n : Nat) (l : List (Nat × Nat × Nat)) (h : l.length ≤ n) : plL z n l = z := by
  induction l generalizing n with
  | nil => exact plL_nil z n
  | cons x t ih =>
    cases n with
    | zero => simp at h
    | succ n => exact ih n (by simpa using h)
theorem plL_add (z : Nat) (m : Nat) : ∀ (n : Nat) (l : List (Nat × Nat × Nat)), plL z (n + m) l = plL z m (l.drop n) := by
  intro n
  induction n with
  | zero => intro l; rw [Nat.zero_add]; rfl
  | succ n ih =>
    intro l
    cases l with
    | nil => rw [plL_nil, List.drop_nil, plL_nil]
    | cons x t => rw [show n + 1 + m = (n + m) + 1 by omega, List.drop_succ_cons, ← ih]; rfl

theorem tail_size (s : ByteArray) (a : Nat) : (s.extract a s.size).size = s.size - a := by simp
theorem tail_get (s : ByteArray) (a i : Nat) : (s.extract a s.size).get! i = s.get! (a + i) := by
  by_cases h : a + i < s.size
  · exact ext_get s a s.size i (Nat.le_refl _) h
  · have h1 : (s.extract a s.size).get! i = default := by
      show (s.extract a s.size).data[i]! = _
      exact getElem!_neg _ _ (show ¬ i < (s.extract a s.size).size by rw [tail_size]; omega)
    have h2 : s.get! (a + i) = default := by
      show s.data[a + i]! = _
      exact getElem!_neg _ _ (show ¬ a + i < s.size from h)
    rw [h1, h2]
theorem tail_decode (s : ByteArray) (a p : Nat) : Utf8.decode (s.extract a s.size) p = Utf8.decode s (a + p) := by
  rw [Lib.decode_at, Lib.decode_at, tail_size, tail_get, tail_get, tail_get, tail_get]
  rw [show s.size - a - p = s.size - (a + p) by omega, show a + (p + 1) = a + p + 1 by omega, show a + (p + 2) = a + p + 2 by omega, show a + (p + 3) = a + p + 3 by omega]
theorem tail_runs (s : ByteArray) (a : Nat) : ∀ (n p : Nat), s.size - (a + p) ≤ n → runs s (a + p) = (runs (s.extract a s.size) p).map fun x => (a + x.1, x.2) := by
  intro n
  induction n with
  | zero =>
    intro p h
    rw [runs_end s _ (by omega), runs_end _ p (by rw [tail_size]; omega)]
    rfl
  | succ n ih =>
    intro p h
    by_cases hp : a + p < s.size
    · have hw := width_pos s _ hp
      rw [runs_step s _ hp, runs_step _ p (by rw [tail_size]; omega), tail_decode, List.map_cons, ← ih (p + (Utf8.decode s (a + p)).2) (by omega), Nat.add_assoc]
    · rw [runs_end s _ hp, runs_end _ p (by rw [tail_size]; omega)]
      rfl
theorem plL_map (a z : Nat) : ∀ (n : Nat) (l : List (Nat × Nat × Nat)), plL (a + z) n (l.map fun x => (a + x.1, x.2)) = a + plL z n l := by
  intro n l
  induction l generalizing n with
  | nil => rw [List.map_nil, plL_nil, plL_nil]
  | cons x t ih =>
    cases n with
    | zero => rfl
    | succ n => exact ih n
theorem tail_place (s : ByteArray) (a n : Nat) (ha : a ≤ s.size) : a + plL (s.extract a s.size).size n (runs (s.extract a s.size) 0) = plL s.size n (runs s a) := by
  have h := tail_runs s a s.size 0 (by omega)
  rw [Nat.add_zero] at h
  rw [h, ← plL_map, tail_size, show a + (s.size - a) = s.size by omega]

theorem head_size (s : ByteArray) (b : Nat) (h : b ≤ s.size) : (s.extract 0 b).size = b := by simp; omega
set_option maxRecDepth 100000 in
set_option maxHeartbeats 4000000 in
theorem head_decN (n n' b0 b1 b2 b3 c1 c2 c3 : Nat) (h0 : 0 < n') (hn : n' ≤ n) (h1 : 1 < n' → c1 = b1) (h2 : 2 < n' → c2 = b2) (h3 : 3 < n' → c3 = b3) (hw : (Lib.decodeN n b0 b1 b2 b3).2 ≤ n') :
    Lib.decodeN n' b0 c1 c2 c3 = Lib.decodeN n b0 b1 b2 b3 := by
  by_cases e1 : 1 < n'
  · rw [h1 e1]
    by_cases e2 : 2 < n'
    · rw [h2 e2]
      by_cases e3 : 3 < n'
      · rw [h3 e3]
        have g1 : (1 < n') = (1 < n) := propext ⟨fun _ => by omega, fun _ => e1⟩
        have g2 : (2 < n') = (2 < n) := propext ⟨fun _ => by omega, fun _ => e2⟩
        have g3 : (3 < n') = (3 < n) := propext ⟨fun _ => by omega, fun _ => e3⟩
        unfold Lib.decodeN
        simp only [g1, g2, g3]
      · have : n' = 3 := by omega
        subst this
        obtain ⟨R, hR⟩ : ∃ R, Lib.decodeN n b0 b1 b2 b3 = R := ⟨_, rfl⟩
        rw [hR] at hw ⊢
        unfold Lib.decodeN at hR ⊢
        repeat' split at hR
        all_goals (subst hR; simp only at hw)
        all_goals (repeat' split)
        all_goals first | rfl | (exfalso; omega)
    · have : n' = 2 := by omega
      subst this
      obtain ⟨R, hR⟩ : ∃ R, Lib.decodeN n b0 b1 b2 b3 = R := ⟨_, rfl⟩
      rw [hR] at hw ⊢
      unfold Lib.decodeN at hR ⊢
      repeat' split at hR
      all_goals (subst hR; simp only at hw)
      all_goals (repeat' split)
      all_goals first | rfl | (exfalso; omega)
  · have : n' = 1 := by omega
    subst this
    obtain ⟨R, hR⟩ : ∃ R, Lib.decodeN n b0 b1 b2 b3 = R := ⟨_, rfl⟩
    rw [hR] at hw ⊢
    unfold Lib.decodeN at hR ⊢
    repeat' split at hR
    all_goals (subst hR; simp only at hw)
    all_goals (repeat' split)
    all_goals first | rfl | (exfalso; omega)
theorem head_decode (s : ByteArray) (b p : Nat) (hb : b ≤ s.size) (hw : p + (Utf8.decode s p).2 ≤ b) (hp : p < b) : Utf8.decode (s.extract 0 b) p = Utf8.decode s p := by
  have hg : ∀ i, p + i < b → (s.extract 0 b).get! (p + i) = s.get! (p + i) := fun i hi => by rw [ext_get s 0 b (p + i) hb (by omega), Nat.zero_add]
  rw [Lib.decode_at] at hw ⊢
  rw [Lib.decode_at, head_size s b hb, show (s.extract 0 b).get! p = s.get! p from hg 0 (by omega)]
  exact head_decN _ _ _ _ _ _ _ _ _ (by omega) (by omega) (fun h => by rw [hg 1 (by omega)]) (fun h => by rw [hg 2 (by omega)]) (fun h => by rw [hg 3 (by omega)]) (by omega)
theorem head_runs (s : ByteArray) (n : Nat) : ∀ p, p ≤ s.size → runs (s.extract 0 (plL s.size n (runs s p))) p = (runs s p).take n := by
  induction n with
  | zero =>
    intro p h
    rw [plL_zero s p h, runs_end _ p (by rw [head_size s p h]; omega)]
    rfl
  | succ n ih =>
    intro p h
    by_cases hp : p < s.size
    · have hw := width_pos s p hp
      have hf := width_fits s p hp
      obtain ⟨l1, l2⟩ := plL_le s n (p + (Utf8.decode s p).2) hf
      rw [plL_step s n p hp]
      have ih2 := ih (p + (Utf8.decode s p).2) hf
      generalize plL s.size n (runs s (p + (Utf8.decode s p).2)) = P at *
      rw [runs_step _ p (by rw [head_size s P l2]; omega), head_decode s P p l2 l1 (by omega), ih2]
      conv => rhs; rw [runs_step s p hp]
      rfl
    · rw [runs_end s p hp, plL_nil, runs_end _ p (by rw [head_size s _ (Nat.le_refl _)]; exact hp)]
      rfl
#print axioms head_runs
end Go.Proofs.YthdbjgkoofiilaaDoor
