/- CharsBack: the law's walk. -/
import Derived.Test.YtpefadblmgcpcaaDoorCBak
import Derived.Test.YtpefadblmgcpcaaDoorCDec
import Derived.Test.YtpefadblmgcpcaaDoorCLiv
namespace Go.Proofs.YtpefadblmgcpcaaDoor
open Go.RowKit Go.Shelf

theorem gEsc_len (s : ByteArray) (attr : Bool) (j : Nat) : (gEsc s attr j).length ≤ 6 := by
  unfold gEsc
  cases h : escT (s.get! j).toNat attr with
  | none => simp
  | some t => have := (escT_low _ _ _ h).2; simpa using this
theorem fromB_len (s : ByteArray) (g : Nat → List UInt8) (h : ∀ j, (g j).length ≤ 6) : ∀ (n i : Nat), s.size - i ≤ n → (fromB s g i).length ≤ 6 * (s.size - i) := by
  intro n
  induction n with
  | zero => intro i hi; rw [fromB_end s g i (by omega)]; simp
  | succ n ih =>
    intro i hi
    by_cases hp : i < s.size
    · rw [fromB_step s g i hp, List.length_append]
      have := h i
      have := ih (i + 1) (by omega)
      omega
    · rw [fromB_end s g i hp]; simp
/-- What can stand in a text, and in an attribute's value. -/
def mayB (attr : Bool) (x : UInt8) : Prop := x.toNat ≠ 60 ∧ x.toNat ≠ 62 ∧ (attr = true → x.toNat ≠ 34 ∧ 32 ≤ x.toNat)
theorem may_byte (s : ByteArray) (attr : Bool) (hv : (validF s).2 = true) (j : Nat) (hj : j < s.size) : ∀ x ∈ gEsc s attr j, mayB attr x := by
  intro x hx
  unfold gEsc at hx
  cases h : escT (s.get! j).toNat attr with
  | none =>
    rw [h] at hx
    simp at hx
    subst hx
    unfold escT at h
    have hc : (s.get! j).toNat < 128 → charF ((s.get! j).toNat : Int) = true := by
      intro ha
      have hm := ascii_run s j hj ha s.size 0 (by omega) (Nat.zero_le _)
      have : ∀ l : List (Nat × Nat × Nat), (validL l).2 = true → ∀ x ∈ l, okR x.2.1 x.2.2 = true := by
        intro l
        induction l with
        | nil => intro _ x hx; cases hx
        | cons y t ih =>
          intro h2 x hx
          simp only [validL] at h2
          split at h2
          · rename_i e
            rcases List.mem_cons.1 hx with rfl | hx
            · exact e
            · exact ih h2 x hx
          · cases h2
      have h3 := this _ hv _ hm
      unfold okR at h3
      simp only [Bool.and_eq_true] at h3
      exact h3.1
    unfold mayB
    generalize (s.get! j).toNat = b at *
    have hc2 : b < 32 → b = 9 ∨ b = 10 ∨ b = 13 := by
      intro hb
      have := hc (by omega)
      unfold charF btw at this
      simp at this
      omega
    repeat' split at h
    all_goals first | (cases h; done) | skip
    rename_i n1 n2 n3 n4 n5 n6 n7
    refine ⟨n2, n3, fun ha => ⟨fun e => n5 ⟨ha, e⟩, ?_⟩⟩
    rcases Nat.lt_or_ge b 32 with hb | hb
    · rcases hc2 hb with e | e | e
      · exact absurd ⟨ha, e⟩ n6
      · exact absurd ⟨ha, e⟩ n7
      · exact absurd e n4
    · exact hb
  | some t =>
    rw [h] at hx
    obtain ⟨ins, ht, hins, _, _⟩ := escT_says _ _ _ h
    simp only at hx
    rw [ht] at hx
    rcases List.mem_cons.1 hx with rfl | hx
    · exact ⟨by decide, by decide, fun _ => by decide⟩
    rcases List.mem_append.1 hx with hx | hx
    · have := hins x hx
      exact ⟨this.2.2.2.2.1, this.2.2.2.2.2.1, fun _ => ⟨this.2.2.2.2.2.2, this.2.2.1⟩⟩
    · simp at hx
      subst hx
      exact ⟨by decide, by decide, fun _ => by decide⟩
theorem may_all (s : ByteArray) (attr : Bool) (hv : (validF s).2 = true) : ∀ x ∈ fromB s (gEsc s attr) 0, mayB attr x := by
  intro x hx
  unfold fromB at hx
  rw [List.mem_flatMap] at hx
  obtain ⟨k, hk, hx⟩ := hx
  rw [List.mem_range] at hk
  exact may_byte s attr hv (0 + k) (by omega) x hx
set_option maxRecDepth 100000 in
set_option maxHeartbeats 1000000 in
theorem back_walk (s : ByteArray) (attr : Bool) (w : World) (hs : s.size ≤ 1048576) (hT : Tabs w) :
    Calls Tryd.prog 5 #[.string s, .bool attr] w fun e w' => e = .returned (.bool true) ∧ Below w.heap.size w w' := by
  have H0 := live_true
  have H1 := fun w => escape_any s attr w hs
  have H2 := fun w h => rvalid_any s w hs h
  have HT : Hid (Tabs w) := hT
  clear hT
  have hE := back_F s attr
  have hM := may_all s attr
  have hL := fromB_len s (gEsc s attr) (gEsc_len s attr) s.size 0 (by omega)
  unfold escF at H1
  obtain ⟨⟨va, vo⟩, hv⟩ : ∃ d, validF s = d := ⟨_, rfl⟩
  rw [hv] at H1 H2 hE hM
  simp only at H1 H2 hE hM
  clear hv
  cases vo with
  | false =>
    clear hE hM hL
    go_enter Tryd.func5, Tryd.ntmps5
    go_wp2_with (first
      | (go_at_call 15; with_reducible refine (H1 _).mono ?_; rintro e w1 ⟨rfl, hF1⟩)
      | (go_at_call 9; with_reducible refine (H2 _ (HT.out.keep hF1)).mono ?_; rintro e w2 ⟨rfl, hF2⟩)
      | (go_at_call 12; with_reducible refine (H0 _).mono ?_; rintro e w3 ⟨rfl, hF3⟩))
    go_ret
    exact ⟨rfl, ((hF1.trans hF2).trans hF3).below (Nat.le_refl _) (fun _ h => h.elim)⟩
  | true =>
    have hE2 := hE rfl
    have hM2 := hM rfl
    obtain ⟨E, hEE⟩ : ∃ E : ByteArray, E = ⟨(fromB s (gEsc s attr) 0).toArray⟩ := ⟨_, rfl⟩
    have hEz : E.size ≤ 6291456 := by rw [hEE]; show (fromB s (gEsc s attr) 0).toArray.size ≤ _; simp; omega
    have HB : Hid (∀ i (h : i < E.size), mayB attr E[i]) := by
      intro i h
      subst hEE
      exact hM2 _ (List.mem_toArray.1 (Array.getElem_mem (xs := (fromB s (gEsc s attr) 0).toArray) h))
    have H3 := fun w => unescape_any E w (by omega)
    rw [← hEE] at hE2 H1
    rw [hE2] at H3
    simp only at H3
    rw [show (⟨s.data.toList.toArray⟩ : ByteArray) = s by obtain ⟨⟨l⟩⟩ := s; rfl] at H3
    clear hE hM hL hE2 hM2 hEE H2
    go_enter Tryd.func5, Tryd.ntmps5
    go_wp2_with (first
      | (go_at_call 15; with_reducible refine (H1 _).mono ?_; rintro e w1 ⟨rfl, hF1⟩)
      | (go_at_call 17; with_reducible refine (H3 _).mono ?_; rintro e w2 ⟨rfl, hF2⟩))
    have hF12 := hF1.trans hF2
    clear H1 H3 hF1 hF2
    go_loop [39] (fun iv => ∃ k : Nat, k ≤ E.size ∧ iv = .int .i64 (k : Int)) (fun iv => E.size - (intOf iv).toNat)
    case atStart => exact ⟨0, Nat.zero_le _, rfl⟩
    case round =>
      obtain ⟨k, hk, rfl⟩ := hrel
      by_cases hlt : k < E.size
      · obtain ⟨m1, m2, m3⟩ := HB.out k hlt
        have m1z : ¬ ((E[k].toNat : Nat) : Int) = 60 := by omega
        have m2z : ¬ ((E[k].toNat : Nat) : Int) = 62 := by omega
        have b1 : (((E[k].toNat : Nat) : Int) == 60) = false := by simpa using m1z
        have b2 : (((E[k].toNat : Nat) : Int) == 62) = false := by simpa using m2z
        cases attr with
        | false =>
          clear m1 m2 m3
          go_wp2
          go_round
          case rel => exact ⟨k + 1, by omega, by go_num⟩
          case measure => simp [intOf]; omega
        | true =>
          obtain ⟨m4, m5⟩ := m3 rfl
          have m4z : ¬ ((E[k].toNat : Nat) : Int) = 34 := by omega
          have m5z : ¬ ((E[k].toNat : Nat) : Int) < 32 := by omega
          have b4 : (((E[k].toNat : Nat) : Int) == 34) = false := by simpa using m4z
          have b5 : decide (((E[k].toNat : Nat) : Int) < 32) = false := decide_eq_false m5z
          clear m1 m2 m3 m4 m5
          go_wp2
          go_round
          case rel => exact ⟨k + 1, by omega, by go_num⟩
          case measure => simp [intOf]; omega
      · go_wp2_with (go_at_call 12; with_reducible refine (H0 _).mono ?_; rintro e w3 ⟨rfl, hF3⟩)
        go_ret
        exact ⟨rfl, (hF12.trans hF3).below (Nat.le_refl _) (fun _ h => h.elim)⟩
#print axioms back_walk
end Go.Proofs.YtpefadblmgcpcaaDoor
