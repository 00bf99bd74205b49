/- Signs of floats; the document's finite. -/
import Derived.Test.YtdmjbhbiehjelaaGreatDoorK13
import Derived.Test.YtdmjbhbiehjelaaGreatDoorNFl3
import Derived.Laws.NewFold
namespace Go.Proofs.YtdmjbhbiehjelaaGreatDoor
open Go.RowKit Ieee Go.Shelf

theorem run_sub_fin {x : Nat} (h : Fin x) (w : World) : (binOp .sub 22 (.float .f64 x) (.float .f64 x)).run Tryz.prog w = .ok (.float .f64 0) w := run_float_arith w .sub 22 .f64 x x 0 (sub_self h)
theorem nan_order (t : Nat) : double.order ((t % 2) * 2 ^ 63 + 0x7ff0000000000000 + 1 + (t / 2) % (2 ^ 52 - 1)) 0 = none := by
  have key : ∀ x : Nat, 9218868437227405312 < x % 9223372036854775808 → ∃ s u, double.read x = .nan s u := by
    intro x hx
    refine ⟨x / double.signWeight % 2 == 1, x % double.signWeight - double.infRung, ?_⟩
    unfold Format.read
    dsimp only
    rw [if_neg (show ¬ x % double.signWeight < double.binade by rw [binade_d, signWeight_d]; omega), if_neg (show ¬ x % double.signWeight < double.infRung by rw [infRung_d, signWeight_d]; omega), if_neg (show ¬ x % double.signWeight = double.infRung by rw [infRung_d, signWeight_d]; omega)]
  have h1 : t % 2 < 2 := Nat.mod_lt _ (by omega)
  have h2 : (t / 2) % (2 ^ 52 - 1) < 4503599627370495 := Nat.mod_lt _ (by omega)
  generalize t % 2 = a at *
  generalize (t / 2) % (2 ^ 52 - 1) = b at *
  obtain ⟨s, u, h⟩ := key (a * 2 ^ 63 + 0x7ff0000000000000 + 1 + b) (by omega)
  unfold Format.order
  rw [h]
  rfl
theorem run_sub_nan {x : Nat} (h : finB x = false) (w : World) : ∃ b, (binOp .sub 22 (.float .f64 x) (.float .f64 x)).run Tryz.prog w = .ok (.float .f64 b) w.drew ∧ double.order b 0 = none := by
  have hn : double.sub x x = none := sub_none h
  have hn' : FloatKind.f64.format.sub x x = none := hn
  refine ⟨_, ?_, nan_order (w.tape w.drawn (.nanBits .f64 x x))⟩
  simp [binOp, Op.floatArith, hn', Question.forced, Question.cut]
theorem order_zz : double.order 0 0 = some .eq := by decide
set_option maxRecDepth 100000 in
theorem rfinite_any (x : Nat) (w : World) : Calls Tryz.prog 85 #[.float .f64 x] w fun e w' => e = .returned (.bool (finB x)) ∧ ∃ m, w' = w.drewN m := by
  cases hf : finB x with
  | true =>
    have h1 := run_sub_fin (fin_of hf)
    have h2 : FloatKind.f64.format.order 0 0 = some .eq := order_zz
    go_enter Tryz.func85, Tryz.ntmps85
    go_wp2_with fail
    go_ret
    exact ⟨rfl, 0, rfl⟩
  | false =>
    obtain ⟨b, h1, h2⟩ := run_sub_nan hf w
    have h2' : FloatKind.f64.format.order b 0 = none := h2
    go_enter Tryz.func85, Tryz.ntmps85
    go_wp2_with fail
    go_ret
    exact ⟨rfl, 1, rfl⟩
theorem neg_word (x : Nat) (hx : x < 18446744073709551616) : Op.negFloat .f64 x % 9223372036854775808 = x % 9223372036854775808 ∧ Op.negFloat .f64 x / 9223372036854775808 = 1 - x / 9223372036854775808 := by
  have e : Op.negFloat .f64 x = x ^^^ 2 ^ 63 := rfl
  have hp : (9223372036854775808 : Nat) = 2 ^ 63 := rfl
  rw [e, hp, Nat.xor_mod_two_pow, Nat.xor_div_two_pow]
  refine ⟨by simp, ?_⟩
  have h1 : x / 2 ^ 63 = 0 ∨ x / 2 ^ 63 = 1 := by omega
  rcases h1 with h | h
  · rw [h]; decide
  · rw [h]; decide
theorem neg_lt (x : Nat) (hx : x < 18446744073709551616) : Op.negFloat .f64 x < 18446744073709551616 := by
  obtain ⟨h1, h2⟩ := neg_word x hx
  have := Nat.div_add_mod (Op.negFloat .f64 x) 9223372036854775808
  omega
theorem read_neg (x : Nat) (hx : x < 18446744073709551616) : double.read (Op.negFloat .f64 x) = (double.read x).opposite := by
  obtain ⟨h1, h2⟩ := neg_word x hx
  have hs : (Op.negFloat .f64 x / 9223372036854775808 % 2 == 1) = !(x / 9223372036854775808 % 2 == 1) := by
    rw [h2]
    have h1 : x / 9223372036854775808 = 0 ∨ x / 9223372036854775808 = 1 := by omega
    rcases h1 with h | h
    · rw [h]; rfl
    · rw [h]; rfl
  unfold Format.read
  dsimp only
  rw [signWeight_d, h1, hs]
  by_cases c1 : x % 9223372036854775808 < double.binade
  · rw [if_pos c1, if_pos c1]; rfl
  · rw [if_neg c1, if_neg c1]
    by_cases c2 : x % 9223372036854775808 < double.infRung
    · rw [if_pos c2, if_pos c2]; rfl
    · rw [if_neg c2, if_neg c2]
      by_cases c3 : x % 9223372036854775808 = double.infRung
      · rw [if_pos c3, if_pos c3]; rfl
      · rw [if_neg c3, if_neg c3]; rfl
theorem neg_V {x : Nat} (hx : x < 18446744073709551616) (hf : Fin x) : Fin (Op.negFloat .f64 x) ∧ V (Op.negFloat .f64 x) = -V x := by
  obtain ⟨s, m, i, hr⟩ := hf
  have h := read_neg x hx
  rw [hr] at h
  refine ⟨⟨_, _, _, h⟩, ?_⟩
  rw [V_number h, V_number hr]
  cases s <;> simp
theorem low_V {x : Nat} (h : x < 9223372036854775808) (hn : NoNaN x) : (Fin x ∧ 0 ≤ V x) ∨ double.read x = .infinity false := by
  have hs : (x / 9223372036854775808 % 2 == 1) = false := by rw [Nat.div_eq_of_lt h]; rfl
  rcases hn with hf | ⟨s, hi⟩
  · obtain ⟨s, m, i, hr⟩ := hf
    have hsf : s = false := by
      have h' := hr
      unfold Format.read at h'
      simp only [signWeight_d, hs] at h'
      split at h'
      · injection h' with e1 _ _; exact e1.symm
      · split at h'
        · injection h' with e1 _ _; exact e1.symm
        · split at h' <;> cases h'
    subst hsf
    left
    refine ⟨⟨_, _, _, hr⟩, ?_⟩
    rw [V_number hr]
    simp only [Bool.false_eq_true, if_false, Int.one_mul]
    exact Int.natCast_nonneg _
  · right
    unfold Format.read at hi ⊢
    simp only [signWeight_d, hs] at hi ⊢
    split at hi
    · cases hi
    · rename_i c1
      split at hi
      · cases hi
      · rename_i c2
        split at hi
        · rename_i c3
          rw [if_neg c1, if_neg c2, if_pos c3]
        · cases hi
/-- Below nought: by the sign. -/
theorem lt_zero (x : Nat) (hx : x < 18446744073709551616) (hf : Fin x) : (FloatKind.f64.format.order x 0 == some .lt) = decide (9223372036854775808 < x) := by
  have ho : FloatKind.f64.format.order x 0 = some (compare (V x) (V 0)) := order_V hf zero_fin
  rw [ho, zero_V]
  have hz := V_zero_iff hf
  have hc : (some (compare (V x) 0) == some Ordering.lt) = decide (V x < 0) := by
    rw [Bool.eq_iff_iff]
    simp [Int.compare_eq_lt]
  rw [hc]
  apply decide_eq_decide.2
  by_cases h : x < 9223372036854775808
  · rcases low_V h (Or.inl hf) with ⟨_, h2⟩ | h2
    · omega
    · obtain ⟨s, m, i, hr⟩ := hf
      rw [hr] at h2
      cases h2
  · obtain ⟨h1, h2⟩ := neg_word x hx
    obtain ⟨f1, v1⟩ := neg_V hx hf
    have hn : Op.negFloat .f64 x < 9223372036854775808 := by
      have := Nat.div_add_mod (Op.negFloat .f64 x) 9223372036854775808
      omega
    rcases low_V hn (Or.inl f1) with ⟨_, h3⟩ | h3
    · omega
    · obtain ⟨s, m, i, hr⟩ := f1
      rw [hr] at h3
      cases h3
theorem neg_high (x : Nat) (hx : x < 18446744073709551616) (h : 9223372036854775808 < x) : Op.negFloat .f64 x = x % 9223372036854775808 := by
  obtain ⟨h1, h2⟩ := neg_word x hx
  have := Nat.div_add_mod (Op.negFloat .f64 x) 9223372036854775808
  omega
#print axioms lt_zero
#print axioms rfinite_any
end Go.Proofs.YtdmjbhbiehjelaaGreatDoor
