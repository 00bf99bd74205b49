/- Column and ParseColumn: the document's contracts. -/
import Derived.Test.YtiokbpknaldbaaaDoorRLiv
import Derived.Laws.BytesString
import Derived.Laws.IdiomStrings
namespace Go.Proofs.YtiokbpknaldbaaaDoor
open Go.RowKit Go.Shelf

set_option maxRecDepth 100000 in
set_option maxHeartbeats 2000000 in
theorem rparseCol_any (s : ByteArray) (w : World) : Calls Tryd.prog 37 #[.string s] w fun e w' => e = .returned (colV (colF s)) ∧ w' = w := by
  by_cases h0 : s.size = 0
  · rw [colF_nil s h0]
    have h1 : (s.size : Int) < 1 := by omega
    clear h0
    go_enter Tryd.func37, Tryd.ntmps37
    go_wp2_with fail
    go_ret2
    exact ⟨rfl, rfl⟩
  by_cases h4 : 4 ≤ s.size
  · rw [colF_long s h4]
    have h1 : ¬ (s.size : Int) < 1 := by omega
    have h2 : (3 : Int) < (s.size : Int) := by omega
    clear h0 h4
    go_enter Tryd.func37, Tryd.ntmps37
    go_wp2_with fail
    go_ret2
    exact ⟨rfl, rfl⟩
  rw [colF_short s (by omega)]
  have h1 : ¬ (s.size : Int) < 1 := by omega
  have h2 : ¬ (3 : Int) < (s.size : Int) := by omega
  have h3 : s.size ≤ 3 := by omega
  obtain ⟨R, hR⟩ : ∃ R, colB s s.size 0 0 = R := ⟨_, rfl⟩
  have HR : Hid (colB s s.size 0 0 = R) := hR
  rw [hR]
  clear h0 h4 hR
  go_enter Tryd.func37, Tryd.ntmps37
  go_wp2_with fail
  go_loop [4, 5] (fun nv iv => ∃ (p a : Nat), nv = .int .i64 (a : Int) ∧ iv = .int .i64 (p : Int) ∧ p ≤ s.size ∧ ((p = 0 ∧ a = 0) ∨ (p = 1 ∧ 1 ≤ a ∧ a ≤ 26) ∨ (p = 2 ∧ 1 ≤ a ∧ a ≤ 702) ∨ (p = 3 ∧ 1 ≤ a ∧ a ≤ 18278)) ∧ Hid (colB s (s.size - p) p a = R)) (fun _ iv => s.size - (intOf iv).toNat)
  case atStart => exact ⟨0, 0, rfl, rfl, Nat.zero_le _, Or.inl ⟨rfl, rfl⟩, HR⟩
  case round =>
    obtain ⟨p, a, rfl, rfl, hp, ha, HC⟩ := hrel
    have hab : a ≤ 18278 := by omega
    by_cases hlt : p < s.size
    · obtain ⟨f, hf⟩ : ∃ f, s.size - p = f + 1 := ⟨s.size - p - 1, by omega⟩
      have hb := byt_at s p hlt
      have HC2 := HC.out
      rw [hf, colB] at HC2
      have hf2 : s.size - (p + 1) = f := by omega
      have hbl := byt_lt s p
      obtain ⟨b, hbb⟩ : ∃ b, byt s p = b := ⟨_, rfl⟩
      rw [hbb] at hb HC2 hbl
      have hx : ∀ hh, (s[p]'hh).toNat = b := fun _ => hb
      cases hc : capK b with
      | false =>
        rw [hc] at HC2
        have HV : Hid (R = none) := HC2.symm
        have hcd : (b : Int) < 65 ∨ (¬ (b : Int) < 65 ∧ (90 : Int) < (b : Int)) := by
          have : ¬ (65 ≤ b ∧ b ≤ 90) := fun h => by simp [capK] at hc; omega
          omega
        clear HC HC2 hf hf2 hb hbb hc ha hab
        rcases hcd with hcd | ⟨hcd, hce⟩
        all_goals
          go_wp2_with fail
          go_ret2
          rw [HV.out]
          exact ⟨rfl, rfl⟩
      | true =>
        have hbd := capK_bd hc
        simp only [hc, if_true] at HC2
        obtain ⟨z, hz⟩ : ∃ z, 26 * a + (b - 65) + 1 = z := ⟨_, rfl⟩
        rw [hz] at HC2
        have HV : Hid (colB s (s.size - (p + 1)) (p + 1) z = R) := by rw [hf2]; exact HC2
        have g1 : ¬ (b : Int) < 65 := by omega
        have g2 : ¬ (90 : Int) < (b : Int) := by omega
        have g3 : (65 : Int) ≤ (b : Int) := by omega
        have hz1 : (26 : Int) * (a : Int) + ((b : Int) - 65) + 1 = (z : Int) := by omega
        have hz2 : (p = 0 ∧ 1 ≤ z ∧ z ≤ 26) ∨ (p = 1 ∧ 1 ≤ z ∧ z ≤ 702) ∨ (p = 2 ∧ 1 ≤ z ∧ z ≤ 18278) := by omega
        have HZ : Hid _ := hz2
        have hzb : (z : Int) ≤ 18278 := by omega
        clear HC HC2 hf hf2 hb hbb hc ha hz2 hz
        go_wp2_with fail
        go_round
        case rel => exact ⟨p + 1, z, rfl, by go_num, by omega, by have := HZ.out; omega, HV⟩
        case measure => simp [intOf]; omega
    · have HC2 := HC.out
      rw [show s.size - p = 0 by omega, colB] at HC2
      have ha1 : 1 ≤ a ∨ a = 0 := by omega
      by_cases hb : 1024 < a
      · rw [if_pos hb] at HC2
        have HV : Hid (R = none) := HC2.symm
        have g1 : (1024 : Int) < (a : Int) := by omega
        clear HC HC2 ha ha1 hb
        go_wp2_with fail
        go_ret2
        rw [HV.out]
        exact ⟨rfl, rfl⟩
      · rw [if_neg hb] at HC2
        have hsz : 1 ≤ a := by omega
        obtain ⟨k, rfl⟩ : ∃ k, a = k + 1 := ⟨a - 1, by omega⟩
        have HV : Hid (R = some k) := HC2.symm
        have g1 : ¬ (1024 : Int) < (k : Int) + 1 := by omega
        have g2 : ((k : Int) + 1) - 1 = (k : Int) := by omega
        clear HC HC2 ha ha1 hb hsz
        go_wp2_with fail
        go_ret2
        rw [HV.out]
        refine ⟨?_, rfl⟩
        simp [colV]
theorem one_src (w : World) (v : Value) : (w.alloc (.cells #[v] 5 (0, 0))).cell? ⟨w.heap.size, 0, none⟩ = some v := cellOf (o := 0) (heap_alloc_new w _) rfl
theorem conv_one (w : World) (c k : Nat) (h : k < 26) : (convert 73 9 (.slice (some ⟨w.heap.size, 0, none⟩) 1 c)).run Tryd.prog (w.alloc (.cells #[.int .u8 ((65 : Int) + (k : Int))] 5 (0, 0))) = .ok (.string (baL [UInt8.ofNat (65 + k)])) (w.alloc (.cells #[.int .u8 ((65 : Int) + (k : Int))] 5 (0, 0))) := by
  have e : (65 : Int) + (k : Int) = (((UInt8.ofNat (65 + k)).toNat : Nat) : Int) := by rw [UInt8.toNat_ofNat']; omega
  rw [e]
  exact run_convert_bytes_back (P := Tryd.prog) _ 73 9 5 ⟨w.heap.size, 0, none⟩ c [UInt8.ofNat (65 + k)] Tryd.underlying73 Tryd.underlying5 Tryd.underlying9 (fun j hj => by
      have : j = 0 := by simpa using hj
      subst this
      exact one_src w _)
#print axioms rparseCol_any
end Go.Proofs.YtiokbpknaldbaaaDoor
