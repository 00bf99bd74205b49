/- setDigits: its contract. -/
import Derived.Test.YtnklmcmdlobicaaGreatDoorNSho
namespace Go.Proofs.YtnklmcmdlobicaaGreatDoor
open Go.RowKit Ieee Go.Shelf
open Go.Sort (Holds putRow)

/-- How many digits are left without the noughts at the end. -/
def nzF (L : List UInt8) : Nat → Nat
  | 0 => 0
  | k + 1 => if L.getD k 0 = 48 then nzF L k else k + 1
theorem nzF_succ (L : List UInt8) (k : Nat) : nzF L (k + 1) = if L.getD k 0 = 48 then nzF L k else k + 1 := rfl
theorem nzF_le (L : List UInt8) (k : Nat) : nzF L k ≤ k := by
  induction k with
  | zero => exact Nat.le_refl _
  | succ k ih => unfold nzF; split <;> omega
theorem short_pos (m : Nat) (e : Int) (hm1 : 9223372036854775808 ≤ m) (hmz : m + 2 ^ (zOf e - 1) < 18446744073709551616) (he1 : -1137 ≤ e) (he2 : e ≤ 960) : 1 ≤ (shortF m e).1 ∧ (shortF m e).1 < 1000000000000000000 ∧ -400 ≤ (shortF m e).2 ∧ (shortF m e).2 ≤ 400 := by
  have hR := p_range m e he1 he2
  have hzr := zOf_range e he1
  have hz0 : 0 < 2 ^ (zOf e - 1) := Nat.two_pow_pos _
  have hz62 : 2 ^ (zOf e - 1) ≤ 4611686018427387904 := Nat.le_trans (Nat.pow_le_pow_right (by omega) (show zOf e - 1 ≤ 62 by omega)) (by decide)
  have hi6 : iOf m e < 696 := by unfold iOf; omega
  have hS : 4 ≤ sOf m e ∧ sOf m e ≤ 58 := by unfold sOf; omega
  obtain ⟨t1, t2, t3⟩ := rows_at (iOf m e) hi6
  have hMIb : 4611686018427387904 ≤ minOf m e ∧ minOf m e < 18446744073709551616 := by
    unfold minOf; generalize 2 ^ (zOf e - 1) = Z at *; split <;> omega
  have hMAb : 4611686018427387904 ≤ maxOf m e ∧ maxOf m e < 18446744073709551616 := by
    unfold maxOf; generalize 2 ^ (zOf e - 1) = Z at *; omega
  have hm2 : m < 18446744073709551616 := by generalize 2 ^ (zOf e - 1) = Z at *; omega
  have hODb : oddOf m e ≤ 1 := by unfold oddOf; omega
  have b1 : 7 ≤ uOf (minOf m e) m e ∧ uOf (minOf m e) m e < 2305843009213693952 := by unfold uOf; exact uscF_bounds hMIb.1 hMIb.2 t1 t2 hS.1 hS.2
  have b2 : 7 ≤ uOf (maxOf m e) m e ∧ uOf (maxOf m e) m e < 2305843009213693952 := by unfold uOf; exact uscF_bounds hMAb.1 hMAb.2 t1 t2 hS.1 hS.2
  have b3 : 7 ≤ uOf m m e ∧ uOf m m e < 2305843009213693952 := by unfold uOf; exact uscF_bounds (by omega) hm2 t1 t2 hS.1 hS.2
  have d1 : 1 ≤ dmin m e ∧ dmin m e < 1000000000000000000 := by unfold dmin; omega
  have d2 : dmax m e < 1000000000000000000 := by unfold dmax; omega
  unfold shortF
  generalize uOf m m e = U3 at *
  split
  · simp only; omega
  · split
    · simp only; omega
    · simp only; omega
theorem numDigits_any (u : Nat) (h1 : 1 ≤ u) (h2 : u < 18446744073709551616) (w : World) (htab : Lib.TabIs Tryz.prog w "internal/strconv.uint64pow10" .u64 Lib.pow10Tab) : Calls Tryz.prog 177 #[.int .u64 (u : Int)] w fun e w' => e = .returned (.int .i64 ((Lib.nDigits u : Nat) : Int)) ∧ w' = w :=
  Any.internal_strconv_numDigits Tryz.laysLaysMn284 u h1 h2 w htab
theorem fmt10_any (blk off cap u : Nat) (d : Array UInt8) (w : World) (hH : Holds (fun (b : UInt8) => Value.int .u8 (b.toNat : Int)) w blk off d) (hu : u < 10 ^ d.size) (hu64 : u < 18446744073709551616) (hsz : d.size < 4611686018427387904) :
    Calls Tryz.prog 218 #[.slice (some ⟨blk, off, none⟩) d.size cap, .int .u64 (u : Int)] w fun e w' => e = .returned (.tuple #[]) ∧ ∃ (n v' : Nat) (dk : Array UInt8), w' = (putRow (fun (b : UInt8) => Value.int .u8 (b.toNat : Int)) w blk off dk).drewN n ∧ Lib.FmtInv d.size u 0 v' dk :=
  Any.internal_strconv_formatBase10 Tryz.laysLaysn285 blk off cap u d w hH hu hu64 hsz
/-- The buffer's cells, all nought. -/
def zeros32 : Array Value := Array.replicate 32 (.int .u8 0)
theorem Fr.putRow {S : Nat → Prop} {a w : World} (h : Fr S a w) {blk off : Nat} {d : Array UInt8} (hb : S blk ∨ a.heap.size ≤ blk) : Fr S a (putRow (fun (b : UInt8) => Value.int .u8 (b.toNat : Int)) w blk off d) := by
  refine ⟨h.os, h.tape, h.output, by rw [Go.Sort.size_putRow]; exact h.size, fun k hk hs => ?_⟩
  have hne : blk ≠ k := by rintro rfl; rcases hb with hb | hb; exact hs hb; omega
  show (w.heap.modify blk _)[k]? = _
  rw [Array.getElem?_modify, if_neg hne]
  exact h.block k hk hs
theorem pow_le_nDigits (u : Nat) (h : 1 ≤ u) : 10 ^ (Lib.nDigits u - 1) ≤ u := by
  induction u using Nat.strongRecOn with
  | _ u ih =>
    by_cases hs : u < 10
    · rw [Lib.nDigits_small hs]; simpa using h
    · rw [Lib.nDigits_big hs]
      have h1 := ih (u / 10) (by omega) (by omega)
      have h2 := Lib.nDigits_pos (u / 10)
      obtain ⟨k, hk⟩ : ∃ k, Lib.nDigits (u / 10) = k + 1 := ⟨Lib.nDigits (u / 10) - 1, by omega⟩
      rw [hk] at h1 ⊢
      rw [show k + 1 - 1 = k by omega] at h1
      rw [show k + 1 + 1 - 1 = k + 1 by omega, Nat.pow_succ]
      omega
theorem nDigits_le18 (u : Nat) (h1 : 1 ≤ u) (h2 : u < 1000000000000000000) : Lib.nDigits u ≤ 18 := by
  have h := pow_le_nDigits u h1
  rcases Nat.lt_or_ge 18 (Lib.nDigits u) with c | c
  · have := Nat.pow_le_pow_right (show 1 ≤ 10 by omega) (show 18 ≤ Lib.nDigits u - 1 by omega)
    have e : (10 : Nat) ^ 18 = 1000000000000000000 := by decide
    omega
  · exact c
set_option maxRecDepth 100000 in
set_option maxHeartbeats 1000000 in
theorem setDigits_any (B u : Nat) (p : Int) (w : World) (h1 : 1 ≤ u) (h2 : u < 1000000000000000000) (hp1 : -1000 ≤ p) (hp2 : p ≤ 1000) (hB : w.heap[B]? = some (.cells zeros32 176 (0, 0))) :
    Calls Tryz.prog 176 #[.slice (some ⟨B, 0, none⟩) 32 32, .int .u64 (u : Int), .int .i64 p, .int .i64 ((Lib.nDigits u : Nat) : Int)] w fun e w' => e = .returned (.tuple #[.int .i64 ((Lib.nDigits u : Nat) + p), .int .i64 ((nzF (Lib.decDigits u) (Lib.nDigits u) : Nat) : Int)]) ∧ (∀ j (hj : j < (Lib.decDigits u).length), w'.cell? ⟨B, j, none⟩ = some (.int .u8 ((Lib.decDigits u)[j].toNat : Int))) ∧ Fr (oneB B) w w' := by
  have hk1 := Lib.nDigits_pos u
  have hk2 := nDigits_le18 u h1 h2
  have hlt := Lib.lt_pow_nDigits u
  obtain ⟨k, hk⟩ : ∃ k, Lib.nDigits u = k := ⟨_, rfl⟩
  have hlen : (Lib.decDigits u).length = k := by rw [Lib.decDigits_length, hk]
  rw [hk] at hk1 hk2 hlt ⊢
  have HH : Holds (fun (b : UInt8) => Value.int .u8 (b.toNat : Int)) w B 0 (Array.replicate k (0 : UInt8)) := by
    intro j hj
    rw [Array.size_replicate] at hj
    refine ⟨?_, freeOf _ hB⟩
    rw [Nat.zero_add, getElem!_pos _ j (by simpa using hj)]
    refine cellOf hB ?_
    unfold zeros32
    rw [Array.getElem?_replicate, if_pos (by omega)]
    simp
  have HFB := fmt10_any B 0 32 u (Array.replicate k 0) w HH (by simpa using hlt) (by omega) (by simp; omega)
  rw [Array.size_replicate] at HFB
  obtain ⟨L, hL⟩ : ∃ L, Lib.decDigits u = L := ⟨_, rfl⟩
  have HHH : Hid _ := HH
  have HL : Hid _ := hL
  have HK : Hid _ := And.intro hk hlen
  rw [hL] at hlen ⊢
  have HLL : Hid (L.length = k) := hlen
  clear HH hL hk hlen hlt
  go_enter Tryz.func176, Tryz.ntmps176
  go_wp2_with fail
  refine HFB.mono ?_
  rintro e W1 ⟨rfl, n, v', dk, hW1, hF⟩
  have hcells : ∀ j, j < k → W1.cell? ⟨B, j, none⟩ = some (.int .u8 ((L.getD j 0).toNat : Int)) := by
    intro j hj
    have hjl : j < (Lib.decDigits u).length := by rw [HK.out.2]; exact hj
    have hF' : Lib.FmtInv (Lib.nDigits u) u 0 v' dk := by rw [HK.out.1]; exact hF
    have hc := Go.Sort.cell?_putRow (fun (b : UInt8) => Value.int .u8 (b.toNat : Int)) w B 0 _ dk HHH.out (by rw [hF.size, Array.size_replicate]) j (by rw [hF.size]; exact hj)
    rw [Nat.zero_add] at hc
    rw [hW1]
    refine hc.trans ?_
    rw [← Lib.row_is_numeral hF' j hjl]
    have : L.getD j 0 = (Lib.decDigits u)[j] := by
      have hL := HL.out
      subst hL
      simp [List.getD, hjl]
    rw [this]
  have hF1 : Fr (oneB B) w W1 := by rw [hW1]; exact ((Fr.refl (oneB B) w).putRow (Or.inl rfl)).drewN n
  have HC : Hid _ := hcells
  have HF1 : Hid _ := hF1
  clear hcells hF1 hW1 hF HFB
  go_wp2_with fail
  go_loop [3] (fun nv => ∃ i : Nat, i ≤ k ∧ nv = .int .i64 (i : Int) ∧ Hid (nzF L i = nzF L k)) (fun nv => (intOf nv).toNat)
  case atStart => exact ⟨k, Nat.le_refl _, rfl, rfl⟩
  case round =>
    obtain ⟨i, hik, rfl, HZ⟩ := hrel
    have hfin : ∀ j (hj : j < L.length), W1.cell? ⟨B, j, none⟩ = some (.int .u8 ((L[j].toNat : Nat) : Int)) := fun j hj => by
      have := HC.out j (by rw [HLL.out] at hj; exact hj)
      rw [this]
      simp [List.getD, hj]
    have HFIN : Hid _ := hfin
    clear hfin
    cases i with
    | zero =>
      go_wp2_with fail
      go_ret2
      rw [← HZ.out]
      exact ⟨by simp [nzF], HFIN.out, HF1.out⟩
    | succ i =>
      have hc := HC.out i (by omega)
      have hZ := HZ.out
      rw [nzF_succ] at hZ
      by_cases h48 : L.getD i 0 = 48
      · rw [if_pos h48] at hZ
        rw [h48] at hc
        have hc' : W1.cell? ⟨B, i, none⟩ = some (.int .u8 48) := hc
        have HZ2 : Hid _ := hZ
        clear hZ hc h48 HZ
        have e1 : ((i + 1 : Nat) : Int) - 1 = (i : Int) := by omega
        go_wp2_with fail
        go_round
        case rel => exact ⟨i, by omega, by go_num, HZ2.out⟩
        case measure => simp [intOf]
      · rw [if_neg h48] at hZ
        obtain ⟨x, hx⟩ : ∃ x, (L.getD i 0).toNat = x := ⟨_, rfl⟩
        have hxne : ¬ (x : Int) = 48 := by
          intro h
          apply h48
          apply UInt8.toNat_inj.1
          rw [hx]
          show x = 48
          omega
        have hxb : ((x : Int) == 48) = false := by simpa using hxne
        rw [hx] at hc
        have HZ2 : Hid _ := hZ
        clear hZ h48 HZ hx
        go_wp2_with fail
        go_ret2
        rw [← HZ2.out]
        exact ⟨by simp, HFIN.out, HF1.out⟩
#print axioms setDigits_any
#print axioms short_pos
end Go.Proofs.YtnklmcmdlobicaaGreatDoor
