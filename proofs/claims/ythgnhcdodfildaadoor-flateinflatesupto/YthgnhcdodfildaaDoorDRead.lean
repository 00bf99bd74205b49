/- The contract of the decoder's Read. -/
import Derived.Test.YthgnhcdodfildaaDoorDec
import Derived.Test.YthgnhcdodfildaaDoorRdM
namespace Go.Proofs.YthgnhcdodfildaaDoor
open Go.RowKit

theorem or_i64 (c b : Nat) (hc : c ≤ 32768) (hb : b ≤ 1) : bits .or .i64 ((c : Int) * 2) (b : Int) = ((2 * c + b : Nat) : Int) := by
  have e : ((c : Int) * 2) = ((2 * c : Nat) : Int) := by omega
  rw [e]
  have h1 : 2 * c ||| b = 2 * c + b := by
    have := nat_join 1 (2 * c) b (by simp) (by omega)
    exact this
  show IntKind.i64.wrap ((BitVec.ofInt 64 ((2 * c : Nat) : Int) ||| BitVec.ofInt 64 (b : Int)).toNat : Int) = _
  rw [BitVec.toNat_or, ofInt_u64 (2 * c) (by omega), ofInt_u64 b (by omega), h1, IntKind.wrap_i64]
  omega

/-- A decoder and a reader, as they lie. -/
structure DR (w : World) (db sb rb g : Nat) (M B : List Nat) (p : Nat) : Prop where
  dec : DecIs w db sb M
  rd : RdAt w rb g B.length p
  row : RowAt w g B
  d1 : db ≠ rb
  d2 : sb ≠ rb
  d3 : g ≠ rb

set_option maxRecDepth 100000 in
set_option maxHeartbeats 3200000 in
theorem read_any (db sb rb g p : Nat) (M B : List Nat) (w : World) (h : DR w db sb rb g M B p) (hM : Code M) (hB : ∀ x ∈ B, x < 256) (hl : B.length ≤ 140737488355328) (hp : p ≤ 8 * B.length) :
    Calls Tryd.prog 90 #[.pointer (some ⟨db, 0, none⟩), .pointer (some ⟨rb, 0, none⟩)] w fun e w' => e = .returned (.tuple #[.int .i64 (((rdA M B p).1 : Nat) : Int), .int .i64 (((rdA M B p).2.1 : Nat) : Int)]) ∧ ((rdA M B p).2.1 = 0 → RdAt w' rb g B.length (rdA M B p).2.2) ∧ Fr (oneB rb) w w' := by
  obtain ⟨hD, hR, hrow, d1, d2, d3⟩ := h
  have hlg := longM_le M
  have hml := manyN_le M
  have hms := hM.short
  have hf := cnt512 M hms
  have c0 := hD.dec.made
  have HA : Hid (rdA M B p = rdT M B p 16 0) := rfl
  generalize rdA M B p = A at *
  go_enter Tryd.func90, Tryd.ntmps90
  go_wp2_with (go_at_call 98; refine (peek_good rb g p 0 B w hR hrow hB hl (by omega) hp).mono ?_; rintro e w1 ⟨rfl, m, rfl⟩)
  go_loopg [8, 9, 10, 11] 15 (fun gh c f q l wr => ∃ k : Nat, k ≤ 15 ∧ gh = 15 - k ∧ c = .int .i64 ((msb B p k : Nat) : Int) ∧ f = .int .i64 ((firstN (cntN M) k + cntN M k : Nat) : Int) ∧ q = .int .i64 ((ssum (cntN M) (k + 1) : Nat) : Int) ∧ l = .int .i64 ((k : Int) + 1) ∧ RdAt wr rb g B.length (p + k) ∧ p + k ≤ 8 * B.length ∧ Fr (oneB rb) w wr ∧ firstN (cntN M) k + cntN M k ≤ msb B p k ∧ A = rdT M B p (16 - k) k)
  case atStart => exact ⟨0, by omega, rfl, rfl, rfl, rfl, rfl, hR.drewN m, by omega, (Fr.refl _ _).drewN m, by simp [firstN, cntN, msb], HA.out⟩
  case round =>
    obtain ⟨k, hk, rfl, rfl, rfl, rfl, rfl, hR1, hp1, hF1, hge, hA1⟩ := hrel
    have hD1 := hD.keep hF1 (fun h => d1 h) (fun h => d2 h)
    have hrow1 : RowAt wr g B := hF1.obj hrow (fun h => d3 h)
    have c17 := hD1.dec.long
    have HA1 : Hid (A = rdT M B p (15 - k + 1) k) := by rw [show 15 - k + 1 = 16 - k by omega]; exact hA1
    have HGE : Hid _ := hge
    clear hA1 hge HA hR hrow hD c0 hp
    by_cases hlo : longM M ≤ k
    · have hlo' : ¬ (k : Int) + 1 ≤ ((longM M : Nat) : Int) := by omega
      go_wp2_with fail
      go_ret2
      rw [HA1.out, rdT_over M B p _ k hlo]
      exact ⟨rfl, fun h => by simp at h, hF1⟩
    · have hlo' : (k : Int) + 1 ≤ ((longM M : Nat) : Int) := by omega
      have hk15 : k < 15 := by omega
      by_cases hend : 8 * B.length ≤ p + k
      · go_wp2_with (go_at_call 48; refine (bits_ends rb g B.length (p + k) 1 _ hR1 hp1 hl (by omega) (by omega)).mono ?_; rintro e w1 ⟨rfl, m1, rfl⟩)
        go_ret2
        rw [HA1.out, rdT_ends M B p _ k hlo hend]
        exact ⟨rfl, fun h => by simp at h, hF1.drewN _⟩
      · have HB1 := bits_good rb g (p + k) 1 B wr hR1 hrow1 hB hl (by omega) (by omega)
        rw [numAt_one] at HB1
        have hb1 := bitQ_le B (p + k)
        have HM : Hid (msb B p (k + 1) = 2 * msb B p k + bitQ B (p + k)) := rfl
        have HFN : Hid (firstN (cntN M) (k + 1) = 2 * (firstN (cntN M) k + cntN M k)) := rfl
        have hfit := hM.fits k (by omega)
        have hp15 := pow_le_15 k (by omega)
        have hmlt := msb_lt B p k
        have hge := HGE.out
        generalize hq : firstN (cntN M) k + cntN M k = fq at *
        generalize hc : msb B p k = cq at *
        generalize hbq : bitQ B (p + k) = bq at *
        clear hq hc hbq
        have hor := or_i64 cq bq (by omega) hb1
        obtain ⟨c2, hc2⟩ : ∃ c2, c2 = msb B p (k + 1) := ⟨_, rfl⟩
        have hc2v : 2 * cq + bq = c2 := by rw [hc2]; exact HM.out.symm
        rw [hc2v] at hor
        have hlo2 : fq * 2 ≤ c2 := by omega
        have hhi2 : c2 ≤ 65536 := by omega
        have HC2 : Hid (msb B p (k + 1) = c2) := hc2.symm
        have HF2 : Hid (firstN (cntN M) (k + 1) = fq * 2) := by have := HFN.out; show firstN (cntN M) (k + 1) = fq * 2; omega
        have hfq : fq ≤ 32768 := by omega
        have hbq2 : bq ≤ 1 := hb1
        have hcq : cq ≤ 32768 := by omega
        have hss := ssum_le (cntN M) hf (k + 1)
        have hfk1 := hf (k + 1)
        have HSS : Hid (ssum (cntN M) (k + 1 + 1) = ssum (cntN M) (k + 1) + cntN M (k + 1)) := rfl
        have HAT : Hid (atC M (k + 1) c2 = ssum (cntN M) (k + 1) + (c2 - firstN (cntN M) (k + 1))) := rfl
        clear hc2 hc2v HM HFN hfit hp15 hmlt hge
        generalize hcn : cntN M (k + 1) = cn at *
        generalize hpl : ssum (cntN M) (k + 1) = pl at *
        have HCN : Hid _ := hcn
        have HPL : Hid _ := hpl
        clear hcn hpl
        go_wp2_with fail
        refine HB1.mono ?_
        rintro e w2 ⟨rfl, hR2, hF2⟩
        have hF3 := hF1.trans hF2
        have hD2 := hD1.keep hF2 (fun h => d1 h) (fun h => d2 h)
        have c2' := hD2.dec.count (k + 1) (by omega)
        rw [HCN.out] at c2'
        have c18 := hD2.dec.syms
        clear HB1 hR1 hF1 hF2 hD1 hrow1 c17
        by_cases hhit : c2 < fq * 2 + cn
        · have HH : hitB M (k + 1) (msb B p (k + 1)) = true := by
            unfold hitB; rw [HC2.out, HF2.out, HCN.out]; simpa using hhit
          obtain ⟨hs, s1, s2, s3⟩ := sym_of hM.le (k + 1) c2 (by omega) (by rw [HF2.out]; exact hlo2) (by rw [HF2.out, HCN.out]; exact hhit)
          obtain ⟨j, hj⟩ : ∃ j, j = atC M (k + 1) c2 := ⟨_, rfl⟩
          have hjv : ((pl : Int) + (c2 : Int) - (fq : Int) * 2) = (j : Int) := by
            have := HAT.out
            rw [HF2.out] at this
            omega
          rw [← hj] at s3
          have cx := hD2.row.cell j (by simpa using s3)
          have hxx : (ordN M M.length)[j]'(by simpa using s3) = symC M (k + 1) c2 := by
            unfold symC
            rw [← hj]
            simp [s3]
          have HX : Hid _ := hxx
          clear hxx
          have hhit' : (c2 : Int) - (fq : Int) * 2 < (cn : Int) := by omega
          have HA2 := rdT_hit M B p (15 - k) k hlo hend HH
          rw [HC2.out] at HA2
          have HA3 : Hid _ := HA2
          generalize (ordN M M.length)[j]'(by simpa using s3) = sx at *
          clear HH hs s1 s2 HA2 hj HAT hhit
          go_wp2_with fail
          go_ret2
          rw [HA1.out, HA3.out]
          refine ⟨?_, fun _ => ?_, hF3⟩
          · rw [← HX.out]; rfl
          · exact hR2
        · have HH : hitB M (k + 1) (msb B p (k + 1)) = false := by
            unfold hitB; rw [HC2.out, HF2.out, HCN.out]; simpa using hhit
          have HA3 : Hid _ := rdT_miss M B p (15 - k) k hlo hend HH
          have HG2 : Hid _ := miss_ge M (k + 1) _ HH
          have hhit' : ¬ (c2 : Int) - (fq : Int) * 2 < (cn : Int) := by omega
          clear HH hhit
          go_wp2_with fail
          go_roundg (15 - (k + 1))
          case measure => omega
          case rel =>
            refine ⟨k + 1, by omega, rfl, by rw [HC2.out], ?_, ?_, by go_num, hR2, by omega, hF3, HG2.out, ?_⟩
            · rw [HF2.out, HCN.out]; go_num
            · rw [HSS.out]; go_num
            · rw [HA1.out, HA3.out, show 16 - (k + 1) = 15 - k by omega]
#print axioms read_any
end Go.Proofs.YthgnhcdodfildaaDoor
