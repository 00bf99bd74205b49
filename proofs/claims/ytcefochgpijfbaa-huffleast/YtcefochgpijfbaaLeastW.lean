/- The walk of the law HuffLeast. -/
import Derived.Test.YtcefochgpijfbaaRefK
import Derived.Test.YtcefochgpijfbaaSame
import Derived.Deep.RegionHeld3
namespace Go.Proofs.Ytcefochgpijfbaa
open Go.RowKit

/-- What Lengths refuses. -/
theorem lengths_err (v : Value) (L : List Int) (most : Int) (w : World) (hv : Ns .i64 w v L) (h : lenE L most ≠ 0) :
    Calls Try.prog 4 #[v, .int .i64 most] w fun e w' => e = .returned (.tuple #[.slice none 0 0, .int .i64 (lenE L most)]) ∧ Fr noB w w' := by
  by_cases h1 : 512 < L.length
  · rw [lenE_long L most h1]
    refine (lengths_long v L most w hv h1).mono ?_
    rintro e w' ⟨rfl, rfl⟩
    exact ⟨rfl, Fr.refl _ _⟩
  · by_cases h2 : numsB L = false ∨ most < 1 ∨ 15 < most
    · rw [lenE_arg L most (by omega) h2]
      refine (lengths_arg v L most w hv (by omega) h2).mono ?_
      rintro e w' ⟨rfl, rfl⟩
      exact ⟨rfl, Fr.refl _ _⟩
    · have hn : numsB L = true := by
        cases hb : numsB L
        · exact absurd (Or.inl hb) h2
        · rfl
      have hm : 1 ≤ most ∧ most ≤ 15 := by
        refine ⟨?_, ?_⟩
        · rcases Int.lt_or_le most 1 with h | h
          · exact absurd (Or.inr (Or.inl h)) h2
          · exact h
        · rcases Int.lt_or_le 15 most with h | h
          · exact absurd (Or.inr (Or.inr h)) h2
          · exact h
      by_cases h3 : 2 ^ most.toNat < (leavesP 0 (L.map Int.toNat)).length
      · rw [lenE_over L most (by omega) hn hm.1 hm.2 h3]
        obtain ⟨m, rfl⟩ := Int.eq_ofNat_of_zero_le (show 0 ≤ most by omega)
        have hL : L = up (L.map Int.toNat) := up_of L (fun x hx => by
          obtain ⟨i, hi, rfl⟩ := List.getElem_of_mem hx
          exact (numsB_get hn i hi).1)
        rw [Int.toNat_natCast] at h3
        generalize L.map Int.toNat = C at *
        subst hL
        exact lengths_over v C m w hv (by simpa using h1) hn (by omega) (by omega) h3
      · exact absurd (lenE_ok L most (by omega) hn hm.1 hm.2 (by omega)) h
/-- What holds where nothing is wrong. -/
theorem lenE_zero (L : List Int) (most : Int) (h : lenE L most = 0) : ∃ C m, L = up C ∧ most = ((m : Nat) : Int) ∧ C.length ≤ 512 ∧ numsB (up C) = true ∧ 1 ≤ m ∧ m ≤ 15 ∧ (leavesP 0 C).length ≤ 2 ^ m ∧ L.map Int.toNat = C := by
  by_cases h1 : 512 < L.length
  · rw [lenE_long L most h1] at h; omega
  · by_cases h2 : numsB L = false ∨ most < 1 ∨ 15 < most
    · rw [lenE_arg L most (by omega) h2] at h; omega
    · have hn : numsB L = true := by
        cases hb : numsB L
        · exact absurd (Or.inl hb) h2
        · rfl
      have hm : 1 ≤ most ∧ most ≤ 15 := by
        refine ⟨?_, ?_⟩
        · rcases Int.lt_or_le most 1 with h | h
          · exact absurd (Or.inr (Or.inl h)) h2
          · exact h
        · rcases Int.lt_or_le 15 most with h | h
          · exact absurd (Or.inr (Or.inr h)) h2
          · exact h
      have hL : L = up (L.map Int.toNat) := up_of L (fun x hx => by
        obtain ⟨i, hi, rfl⟩ := List.getElem_of_mem hx
        exact (numsB_get hn i hi).1)
      by_cases h3 : 2 ^ most.toNat < (leavesP 0 (L.map Int.toNat)).length
      · rw [lenE_over L most (by omega) hn hm.1 hm.2 h3] at h; omega
      · refine ⟨L.map Int.toNat, most.toNat, hL, by omega, by simp; omega, by rw [← hL]; exact hn, by omega, by omega, by omega, rfl⟩
theorem int_eq {k : IntKind} {a b : Int} (h : a = b) : Value.int k a = .int k b := by rw [h]
theorem mul_bd (x y : Nat) (hx : x ≤ 15) (hy : y ≤ 2147483648) : (0 : Int) ≤ (x : Int) * (y : Int) ∧ (x : Int) * (y : Int) ≤ 32212254720 := by
  have h1 : x * y ≤ 15 * 2147483648 := Nat.mul_le_mul hx hy
  have e : ((x * y : Nat) : Int) = (x : Int) * (y : Int) := by simp
  omega
theorem ssum_bd (f : Nat → Nat) (b n : Nat) (h : ∀ i, i < n → f i ≤ b) : ssum f n ≤ n * b := by
  induction n with
  | zero => simp [ssum]
  | succ n ih =>
    have h1 := ih (fun i hi => h i (by omega))
    have h2 := h n (by omega)
    show ssum f n + f n ≤ (n + 1) * b
    rw [Nat.succ_mul]
    omega

set_option maxRecDepth 100000 in
set_option maxHeartbeats 1600000 in
theorem least_ok (v : Value) (C : List Nat) (m : Nat) (w : World) (hv : Ns .i64 w v (up C)) (hC : C.length ≤ 512) (hn : numsB (up C) = true) (hm1 : 1 ≤ m) (hm2 : m ≤ 15) (hNm : (leavesP 0 C).length ≤ 2 ^ m) (hE : lenE (up C) (m : Int) = 0) :
    Calls Try.prog 3 #[v, .int .i64 (m : Int)] w fun e w' => e = .returned (.bool true) ∧ Below w.heap.size w w' := by
  have hmax : ∀ c ∈ C, c ≤ 2147483648 := by
    intro c hc
    obtain ⟨j, hj, rfl⟩ := List.getElem_of_mem hc
    have := numsB_get hn j (by simpa using hj)
    rw [up_get C j hj] at this
    omega
  have HL := lengths_ok v C m w hv hC hn hm1 hm2 hNm
  have HC := fun w1 (hF : Fr noB w w1) => refcounts_any v (up C) (m : Int) w1 (hv.keep hF)
  have HLe := fun w1 (hF : Fr noB w w1) => refleast_any v C m w1 (hv.keep hF) hC hmax hm1 hm2
  have HmL : Hid ((leavesP 0 C).length ≤ C.length) := leaves_len C 0
  have hut : (up C).map Int.toNat = C := up_toNat C
  rw [hE, hut] at HC
  obtain ⟨ao, cap, hvv, h1, hc2, h4, h3⟩ := hv
  have hat : NsAt .i64 w ao (up C) := h3
  rw [length_up] at h1 hvv
  subst hvv
  unfold maxLen at hc2
  clear h3 h4 hut hE hn hNm
  obtain ⟨n, hn⟩ : ∃ n, C.length = n := ⟨_, rfl⟩
  have HN : Hid (C.length = n) := hn
  rw [hn] at HC HLe HL h1 hC HmL ⊢
  have HHC : Hid _ := HC
  have HHL : Hid _ := HLe
  have HMx : Hid (∀ c ∈ C, c ≤ 2147483648) := hmax
  clear hn HC HLe hmax
  go_enter Try.func3, Try.ntmps3
  go_wp2_with fail
  refine HL.mono ?_
  rintro e w1 ⟨g, M, rfl, hg, hB, hrow, hF1⟩
  have HB : Hid (Best C m M) := hB
  have HRow : Hid (RowN w1 g 3 .i64 M) := hrow
  have HMl : Hid (M.length = n) := by rw [← HN.out]; exact hB.len
  clear hB hrow HL
  go_wp2_with fail
  refine (HHC.out w1 hF1).mono ?_
  rintro e w2 ⟨many, rfl, hmany, hw2⟩
  have hw2' := hw2.symm
  subst hw2'
  have hmany' : many = ((leavesP 0 C).length : Int) := by simpa using hmany
  have hmn : many ≤ (n : Int) := by have := HmL.out; omega
  clear hmany hmany'
  go_wp2_with fail
  refine (begun_any _).mono ?_
  rintro e w3 ⟨rfl, hF3⟩
  have hrow3 : RowN w3 g 3 .i64 M := HRow.out.keep hF3 id
  have HCk := refcheck_any (.slice (some ⟨g, 0, none⟩) M.length M.length) (up M) w3 (hrow3.ns (by rw [HMl.out]; unfold maxLen; omega))
  rw [HB.out.code.ok, HMl.out] at HCk
  have HRow3 : Hid (RowN w3 g 3 .i64 M) := hrow3
  have hFw : Fr noB w w3 := hF1.trans hF3
  clear hrow3
  go_wp2_with fail
  refine HCk.mono ?_
  rintro e w4 ⟨rfl, hw4⟩
  have hw4' := hw4.symm
  subst hw4'
  have HEa : Hid (∀ i (h : i < C.length), (0 < M.getD i 0 ↔ 0 < C[i]) ∧ M.getD i 0 ≤ m) := HB.out.each
  have HTot : Hid (∀ K : List Nat, K.Pairwise (· ≤ ·) → K.Perm (C.filter (fun c => decide (0 < c))) → ssum (fun i => C.getD i 0 * M.getD i 0) n = leastK K m) := by rw [← HN.out]; exact HB.out.total
  have HSb : Hid (∀ k, k ≤ n → ssum (fun i => C.getD i 0 * M.getD i 0) k ≤ 16492674416640) := fun k hk => by
    have h5 := ssum_bd (fun i => C.getD i 0 * M.getD i 0) 32212254720 k (fun i hi => by
      have hiC : i < C.length := by rw [HN.out]; omega
      have e1 := (HEa.out i hiC).2
      have e2 := HMx.out _ (List.getElem_mem hiC)
      have e3 : C.getD i 0 = C[i] := by simp [hiC]
      have h6 : C.getD i 0 * M.getD i 0 ≤ 2147483648 * 15 := Nat.mul_le_mul (by rw [e3]; exact e2) (by omega)
      exact h6)
    have h7 := Nat.mul_le_mul_right 32212254720 (show k ≤ 512 by omega)
    omega
  clear HCk
  go_wp2_with fail
  go_loopg [9, 47] n (fun gh tv iv wr => ∃ k : Nat, k ≤ n ∧ gh = n - k ∧ iv = .int .i64 (k : Int) ∧ tv = .int .i64 ((ssum (fun i => C.getD i 0 * M.getD i 0) k : Nat) : Int) ∧ Fr noB w3 wr)
  case atStart => exact ⟨0, by omega, rfl, rfl, rfl, Fr.refl _ _⟩
  case round =>
    obtain ⟨k, hk, rfl, rfl, rfl, hFr⟩ := hrel
    have hsb := HSb.out k hk
    by_cases hlt : k < n
    · have hkC : k < C.length := by rw [HN.out]; exact hlt
      have hkM : k < M.length := by rw [HMl.out]; exact hlt
      obtain ⟨b, off, rfl, hb, hcell⟩ := (hat.keep (hFw.trans hFr)).get k (by rw [length_up]; exact hkC)
      rw [up_get C k hkC] at hcell
      have hcm : wr.cell? ⟨g, k, none⟩ = some (.int .i64 ((M[k] : Nat) : Int)) := (HRow3.out.keep hFr id).cell k hkM
      have hea := HEa.out k hkC
      have hmx := HMx.out _ (List.getElem_mem hkC)
      have HSs : Hid (ssum (fun i => C.getD i 0 * M.getD i 0) (k + 1) = ssum (fun i => C.getD i 0 * M.getD i 0) k + C[k] * M[k]) := by
        show ssum _ k + C.getD k 0 * M.getD k 0 = _
        have e1 : C.getD k 0 = C[k] := by simp [hkC]
        have e2 : M.getD k 0 = M[k] := by simp [hkM]
        rw [e1, e2]
      have e2 : M.getD k 0 = M[k] := by simp [hkM]
      rw [e2] at hea
      obtain ⟨y, hy⟩ : ∃ y, C[k] = y := ⟨_, rfl⟩
      obtain ⟨x, hx⟩ : ∃ x, M[k] = x := ⟨_, rfl⟩
      rw [hy] at hcell hea hmx HSs
      rw [hx] at hcm hea HSs
      generalize ssum (fun i => C.getD i 0 * M.getD i 0) k = t at *
      have hxm := hea.2
      have hmb := mul_bd x y (by omega) hmx
      have b1 : (decide ((0 : Int) < (x : Int)) != decide ((0 : Int) < (y : Int))) = false := by
        by_cases e : 0 < x
        · have := hea.1.1 e; simp; omega
        · have : ¬ 0 < y := fun h => e (hea.1.2 h)
          simp; omega
      have b2 : decide ((m : Int) < (x : Int)) = false := by simp; omega
      have b3 : ¬ (m : Int) < (x : Int) := by omega
      have hz0 : (0 : Int) ≤ (k : Int) := by omega
      have hz1 : (k : Int) < (n : Int) := by omega
      have w1' : IntKind.i64.wrap ((x : Int) * (y : Int)) = (x : Int) * (y : Int) := by rw [IntKind.wrap_i64]; omega
      have w2' : IntKind.i64.wrap ((t : Int) + (x : Int) * (y : Int)) = (t : Int) + (x : Int) * (y : Int) := by rw [IntKind.wrap_i64]; omega
      by_cases hx0 : 0 < x
      · have hy0 := hea.1.1 hx0
        have p1 : (0 : Int) < (x : Int) := by omega
        have p2 : (0 : Int) < (y : Int) := by omega
        have p3 : decide ((0 : Int) < (x : Int)) = true := by simp; omega
        have p4 : decide ((0 : Int) < (y : Int)) = true := by simp; omega
        clear hea hy hx hkC hkM e2
        have d1 : wr.drew.cell? ⟨b, off + k, none⟩ = some (.int .i64 (y : Int)) := hcell
        have d2 : wr.drew.cell? ⟨g, k, none⟩ = some (.int .i64 (x : Int)) := hcm
        have d3 : wr.drew.drew.cell? ⟨b, off + k, none⟩ = some (.int .i64 (y : Int)) := hcell
        have d4 : wr.drew.drew.cell? ⟨g, k, none⟩ = some (.int .i64 (x : Int)) := hcm
        go_wp2_with fail
        go_region_held3 (fun w' => w'.cell? ⟨b, off + k, none⟩ = some (.int .i64 (y : Int)) ∧ w'.cell? ⟨g, k, none⟩ = some (.int .i64 (x : Int))) (first | exact ⟨d1, d2⟩ | exact ⟨d3, d4⟩) (fail)
        go_wp2_with fail
        go_region_held3 (fun w' => w'.cell? ⟨b, off + k, none⟩ = some (.int .i64 (y : Int)) ∧ w'.cell? ⟨g, k, none⟩ = some (.int .i64 (x : Int))) (first | exact ⟨d1, d2⟩ | exact ⟨d3, d4⟩) (fail)
        go_wp2_with fail
        go_roundg (n - (k + 1))
        case measure => omega
        case rel => exact ⟨k + 1, by omega, rfl, by go_num, by rw [HSs.out]; exact int_eq (by rw [Int.natCast_add, Int.natCast_mul, Int.mul_comm]), hFr.drew.drew⟩
      · have hy0 : ¬ 0 < y := fun h => hx0 (hea.1.2 h)
        have p1 : ¬ (0 : Int) < (x : Int) := by omega
        have p2 : ¬ (0 : Int) < (y : Int) := by omega
        have p3 : decide ((0 : Int) < (x : Int)) = false := by simp; omega
        have p4 : decide ((0 : Int) < (y : Int)) = false := by simp; omega
        clear hea hy hx hkC hkM e2
        have d1 : wr.drew.cell? ⟨b, off + k, none⟩ = some (.int .i64 (y : Int)) := hcell
        have d2 : wr.drew.cell? ⟨g, k, none⟩ = some (.int .i64 (x : Int)) := hcm
        have d3 : wr.drew.drew.cell? ⟨b, off + k, none⟩ = some (.int .i64 (y : Int)) := hcell
        have d4 : wr.drew.drew.cell? ⟨g, k, none⟩ = some (.int .i64 (x : Int)) := hcm
        go_wp2_with fail
        go_region_held3 (fun w' => w'.cell? ⟨b, off + k, none⟩ = some (.int .i64 (y : Int)) ∧ w'.cell? ⟨g, k, none⟩ = some (.int .i64 (x : Int))) (first | exact ⟨d1, d2⟩ | exact ⟨d3, d4⟩) (fail)
        go_wp2_with fail
        go_region_held3 (fun w' => w'.cell? ⟨b, off + k, none⟩ = some (.int .i64 (y : Int)) ∧ w'.cell? ⟨g, k, none⟩ = some (.int .i64 (x : Int))) (first | exact ⟨d1, d2⟩ | exact ⟨d3, d4⟩) (fail)
        go_wp2_with fail
        go_roundg (n - (k + 1))
        case measure => omega
        case rel => exact ⟨k + 1, by omega, rfl, by go_num, by rw [HSs.out]; exact int_eq (by rw [Int.natCast_add, Int.natCast_mul, Int.mul_comm]), hFr.drew.drew⟩
    · obtain rfl : k = n := by omega
      have hltI : ¬ (k : Int) < (k : Int) := by omega
      have HTk : Hid (∀ K : List Nat, K.Pairwise (· ≤ ·) → K.Perm (C.filter (fun c => decide (0 < c))) → ssum (fun i => C.getD i 0 * M.getD i 0) k = leastK K m) := HTot.out
      clear HTot HSb
      generalize ssum (fun i => C.getD i 0 * M.getD i 0) k = T at *
      go_wp2_with fail
      refine (HHL.out wr (hFw.trans hFr)).mono ?_
      rintro e w6 ⟨K, rfl, hKs, hKp, hF6⟩
      have HKe := HTk.out K hKs hKp
      subst HKe
      clear hKs hKp hsb HTk
      generalize leastK K m = z at *
      go_wp2_with fail
      go_ret
      exact ⟨rfl, ((hFw.trans hFr).trans hF6).below (Nat.le_refl _) (fun k hk => hk.elim)⟩

set_option maxHeartbeats 800000 in
theorem least_bad (v : Value) (L : List Int) (most : Int) (w : World) (hv : Ns .i64 w v L) (h : lenE L most ≠ 0) :
    Calls Try.prog 3 #[v, .int .i64 most] w fun e w' => e = .returned (.bool true) ∧ Below w.heap.size w w' := by
  have HL := lengths_err v L most w hv h
  have HC := fun w1 (hF : Fr noB w w1) => refcounts_any v L most w1 (hv.keep hF)
  obtain ⟨ao, cap, rfl, h1, hc2, h4, h3⟩ := hv
  clear h3 h4
  generalize lenE L most = q at *
  have HHC : Hid _ := HC
  have hq : (q != 0) = true := by simpa using h
  have hq2 : (q == 0) = false := by simpa using h
  clear HC
  go_enter Try.func3, Try.ntmps3
  go_wp2_with fail
  refine HL.mono ?_
  rintro e w1 ⟨rfl, hF1⟩
  go_wp2_with fail
  refine (HHC.out w1 hF1).mono ?_
  rintro e w2 ⟨many, rfl, -, hw2⟩
  have hw2' := hw2.symm
  subst hw2'
  go_wp2_with fail
  refine (begun_any _).mono ?_
  rintro e w3 ⟨rfl, hF3⟩
  go_wp2_with fail
  go_ret
  exact ⟨rfl, (hF1.trans hF3).below (Nat.le_refl _) (fun k hk => hk.elim)⟩

theorem least_walk (v : Value) (L : List Int) (most : Int) (w : World) (hv : Ns .i64 w v L) :
    Calls Try.prog 3 #[v, .int .i64 most] w fun e w' => e = .returned (.bool true) ∧ Below w.heap.size w w' := by
  by_cases h : lenE L most = 0
  · obtain ⟨C, m, rfl, rfl, h1, h2, h3, h4, h5, _⟩ := lenE_zero L most h
    exact least_ok v C m w hv h1 h2 h3 h4 h5 h
  · exact least_bad v L most w hv h
#print axioms least_walk
end Go.Proofs.Ytcefochgpijfbaa
