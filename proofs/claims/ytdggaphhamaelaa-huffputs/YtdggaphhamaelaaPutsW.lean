/- The walk of the law HuffPuts. -/
import Derived.Test.YtdggaphhamaelaaPutsM
import Derived.Test.YtdggaphhamaelaaSame
namespace Go.Proofs.Ytdggaphhamaelaa
open Go.RowKit

theorem two_mod (n : Nat) (h : n ≤ 15) : ((2 : Int) ^ n) % 4294967296 = 2 ^ n := by
  have h1 := pow_le_15 n h
  have h2 : ((2 : Int) ^ n) = ((2 ^ n : Nat) : Int) := by simp
  rw [h2]
  generalize 2 ^ n = q at *
  omega
theorem front_any (a wb : Nat) (w1 : World) (h : WrIs w1 wb []) :
    Calls Try.prog 27 #[.pointer (some ⟨wb, 0, none⟩), .int .u32 ((a : Int) % 8), .int .i64 3] w1 fun e w' => e = .returned (.int .i64 0) ∧ WrIs w' wb (bitsN (a % 8) 3) ∧ Fr (wS w1 wb) w1 w' := by
  have := wbits_good wb (a % 8) 3 [] w1 h (by omega) (by omega) (by simp)
  rw [show (((a % 8 : Nat)) : Int) = (a : Int) % 8 from by omega] at this
  exact this

set_option maxRecDepth 100000 in
set_option maxHeartbeats 3200000 in
theorem puts_bad (v cv : Value) (L C : List Int) (s : Int) (a : Nat) (w : World) (hv : Ns .i64 w v L) (hcv : Ns .u32 w cv C) (hC : ∀ x ∈ C, 0 ≤ x ∧ x < 4294967296) (ha : a < 4294967296) (hbad : badP L C s) :
    Calls Try.prog 7 #[v, cv, .int .i64 s, .int .u32 (a : Int)] w fun e w' => e = .returned (.bool true) ∧ Below w.heap.size w w' := by
  have HPB := fun w2 (h : WrIs w2 w.heap.size (bitsN (a % 8) 3)) (hF : Fr noB w w2) => hput_bad w.heap.size v cv L C _ s w2 h (fun w' hF' => ⟨hv.later hF hF' (fun b hb e => by rcases e with rfl | ⟨e, _⟩ <;> omega), hcv.later hF hF' (fun b hb e => by rcases e with rfl | ⟨e, _⟩ <;> omega)⟩) hC hbad (by simp)
  have HV : Hid (Ns .i64 w v L) := hv
  have HCV : Hid (Ns .u32 w cv C) := hcv
  obtain ⟨ao, acap, rfl, a1, a2, a4, a3⟩ := hv
  obtain ⟨bo, bcap, rfl, b1, b2, b4, b3⟩ := hcv
  clear a3 b3
  unfold maxLen at a2 b2
  go_enter Try.func7, Try.ntmps7
  go_wp2_with fail
  refine (newWriter_any w).mono ?_
  rintro e w1 ⟨rfl, hW1, hF1, _⟩
  go_wp2_with fail
  refine (front_any a w.heap.size w1 hW1).mono ?_
  rintro e w2 ⟨rfl, hW2, hF2⟩
  have hF3 := wS_new hF1 hF2 (Nat.le_refl _)
  go_wp2_with fail
  refine (HPB _ hW2 hF3).mono ?_
  rintro e w3 ⟨rfl, hW3, hF4⟩
  have hF5 := wS_new hF3 hF4 (Nat.le_refl _)
  have n1 := HV.out.keep hF5
  have n2 := HCV.out.keep hF5
  clear HPB hW2 hW1 hF1 hF2 hF3 hF4
  rcases hbad with hb | ⟨hLC, hb⟩ | ⟨hLC, hs0, hs1, hb⟩
  · clear n1 n2
    go_wp2_with fail
    go_quiet (fail)
    go_wp2_with fail
    refine (begun_any _).mono ?_
    rintro e w4 ⟨rfl, hF6⟩
    have hF7 := ((Fr.refl noB w3).drewN nq).trans hF6
    obtain ⟨sv, hA, _⟩ := hW3.keep hF7
    rw [bitsN_length] at hA
    go_wp2_with fail
    refine (wlen_any w.heap.size 3 sv w4 hA).mono ?_
    rintro e w5 ⟨rfl, rfl⟩
    go_wp2_with fail
    go_ret
    exact ⟨rfl, (hF5.trans hF7).below (Nat.le_refl _) (fun k hk => hk.elim)⟩
  · obtain ⟨N, hN1, hN2⟩ : ∃ N, L.length = N ∧ C.length = N := ⟨_, rfl, by omega⟩
    rw [hN1] at a1 hb ⊢
    rw [hN2] at b1 ⊢
    clear hN1 hN2 hLC n1 n2
    rcases hb with hb | hb
    · have hb' : decide (0 ≤ s) = false := by simpa using hb
      go_wp2_with fail
      go_quiet (fail)
      go_wp2_with fail
      refine (begun_any _).mono ?_
      rintro e w4 ⟨rfl, hF6⟩
      have hF7 := ((Fr.refl noB w3).drewN nq).trans hF6
      obtain ⟨sv, hA, _⟩ := hW3.keep hF7
      rw [bitsN_length] at hA
      go_wp2_with fail
      refine (wlen_any w.heap.size 3 sv w4 hA).mono ?_
      rintro e w5 ⟨rfl, rfl⟩
      go_wp2_with fail
      go_ret
      exact ⟨rfl, (hF5.trans hF7).below (Nat.le_refl _) (fun k hk => hk.elim)⟩
    · have hs0 : 0 ≤ s := by omega
      have hs1 : ¬ s < (N : Int) := by omega
      have hs2 : decide (s < (N : Int)) = false := by simpa using hs1
      have hs3 : decide (0 ≤ s) = true := by simpa using hs0
      go_wp2_with fail
      go_quiet (fail)
      go_wp2_with fail
      refine (begun_any _).mono ?_
      rintro e w4 ⟨rfl, hF6⟩
      have hF7 := ((Fr.refl noB w3).drewN nq).trans hF6
      obtain ⟨sv, hA, _⟩ := hW3.keep hF7
      rw [bitsN_length] at hA
      go_wp2_with fail
      refine (wlen_any w.heap.size 3 sv w4 hA).mono ?_
      rintro e w5 ⟨rfl, rfl⟩
      go_wp2_with fail
      go_ret
      exact ⟨rfl, (hF5.trans hF7).below (Nat.le_refl _) (fun k hk => hk.elim)⟩
  · obtain ⟨sn, rfl⟩ := Int.eq_ofNat_of_zero_le hs0
    simp only [Int.toNat_natCast] at hb
    have hsl : sn < L.length := by omega
    have hsc : sn < C.length := by omega
    have hcr := hC _ (List.getElem_mem hsc)
    rw [← getD_int' C sn hsc] at hcr
    obtain ⟨x, hx⟩ : ∃ x, x = L.getD sn 0 := ⟨_, rfl⟩
    obtain ⟨y, hy⟩ : ∃ y, y = C.getD sn 0 := ⟨_, rfl⟩
    rw [← hx, ← hy] at hb
    rw [← hy] at hcr
    have c1 : ∃ b off, ao = some ⟨b, off, none⟩ ∧ w3.cell? ⟨b, off + sn, none⟩ = some (.int .i64 x) := by
      obtain ⟨x1, x2, e1, _, _, _, e2⟩ := n1
      simp at e1
      obtain ⟨rfl, _⟩ := e1
      obtain ⟨b, off, e3, _, e4⟩ := NsAt.get e2 sn hsl
      rw [← getD_int' L sn hsl, ← hx] at e4
      exact ⟨b, off, e3, e4⟩
    have c2 : ∃ b off, bo = some ⟨b, off, none⟩ ∧ w3.cell? ⟨b, off + sn, none⟩ = some (.int .u32 y) := by
      obtain ⟨x1, x2, e1, _, _, _, e2⟩ := n2
      simp at e1
      obtain ⟨rfl, _⟩ := e1
      obtain ⟨b, off, e3, _, e4⟩ := NsAt.get e2 sn hsc
      rw [← getD_int' C sn hsc, ← hy] at e4
      exact ⟨b, off, e3, e4⟩
    obtain ⟨b, off, rfl, c1⟩ := c1
    obtain ⟨b', off', rfl, c2⟩ := c2
    obtain ⟨N, hN1, hN2⟩ : ∃ N, L.length = N ∧ C.length = N := ⟨_, rfl, by omega⟩
    rw [hN1] at a1 hs1 ⊢
    rw [hN2] at b1 ⊢
    clear hN1 hN2 hLC n1 n2 hx hy hsl hsc HV HCV
    rcases hb with hb | hb | ⟨hb1, hb2, hb3⟩
    · have hb' : decide (1 ≤ x) = false := by simp; omega
      go_wp2_with fail
      go_quiet (fail)
      go_wp2_with fail
      refine (begun_any _).mono ?_
      rintro e w4 ⟨rfl, hF6⟩
      have hF7 := ((Fr.refl noB w3).drewN nq).trans hF6
      obtain ⟨sv, hA, _⟩ := hW3.keep hF7
      rw [bitsN_length] at hA
      go_wp2_with fail
      refine (wlen_any w.heap.size 3 sv w4 hA).mono ?_
      rintro e w5 ⟨rfl, rfl⟩
      go_wp2_with fail
      go_ret
      exact ⟨rfl, (hF5.trans hF7).below (Nat.le_refl _) (fun k hk => hk.elim)⟩
    · have hb0 : decide (1 ≤ x) = true := by simp; omega
      have hb1 : decide (x ≤ 15) = false := by simp; omega
      go_wp2_with fail
      go_quiet (fail)
      go_wp2_with fail
      refine (begun_any _).mono ?_
      rintro e w4 ⟨rfl, hF6⟩
      have hF7 := ((Fr.refl noB w3).drewN nq).trans hF6
      obtain ⟨sv, hA, _⟩ := hW3.keep hF7
      rw [bitsN_length] at hA
      go_wp2_with fail
      refine (wlen_any w.heap.size 3 sv w4 hA).mono ?_
      rintro e w5 ⟨rfl, rfl⟩
      go_wp2_with fail
      go_ret
      exact ⟨rfl, (hF5.trans hF7).below (Nat.le_refl _) (fun k hk => hk.elim)⟩
    · have hb0 : decide (1 ≤ x) = true := by simp; omega
      have hb1' : decide (x ≤ 15) = true := by simp; omega
      obtain ⟨xn, rfl⟩ := Int.eq_ofNat_of_zero_le (show 0 ≤ x by omega)
      obtain ⟨yn, rfl⟩ := Int.eq_ofNat_of_zero_le hcr.1
      simp only [Int.toNat_natCast] at hb3
      have hp15 := pow_le_15 xn (by omega)
      have hb5 : decide ((yn : Int) < 2 ^ xn % 4294967296) = false := by rw [two_mod xn (by omega)]; simpa using hb3
      clear hb3
      go_wp2_with fail
      go_quiet (fail)
      go_wp2_with fail
      refine (begun_any _).mono ?_
      rintro e w4 ⟨rfl, hF6⟩
      have hF7 := ((Fr.refl noB w3).drewN nq).trans hF6
      obtain ⟨sv, hA, _⟩ := hW3.keep hF7
      rw [bitsN_length] at hA
      go_wp2_with fail
      refine (wlen_any w.heap.size 3 sv w4 hA).mono ?_
      rintro e w5 ⟨rfl, rfl⟩
      go_wp2_with fail
      go_ret
      exact ⟨rfl, (hF5.trans hF7).below (Nat.le_refl _) (fun k hk => hk.elim)⟩

theorem ge3 (n i : Nat) (h : i < n) : ((n : Int) - 1 - (i : Int)) = ((n - 1 - i : Nat) : Int) := by omega

set_option maxRecDepth 100000 in
set_option maxHeartbeats 1600000 in
theorem puts_good (v cv : Value) (L C : List Int) (s n c a : Nat) (w : World) (hv : Ns .i64 w v L) (hcv : Ns .u32 w cv C) (ha : a < 4294967296)
    (hLC : L.length = C.length) (hs : s < L.length) (hsC : s < C.length) (h1 : L[s] = (n : Int)) (h2 : C[s] = (c : Int)) (hn1 : 1 ≤ n) (hn15 : n ≤ 15) (hc : c < 2 ^ n) :
    Calls Try.prog 7 #[v, cv, .int .i64 (s : Int), .int .u32 (a : Int)] w fun e w' => e = .returned (.bool true) ∧ Below w.heap.size w w' := by
  have HPG := fun w2 (h : WrIs w2 w.heap.size (bitsN (a % 8) 3)) (hF : Fr noB w w2) => hput_good w.heap.size v cv L C _ s n c w2 h (fun w' hF' => ⟨hv.later hF hF' (fun b hb e => by rcases e with rfl | ⟨e, _⟩ <;> omega), hcv.later hF hF' (fun b hb e => by rcases e with rfl | ⟨e, _⟩ <;> omega)⟩) hLC hs h1 h2 hn1 hn15 hc (by simp)
  have HCELL : Hid (∀ w', Fr noB w w' → ∀ ao len acap bo len2 bcap, v = .slice ao len acap → cv = .slice bo len2 bcap → (∃ b off, ao = some ⟨b, off, none⟩ ∧ w'.cell? ⟨b, off + s, none⟩ = some (.int .i64 (n : Int))) ∧ (∃ b off, bo = some ⟨b, off, none⟩ ∧ w'.cell? ⟨b, off + s, none⟩ = some (.int .u32 (c : Int)))) := by
    intro w' hF ao len acap bo len2 bcap e1 e2
    constructor
    · obtain ⟨x1, x2, e, _, _, _, e4⟩ := hv.keep hF
      rw [e1] at e
      simp at e
      obtain ⟨rfl, _⟩ := e
      obtain ⟨b, off, e5, _, e6⟩ := NsAt.get e4 s hs
      exact ⟨b, off, e5, e6.trans (congrArg (fun z => some (Value.int .i64 z)) h1)⟩
    · obtain ⟨x1, x2, e, _, _, _, e4⟩ := hcv.keep hF
      rw [e2] at e
      simp at e
      obtain ⟨rfl, _⟩ := e
      obtain ⟨b, off, e5, _, e6⟩ := NsAt.get e4 s hsC
      exact ⟨b, off, e5, e6.trans (congrArg (fun z => some (Value.int .u32 z)) h2)⟩
  have hp15 := pow_le_15 n hn15
  obtain ⟨ao, acap, rfl, a1, a2, a4, a3⟩ := hv
  obtain ⟨bo, bcap, rfl, b1, b2, b4, b3⟩ := hcv
  clear a3 b3 h1 h2
  unfold maxLen at a2 b2
  obtain ⟨N, hN1, hN2⟩ : ∃ N, L.length = N ∧ C.length = N := ⟨_, rfl, by omega⟩
  have hsN : (s : Int) < (N : Int) := by omega
  rw [hN1] at a1
  rw [hN2] at b1
  rw [hN1, hN2] at HPG ⊢
  clear hN1 hN2 hLC hs hsC
  go_enter Try.func7, Try.ntmps7
  go_wp2_with fail
  refine (newWriter_any w).mono ?_
  rintro e w1 ⟨rfl, hW1, hF1, _⟩
  go_wp2_with fail
  refine (front_any a w.heap.size w1 hW1).mono ?_
  rintro e w2 ⟨rfl, hW2, hF2⟩
  have hF3 := wS_new hF1 hF2 (Nat.le_refl _)
  go_wp2_with fail
  refine (HPG _ hW2 hF3).mono ?_
  rintro e w3 ⟨rfl, hW3, hF4⟩
  have hF5 := wS_new hF3 hF4 (Nat.le_refl _)
  clear HPG hW2 hW1 hF1 hF2 hF3 hF4
  obtain ⟨⟨b, off, rfl, c1⟩, ⟨b', off', rfl, c2⟩⟩ := HCELL.out w3 hF5 _ _ _ _ _ _ rfl rfl
  have hb0 : decide ((1 : Int) ≤ (n : Int)) = true := by simp; omega
  have hb1 : decide ((n : Int) ≤ 15) = true := by simp; omega
  have hb2 : decide ((c : Int) < 2 ^ n % 4294967296) = true := by
    rw [two_mod n hn15]
    have : (c : Int) < ((2 ^ n : Nat) : Int) := by omega
    simpa using this
  go_wp2_with fail
  go_quiet (fail)
  go_wp2_with fail
  refine (begun_any _).mono ?_
  rintro e w4 ⟨rfl, hF6⟩
  have hF7 := ((Fr.refl noB w3).drewN nq).trans hF6
  have hW4 := hW3.keep hF7
  obtain ⟨l, hl⟩ : ∃ l, l = bitsN (a % 8) 3 ++ bitsN (revN c n) n := ⟨_, rfl⟩
  have hll : l.length = 3 + n := by rw [hl]; simp
  have HBIT : Hid (∀ i, i < n → bitQ (packB l) (3 + i) = bitN c (n - 1 - i)) := by
    intro i hi
    have := put_bit (bitsN (a % 8) 3) c n i hi
    rw [bitsN_length] at this
    rw [hl]
    exact this
  rw [← hl] at hW4
  have HPL : (packB l).length = (3 + n + 7) / 8 := by rw [packB_length, hll]
  have HO := wout_any w.heap.size l w4 hW4 (by omega)
  have hP256 := packB_lt l
  generalize packB l = P at *
  clear hl hW3
  go_wp2_with fail
  refine HO.mono ?_
  rintro e w5 ⟨ov, rfl, hown, hF8⟩
  have hF9 := (hF5.trans hF7).trans hF8
  have hbs := bs_of_own rfl hown
  have hW5 := hW4.keep hF8
  obtain ⟨sv, hA5, _⟩ := hW5
  rw [hll] at hA5
  obtain ⟨⟨y1, y2, y3, c1'⟩, ⟨z1, z2, z3, c2'⟩⟩ := HCELL.out w5 hF9 _ _ _ _ _ _ rfl rfl
  simp at y3 z3
  obtain ⟨rfl, rfl⟩ := y3
  obtain ⟨rfl, rfl⟩ := z3
  have HB := fun i (hi : i < n) m => refbit_any ov P (3 + i) (w5.drewN m) hbs hP256 (by rw [HPL]; omega) (by rw [HPL]; omega)
  obtain ⟨oo, ocap, hov, _⟩ : ∃ oo cap, ov = .slice oo P.length cap ∧ True := by
    obtain ⟨oo, cap, e, _⟩ := hbs
    exact ⟨oo, cap, e, trivial⟩
  subst hov
  clear hown HO hW4 hbs HPL hll c1 c2 hF7 hF8 hF6
  go_wp2_with fail
  go_loopw [97] (fun i wr => ∃ k : Nat, k ≤ n ∧ i = .int .i64 (k : Int) ∧ ∃ m, wr = w5.drewN m) (fun i _ => n - (intOf i).toNat)
  case atStart => exact ⟨0, Nat.zero_le _, rfl, 0, rfl⟩
  case round =>
    obtain ⟨k, hk, rfl, m, rfl⟩ := hrel
    by_cases hlt : k < n
    · have HBK := HB k hlt m
      rw [HBIT.out k hlt] at HBK
      have hadd : ((3 + k : Nat) : Int) = 3 + (k : Int) := by omega
      rw [hadd] at HBK
      have hand := and_one c (n - 1 - k) (by omega)
      have hsub := ge3 n k hlt
      clear hadd HB
      go_wp2_with fail
      refine HBK.mono ?_
      rintro e w6 ⟨rfl, rfl⟩
      go_wp2_with fail
      go_quiet (fail)
      go_wp2_with fail
      go_roundw
      case rel => exact ⟨k + 1, by omega, by go_num, _, rfl⟩
      case measure => simp [intOf]; omega
    · have hadd : ((3 + n : Nat) : Int) = 3 + (n : Int) := by omega
      have HLEN2 := wlen_any w.heap.size (3 + n) sv (w5.drewN m).drew hA5
      rw [hadd] at HLEN2
      have c6 : (w5.drewN m).drew.cell? ⟨b, off + s, none⟩ = some (.int .i64 (n : Int)) := c1'
      clear HB hadd
      go_wp2_with fail
      go_region_held3 (fun w' => w'.cell? ⟨b, off + s, none⟩ = some (.int .i64 (n : Int))) (exact c6) (first | (go_at_call 29; refine HLEN2.mono ?_; rintro e w6 ⟨rfl, rfl⟩))
      go_wp2_with fail
      go_ret
      exact ⟨ret_bool (by rw [beq_iff_eq, IntKind.wrap_i64]; omega), ((hF9.drewN _).drew).below (Nat.le_refl _) (fun k hk => hk.elim)⟩

theorem puts_walk (v cv : Value) (L C : List Int) (s : Int) (a : Int) (w : World) (hv : Ns .i64 w v L) (hcv : Ns .u32 w cv C) (hC : ∀ x ∈ C, 0 ≤ x ∧ x < 4294967296) (ha0 : 0 ≤ a) (ha : a < 4294967296) :
    Calls Try.prog 7 #[v, cv, .int .i64 s, .int .u32 a] w fun e w' => e = .returned (.bool true) ∧ Below w.heap.size w w' := by
  obtain ⟨a, rfl⟩ := Int.eq_ofNat_of_zero_le ha0
  by_cases hLC : L.length = C.length
  · by_cases hs : s < 0 ∨ (L.length : Int) ≤ s
    · exact puts_bad v cv L C s a w hv hcv hC (by omega) (Or.inr (Or.inl ⟨hLC, hs⟩))
    · obtain ⟨sn, rfl⟩ := Int.eq_ofNat_of_zero_le (show 0 ≤ s by omega)
      have hsl : sn < L.length := by omega
      have hsc : sn < C.length := by omega
      have hcr := hC _ (List.getElem_mem hsc)
      by_cases hb : L.getD sn 0 < 1 ∨ 15 < L.getD sn 0 ∨ (1 ≤ L.getD sn 0 ∧ L.getD sn 0 ≤ 15 ∧ 2 ^ (L.getD sn 0).toNat ≤ C.getD sn 0)
      · exact puts_bad v cv L C sn a w hv hcv hC (by omega) (Or.inr (Or.inr ⟨hLC, by omega, by omega, by simpa using hb⟩))
      · rw [getD_int' L sn hsl, getD_int' C sn hsc] at hb
        obtain ⟨n, hn⟩ := Int.eq_ofNat_of_zero_le (show 0 ≤ L[sn] by omega)
        obtain ⟨c, hc⟩ := Int.eq_ofNat_of_zero_le hcr.1
        have hlt : c < 2 ^ n := by
          rcases Nat.lt_or_ge c (2 ^ n) with h | h
          · exact h
          · exfalso
            apply hb
            right; right
            refine ⟨by omega, by omega, ?_⟩
            rw [hn, hc]
            simp only [Int.toNat_natCast]
            have : ((2 ^ n : Nat) : Int) ≤ (c : Int) := by omega
            simpa using this
        exact puts_good v cv L C sn n c a w hv hcv (by omega) hLC hsl hsc hn hc (by omega) (by omega) hlt
  · exact puts_bad v cv L C s a w hv hcv hC (by omega) (Or.inl hLC)
#print axioms puts_walk
end Go.Proofs.Ytdggaphhamaelaa
