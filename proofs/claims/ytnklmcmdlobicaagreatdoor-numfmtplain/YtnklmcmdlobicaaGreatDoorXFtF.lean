/- ftoa64 and FormatFloat with the format f and all places told: their contracts. -/
import Derived.Test.YtnklmcmdlobicaaGreatDoorXEfF
import Derived.Test.YtnklmcmdlobicaaGreatDoorNFmt
import Derived.Test.YtnklmcmdlobicaaGreatDoorXRou
namespace Go.Proofs.YtnklmcmdlobicaaGreatDoor
open Go.RowKit Ieee Go.Shelf

/-- The variable optimize is true. -/
def OTab (w : World) : Prop := 3 < w.heap.size ∧ w.cell? ⟨3, 0, none⟩ = some (.bool true)
theorem OTab.fr {w w' : World} (h : OTab w) (hF : Fr noB w w') : OTab w' := ⟨Nat.lt_of_lt_of_le h.1 hF.size, (hF.cell (a := ⟨3, 0, none⟩) h.1 (fun h => h.elim)).trans h.2⟩
theorem CTab.low {S : Nat → Prop} {w w' : World} {M : Nat} (h : CTab w M) (hF : Fr S w w') (hS : ∀ q, q < M → ¬ S q) : CTab w' M := by
  obtain ⟨tb, o, c, T, h1, h2, h3, h4, h5⟩ := h
  refine ⟨tb, o, c, T, h1, h2, Nat.le_trans h3 hF.size, ?_, fun k hk => ?_⟩
  · exact (hF.cell (a := ⟨12, 0, none⟩) (Nat.lt_of_lt_of_le h1 h3) (hS _ h1)).trans h4
  · obtain ⟨a, b, c, d⟩ := h5 k hk
    exact ⟨(hF.cell (a := ⟨tb, o + k * 2, none⟩) (Nat.lt_of_lt_of_le h2 h3) (hS _ h2)).trans a, (hF.cell (a := ⟨tb, o + k * 2 + 1, none⟩) (Nat.lt_of_lt_of_le h2 h3) (hS _ h2)).trans b, c, d⟩
theorem rshs_dp : ∀ (f q : Nat) (x : List Nat × Int), q ≤ 60 + 60 * f → GoodD x.1 → (rshs f q x).2 ≤ x.2
  | 0, q, x, hq, h => (rsh_dp q x.1 x.2 (by omega) h).2
  | f + 1, q, x, hq, h => by
    unfold rshs
    split
    · exact Int.le_trans (rshs_dp f (q - 60) (rsh 60 x.1 x.2) (by omega) (rsh_good 60 x.1 x.2 h).1) (rsh_dp 60 x.1 x.2 (by omega) h).2
    · exact (rsh_dp q x.1 x.2 (by omega) h).2
theorem asg_dp (m : Nat) : (asgD m).2 ≤ 20 := by
  have hl : ∀ (f n : Nat), (ls2 f n).length ≤ f := by
    intro f
    induction f with
    | zero => intro n; exact Nat.le_refl _
    | succ f ih =>
      intro n
      unfold ls2
      split
      · exact Nat.zero_le _
      · simp only [List.length_cons]; exact Nat.succ_le_succ (ih _)
  have := hl 20 m
  unfold asgD trimP
  simp only
  split <;> omega
theorem dec_dp (m : Nat) (e : Int) (h0 : m ≠ 0) (h : m < 10 ^ 20) (h1 : -1074 ≤ e) (h2 : e ≤ 971) : (decOf m e).2 ≤ 400 := by
  have g1 := (asg_good m h0 h).1
  have ha := asg_dp m
  unfold decOf
  split
  · omega
  · split
    · have := lshs_dp 20 e.toNat (asgD m) (by omega) (by omega) g1
      omega
    · have := rshs_dp 20 (-e).toNat (asgD m) (by omega) g1
      omega
/-- A float's digits, all of them, and its point. -/
def aD (x : Nat) : List Nat := (decOf (mantOf x) (expOf x - 52)).1.map (48 + ·)
def aP (x : Nat) : Int := (decOf (mantOf x) (expOf x - 52)).2
theorem a_facts (x : Nat) (hx0 : 0 < x) (hx : x < 9218868437227405312) : 1 ≤ (aD x).length ∧ (aD x).length ≤ 800 ∧ ((aD x).length : Int) - aP x ≤ 1074 ∧ aP x ≤ 400 ∧ ∀ y ∈ aD x, 48 ≤ y ∧ y ≤ 57 := by
  have hm : 0 < mantOf x ∧ mantOf x < 9007199254740992 := by
    obtain ⟨a, b, _⟩ := nm_facts x hx0 hx
    exact ⟨a, b⟩
  have he : -1074 ≤ expOf x - 52 ∧ expOf x - 52 ≤ 971 := by
    unfold expOf
    split <;> omega
  obtain ⟨g1, g2⟩ := dec_good (mantOf x) (expOf x - 52) (by omega) (by omega) he.1 he.2
  have g3 := dec_dp (mantOf x) (expOf x - 52) (by omega) (by omega) he.1 he.2
  obtain ⟨⟨a, t, e, _⟩, h9, h8⟩ := g1
  unfold aD aP
  rw [List.length_map]
  refine ⟨by rw [e]; simp, h8, g2, g3, fun y hy => ?_⟩
  obtain ⟨d, hd, rfl⟩ := List.mem_map.1 hy
  have := h9 d hd
  omega
/-- Its text with P places. -/
def fText (x P : Nat) : List Nat := fInt (aD x) (aP x) ++ 46 :: fFrac (aD x) (aP x) P
theorem zeroDec : Tryz.zeroCells187 = dCells (List.replicate 800 0) 0 0 false := by kernel_rfl
theorem efgf_any (B base : Nat) (so : Option Addr) (sc : Nat) (Ds : List Nat) (dp : Int) (P : Nat) (w : World) (hn1 : 1 ≤ Ds.length) (hn2 : Ds.length ≤ 800) (hd2 : dp ≤ 400) (hP : (Ds.length : Int) - dp ≤ P) (hP1 : 1 ≤ P) (hP2 : P ≤ 1200) (hv : w.ownsRow base 5 1 (.slice so 0 sc) 0 []) (hbase : base ≤ w.heap.size)
    (hB : ∀ j (hj : j < Ds.length), w.cell? ⟨B, j, none⟩ = some (.int .u8 ((Ds[j] : Nat) : Int))) (hBb : B < w.heap.size) (hne : ∀ k, (Value.slice so 0 sc).ownBlock = some k → k ≠ B) :
    Calls Tryz.prog 173 #[.slice so 0 sc, .bool false, .slice (some ⟨B, 0, none⟩) 800 800, .int .i64 dp, .int .i64 (Ds.length : Int), .int .i64 (P : Int), .int .u8 102, .bool false] w fun e w' => ∃ v', e = .returned v' ∧ Own w base (.slice so 0 sc) (fInt Ds dp ++ 46 :: fFrac Ds dp P) w' v' := by
  by_cases h : 0 < dp
  · obtain ⟨D, rfl⟩ : ∃ D : Nat, dp = (D : Int) := ⟨dp.toNat, by omega⟩
    exact efgf_pos B base so sc Ds D P w hn1 hn2 (by omega) (by omega) (by omega) hP1 hP2 hv hbase hB hBb hne
  · obtain ⟨z, rfl⟩ : ∃ z : Nat, dp = -(z : Int) := ⟨(-dp).toNat, by omega⟩
    exact efgf_neg B base so sc Ds z P w hn2 (by omega) hP1 hP2 hv hbase hB hBb hne
theorem DecIs.dpc {w : World} {b : Nat} {L : List Nat} {dp : Int} (h : DecIs w b L dp) : w.cell? ⟨b, 801, none⟩ = some (.int .i64 dp) := by
  obtain ⟨C, tr, h1, _⟩ := h
  exact h1.dp
theorem DecIs.ndc {w : World} {b : Nat} {L : List Nat} {dp : Int} (h : DecIs w b L dp) : w.cell? ⟨b, 800, none⟩ = some (.int .i64 (L.length : Int)) := by
  obtain ⟨C, tr, h1, _⟩ := h
  exact h1.nd
set_option maxRecDepth 100000 in
set_option maxHeartbeats 4000000 in
theorem ftoaf_any (x base P M : Nat) (so : Option Addr) (sc : Nat) (w : World) (hx0 : 0 < x) (hx : x < 9218868437227405312) (hP1 : 1074 ≤ P) (hP2 : P ≤ 1100) (hv : w.ownsRow base 5 1 (.slice so 0 sc) 0 []) (hbase : base ≤ w.heap.size) (hO : OTab w) (hT : CTab w M) :
    Calls Tryz.prog 108 #[.slice so 0 sc, .float .f64 x, .int .u8 102, .int .i64 (P : Int)] w fun e w' => ∃ v', e = .returned v' ∧ Own w base (.slice so 0 sc) (fText x P) w' v' := by
  have h1 : ∀ W, _ := run_bits2 x
  obtain ⟨k1, k2, _⟩ := nm_facts x hx0 hx
  obtain ⟨a1, a2, a3, a4, a5⟩ := a_facts x hx0 hx
  have hopt := hO.2
  have HT : Hid (CTab w M) := hT
  have HMw : Hid (M ≤ w.heap.size) := by obtain ⟨_, _, _, _, _, _, h, _⟩ := hT; exact h
  obtain ⟨E, hE⟩ : ∃ E, x / 4503599627370496 = E := ⟨_, rfl⟩
  obtain ⟨F, hF⟩ : ∃ F, x % 4503599627370496 = F := ⟨_, rfl⟩
  have f0 : (x : Int) / 9223372036854775808 = 0 := by omega
  have f1 : (x : Int) / 4503599627370496 = (E : Int) := by omega
  have hE2 : E < 2047 := by omega
  have hF2 : F < 4503599627370496 := by omega
  have f2 : bits .and .i64 (E : Int) 2047 = (E : Int) := by
    rw [show (2047 : Int) = ((2047 : Nat) : Int) from rfl, i64_and_nat _ _ (by omega) (by omega)]
    congr 1
    exact (Nat.and_two_pow_sub_one_eq_mod E 11).trans (Nat.mod_eq_of_lt (by omega))
  have f3 : bits .and .u64 (x : Int) 4503599627370495 = (F : Int) := by
    rw [show (4503599627370495 : Int) = ((4503599627370495 : Nat) : Int) from rfl, u64_and_nat _ _ (by omega) (by omega)]
    congr 1
    rw [← hF]
    exact Nat.and_two_pow_sub_one_eq_mod x 52
  obtain ⟨MM, hM⟩ : ∃ M, mantOf x = M := ⟨_, rfl⟩
  rw [hM] at k1 k2
  obtain ⟨sx, hsx⟩ : ∃ s : Int, expOf x - 52 = s := ⟨_, rfl⟩
  have hs1 : -1074 ≤ sx ∧ sx ≤ 971 := by rw [← hsx]; unfold expOf; split <;> omega
  have HADD : Hid (∀ (W : World) (b : Nat), Fr noB w W → M ≤ b → W.heap[b]? = some (.cells Tryz.zeroCells187 187 (0, 0)) → Calls Tryz.prog 180 #[.pointer (some ⟨b, 0, none⟩), .int .u64 (MM : Int)] W fun e w' => e = .returned (.tuple #[]) ∧ DecIs w' b (asgD MM).1 (asgD MM).2 ∧ Fr (oneB b) W w') := fun W b _ _ hb => asg_any b MM (List.replicate 800 0) 0 0 false W ⟨by rw [hb, zeroDec], by simp⟩ (by omega)
  have HSH : Hid (∀ (W : World) (b : Nat), CTab W M → M ≤ b → DecIs W b (asgD MM).1 (asgD MM).2 → Calls Tryz.prog 181 #[.pointer (some ⟨b, 0, none⟩), .int .i64 sx] W fun e w' => e = .returned (.tuple #[]) ∧ DecIs w' b (decOf MM sx).1 (decOf MM sx).2 ∧ Fr (oneB b) W w') := by
    intro W b hW hb hD
    have hg := asg_good MM (by omega) (by omega)
    have hd := asg_dp MM
    have := hg.1.2.2
    exact shift_any b M sx (asgD MM).1 (asgD MM).2 W hs1.1 hs1.2 hD hg.1 (by omega) (by omega) hW hb
  have HAD : Hid (aD x = (decOf MM sx).1.map (48 + ·) ∧ aP x = (decOf MM sx).2) := by
    show _ ∧ _
    unfold aD aP
    rw [hM, hsx]
    exact ⟨rfl, rfl⟩
  obtain ⟨Lx, hLx⟩ : ∃ L, (decOf MM sx).1 = L := ⟨_, rfl⟩
  obtain ⟨dpx, hdpx⟩ : ∃ L, (decOf MM sx).2 = L := ⟨_, rfl⟩
  rw [hLx, hdpx] at HAD HSH
  have hL8 : Lx.length ≤ 800 ∧ 1 ≤ Lx.length ∧ (Lx.length : Int) - dpx ≤ 1074 ∧ dpx ≤ 400 := by
    have e1 := congrArg List.length HAD.out.1
    rw [List.length_map] at e1
    have e2 := HAD.out.2
    refine ⟨by omega, by omega, by omega, by omega⟩
  obtain ⟨nx, hnx⟩ : ∃ n, Lx.length = n := ⟨_, rfl⟩
  rw [hnx] at hL8
  obtain ⟨g1, g2, g3, g4⟩ := hL8
  have HNX : Hid (Lx.length = nx) := hnx
  have HEF : Hid (∀ (W : World) (b : Nat), Fr (oneB b) w W → w.heap.size ≤ b → DecIs W b Lx dpx → Calls Tryz.prog 173 #[.slice so 0 sc, .bool false, .slice (some ⟨b, 0, none⟩) 800 800, .int .i64 dpx, .int .i64 (nx : Int), .int .i64 (P : Int), .int .u8 102, .bool false] W fun e w' => ∃ v', e = .returned v' ∧ Own w base (.slice so 0 sc) (fText x P) w' v' ∧ w'.cell? ⟨b, 801, none⟩ = W.cell? ⟨b, 801, none⟩ ∧ w'.cell? ⟨b, 800, none⟩ = W.cell? ⟨b, 800, none⟩) := by
    intro W b hFr hb hD
    obtain ⟨C, tr, hD1, h8, hC⟩ := hD
    have hbl : b < W.heap.size := lt_of_block hD1.1
    have hlen : (aD x).length = nx := by rw [HAD.out.1, List.length_map]; exact hnx
    have hvf := hv.2
    have hnb : ∀ k, (Value.slice so 0 sc).ownBlock = some k → k ≠ b := by
      intro k hk hkB
      rcases hvf with ⟨hvf, _⟩ | ⟨g, cap, cur, q1, q2, q3, _⟩
      · rw [hvf] at hk; cases hk
      · rw [q1] at hk
        simp [Value.ownBlock] at hk
        have := lt_of_block q3
        omega
    have h := efgf_any b base so sc (aD x) (aP x) P W a1 a2 a4 (by omega) (by omega) (by omega)
      (by
        refine ⟨rfl, ?_⟩
        rcases hvf with hvf | ⟨g, cap, cur, q1, q2, q3, q4, q5, q6, q7⟩
        · exact Or.inl hvf
        · exact Or.inr ⟨g, cap, cur, q1, q2, hFr.obj q3 (fun h => by have h' : g = b := h; have := lt_of_block q3; omega), q4, q5, q6, q7⟩)
      (by have := hFr.size; omega)
      (by
        intro j hj
        have hj' : j < Lx.length := by omega
        rw [hD1.cell j (by omega), hC j hj']
        have : (aD x)[j] = 48 + Lx[j] := by simp [HAD.out.1]
        rw [this])
      hbl hnb
    rw [hlen, HAD.out.2] at h
    refine h.mono ?_
    rintro e w' ⟨v', rfl, ho⟩
    refine ⟨v', rfl, ?_, ho.fr.cell (a := ⟨b, 801, none⟩) hbl (fun hk => hnb b hk rfl), ho.fr.cell (a := ⟨b, 800, none⟩) hbl (fun hk => hnb b hk rfl)⟩
    have hFA : Fr (fun k => (Value.slice so 0 sc).ownBlock = some k) w W := (Fr.refl _ w).then hFr (fun k hk => Or.inr (by have hk' : k = b := hk; omega))
    refine ⟨?_, hFA.trans ho.fr, ?_, ho.bs⟩
    · unfold fText
      rw [HAD.out.2]
      exact ho.row
    · rcases ho.at_ with e | ⟨k, e, hk⟩
      · exact Or.inl e
      · exact Or.inr ⟨k, e, Nat.le_trans hFA.size hk⟩
  have HV : Hid _ := And.intro hv hbase
  generalize fText x P = TX at *
  clear hLx hdpx hnx HAD a1 a2 a3 a4 a5 hv hbase hO hT hx0
  by_cases hE0 : E = 0
  · skip
    have hM2 : F = MM := by rw [← hM]; unfold mantOf; rw [hE, if_pos hE0, hF]
    have f8 : (-1022 : Int) - 52 = sx := by rw [← hsx]; unfold expOf; rw [hE, if_pos hE0]; omega
    have g1' : (x : Int) / 4503599627370496 = 0 := by omega
    have g2' : bits .and .i64 0 2047 = 0 := by decide
    have g3' : bits .and .u64 (x : Int) 4503599627370495 = (MM : Int) := by rw [f3, hM2]
    have hM0 : ¬ (MM : Int) = 0 := by omega
    have HLG := l10_any 1022 (by omega) (by omega)
    have hlg : l10 1022 = 307 := by decide
    rw [hlg] at HLG
    have hdg : ¬ 1 + (P : Int) - 307 ≤ 18 := by omega
    have hPn : ¬ (P : Int) < 0 := by omega
    have hsxe : sx = -1074 := by omega
    subst hsxe
    clear f1 f2 f3 hE hF hM hM2 hE0 hE2 hF2 hsx f8
    go_enter Tryz.func108, Tryz.ntmps108
    go_wp2_with fail
    go_quiet (fail)
    go_wp2_with (go_at_call 178; with_reducible refine (HLG _).mono ?_; rintro e wl ⟨rfl, rfl⟩)
    obtain ⟨W1, hW1⟩ : ∃ W1, (w.drewN nq).alloc (.cells Tryz.zeroCells187 187 (0, 0)) = W1 := ⟨_, rfl⟩
    obtain ⟨B, hB⟩ : ∃ B, w.heap.size = B := ⟨_, rfl⟩
    have hB1 : W1.heap[B]? = some (.cells Tryz.zeroCells187 187 (0, 0)) := by rw [← hW1, ← hB]; exact heap_alloc_new (w.drewN nq) _
    have hF1 : Fr noB w W1 := by rw [← hW1]; exact ((Fr.refl noB w).drewN nq).alloc _
    rw [hW1, hB]
    have HWB : Hid (w.heap.size = B) := hB
    have HF1 : Hid (Fr noB w W1) := hF1
    have HA := HADD.out W1 B hF1 (by have := HMw.out; omega) hB1
    clear hW1 hB hF1 hB1 HLG
    refine HA.mono ?_
    rintro e w2 ⟨rfl, hI2, hF2⟩
    have HF2 : Hid (Fr (oneB B) w w2) := HF1.out.weak.trans hF2
    have HS := HSH.out w2 B (HT.out.low HF2.out (fun q hq hh => by have hh' : q = B := hh; have := HMw.out; have := HWB.out; omega)) (by have := HMw.out; have := HWB.out; omega) hI2
    clear hI2 hF2 HA
    go_wp2_with (first
      | (go_at_call 181; with_reducible refine HS.mono ?_; rintro e w3 ⟨rfl, hI3, hF3⟩; have HR := dround_any B (dpx + (P : Int)) Lx dpx w3 hI3 (by have := HNX.out; omega); have HQ := HEF.out w3.drew B ((HF2.out.trans hF3).drew) (by have := HWB.out; omega) (hI3.keep ((Fr.refl noB w3).drew) id); have c1 := hI3.dpc; have c2 := hI3.ndc; rw [HNX.out] at c2; clear hI3 hF3)
      | (go_at_call 182; with_reducible refine HR.mono ?_; rintro e w4 ⟨rfl, hw4⟩; obtain rfl : w3 = w4 := hw4.symm))
    have c1d : w3.drew.cell? ⟨B, 801, none⟩ = some (.int .i64 dpx) := c1
    have c2d : w3.drew.cell? ⟨B, 800, none⟩ = some (.int .i64 (nx : Int)) := c2
    go_region_held3 (fun w' => w'.cell? ⟨B, 801, none⟩ = some (.int .i64 dpx) ∧ w'.cell? ⟨B, 800, none⟩ = some (.int .i64 (nx : Int))) (first | exact ⟨c1d, c2d⟩ | exact ⟨e1, e2⟩) ((go_at_call 173; with_reducible refine HQ.mono ?_; rintro e w5 ⟨v', rfl, hO5, e1, e2⟩; rw [c1d] at e1; rw [c2d] at e2))
    go_wp2_with fail
    go_ret
    exact ⟨_, rfl, hO5⟩
  · by_cases hEn : E < 1023
    · skip
      have f4 : bits .or .u64 (F : Int) 4503599627370496 = (MM : Int) := by
        rw [show (4503599627370496 : Int) = ((4503599627370496 : Nat) : Int) from rfl, u64_or_nat _ _ (by omega) (by omega)]
        congr 1
        rw [Nat.or_comm]
        have := Nat.two_pow_add_eq_or_of_lt (i := 52) (b := F) (by omega) 1
        rw [show (2 : Nat) ^ 52 * 1 = 4503599627370496 by decide] at this
        rw [← this, ← hM]
        unfold mantOf
        rw [hE, if_neg hE0, hF]
        omega
      obtain ⟨ex, hex⟩ : ∃ ex : Int, (E : Int) + -1023 = ex := ⟨_, rfl⟩
      have f8 : ex - 52 = sx := by rw [← hsx]; unfold expOf; rw [hE, if_neg hE0]; omega
      have hE1 : ¬ (E : Int) = 0 := by omega
      have hE3 : ¬ (E : Int) = 2047 := by omega
      have hM0 : ¬ (MM : Int) = 0 := by omega
      have hPn : ¬ (P : Int) < 0 := by omega
      have hexn : ¬ 0 ≤ ex := by omega
      obtain ⟨ln, hln⟩ : ∃ ln : Int, l10 (-ex) = ln := ⟨_, rfl⟩
      have hlb : 0 ≤ ln ∧ ln ≤ 310 := by rw [← hln]; unfold l10; omega
      have HLG := l10_any (-ex) (by omega) (by omega)
      rw [hln] at HLG
      have hdg : ¬ 1 + (P : Int) - ln ≤ 18 := by omega
      clear hE hF hM hsx hln
      go_enter Tryz.func108, Tryz.ntmps108
      go_wp2_with fail
      go_quiet (fail)
      go_wp2_with (go_at_call 178; with_reducible refine (HLG _).mono ?_; rintro e wl ⟨rfl, rfl⟩)
      obtain ⟨W1, hW1⟩ : ∃ W1, (w.drewN nq).alloc (.cells Tryz.zeroCells187 187 (0, 0)) = W1 := ⟨_, rfl⟩
      obtain ⟨B, hB⟩ : ∃ B, w.heap.size = B := ⟨_, rfl⟩
      have hB1 : W1.heap[B]? = some (.cells Tryz.zeroCells187 187 (0, 0)) := by rw [← hW1, ← hB]; exact heap_alloc_new (w.drewN nq) _
      have hF1 : Fr noB w W1 := by rw [← hW1]; exact ((Fr.refl noB w).drewN nq).alloc _
      rw [hW1, hB]
      have HWB : Hid (w.heap.size = B) := hB
      have HF1 : Hid (Fr noB w W1) := hF1
      have HA := HADD.out W1 B hF1 (by have := HMw.out; omega) hB1
      clear hW1 hB hF1 hB1 HLG
      refine HA.mono ?_
      rintro e w2 ⟨rfl, hI2, hF2⟩
      have HF2 : Hid (Fr (oneB B) w w2) := HF1.out.weak.trans hF2
      have HS := HSH.out w2 B (HT.out.low HF2.out (fun q hq hh => by have hh' : q = B := hh; have := HMw.out; have := HWB.out; omega)) (by have := HMw.out; have := HWB.out; omega) hI2
      clear hI2 hF2 HA
      go_wp2_with (first
        | (go_at_call 181; with_reducible refine HS.mono ?_; rintro e w3 ⟨rfl, hI3, hF3⟩; have HR := dround_any B (dpx + (P : Int)) Lx dpx w3 hI3 (by have := HNX.out; omega); have HQ := HEF.out w3.drew B ((HF2.out.trans hF3).drew) (by have := HWB.out; omega) (hI3.keep ((Fr.refl noB w3).drew) id); have c1 := hI3.dpc; have c2 := hI3.ndc; rw [HNX.out] at c2; clear hI3 hF3)
        | (go_at_call 182; with_reducible refine HR.mono ?_; rintro e w4 ⟨rfl, hw4⟩; obtain rfl : w3 = w4 := hw4.symm))
      have c1d : w3.drew.cell? ⟨B, 801, none⟩ = some (.int .i64 dpx) := c1
      have c2d : w3.drew.cell? ⟨B, 800, none⟩ = some (.int .i64 (nx : Int)) := c2
      go_region_held3 (fun w' => w'.cell? ⟨B, 801, none⟩ = some (.int .i64 dpx) ∧ w'.cell? ⟨B, 800, none⟩ = some (.int .i64 (nx : Int))) (first | exact ⟨c1d, c2d⟩ | exact ⟨e1, e2⟩) ((go_at_call 173; with_reducible refine HQ.mono ?_; rintro e w5 ⟨v', rfl, hO5, e1, e2⟩; rw [c1d] at e1; rw [c2d] at e2))
      go_wp2_with fail
      go_ret
      exact ⟨_, rfl, hO5⟩
    · skip
      have f4 : bits .or .u64 (F : Int) 4503599627370496 = (MM : Int) := by
        rw [show (4503599627370496 : Int) = ((4503599627370496 : Nat) : Int) from rfl, u64_or_nat _ _ (by omega) (by omega)]
        congr 1
        rw [Nat.or_comm]
        have := Nat.two_pow_add_eq_or_of_lt (i := 52) (b := F) (by omega) 1
        rw [show (2 : Nat) ^ 52 * 1 = 4503599627370496 by decide] at this
        rw [← this, ← hM]
        unfold mantOf
        rw [hE, if_neg hE0, hF]
        omega
      obtain ⟨ex, hex⟩ : ∃ ex : Int, (E : Int) + -1023 = ex := ⟨_, rfl⟩
      have f8 : ex - 52 = sx := by rw [← hsx]; unfold expOf; rw [hE, if_neg hE0]; omega
      have hE1 : ¬ (E : Int) = 0 := by omega
      have hE3 : ¬ (E : Int) = 2047 := by omega
      have hM0 : ¬ (MM : Int) = 0 := by omega
      have hPn : ¬ (P : Int) < 0 := by omega
      have hexn : 0 ≤ ex := by omega
      obtain ⟨ln, hln⟩ : ∃ ln : Int, l10 (1 + ex) = ln := ⟨_, rfl⟩
      have hlb : 0 ≤ ln ∧ ln ≤ 310 := by rw [← hln]; unfold l10; omega
      have HLG := l10_any (1 + ex) (by omega) (by omega)
      rw [hln] at HLG
      have hdg : ¬ 1 + ln + (P : Int) ≤ 18 := by omega
      clear hE hF hM hsx hln
      go_enter Tryz.func108, Tryz.ntmps108
      go_wp2_with fail
      go_quiet (fail)
      go_wp2_with (go_at_call 178; with_reducible refine (HLG _).mono ?_; rintro e wl ⟨rfl, rfl⟩)
      obtain ⟨W1, hW1⟩ : ∃ W1, (w.drewN nq).alloc (.cells Tryz.zeroCells187 187 (0, 0)) = W1 := ⟨_, rfl⟩
      obtain ⟨B, hB⟩ : ∃ B, w.heap.size = B := ⟨_, rfl⟩
      have hB1 : W1.heap[B]? = some (.cells Tryz.zeroCells187 187 (0, 0)) := by rw [← hW1, ← hB]; exact heap_alloc_new (w.drewN nq) _
      have hF1 : Fr noB w W1 := by rw [← hW1]; exact ((Fr.refl noB w).drewN nq).alloc _
      rw [hW1, hB]
      have HWB : Hid (w.heap.size = B) := hB
      have HF1 : Hid (Fr noB w W1) := hF1
      have HA := HADD.out W1 B hF1 (by have := HMw.out; omega) hB1
      clear hW1 hB hF1 hB1 HLG
      refine HA.mono ?_
      rintro e w2 ⟨rfl, hI2, hF2⟩
      have HF2 : Hid (Fr (oneB B) w w2) := HF1.out.weak.trans hF2
      have HS := HSH.out w2 B (HT.out.low HF2.out (fun q hq hh => by have hh' : q = B := hh; have := HMw.out; have := HWB.out; omega)) (by have := HMw.out; have := HWB.out; omega) hI2
      clear hI2 hF2 HA
      go_wp2_with (first
        | (go_at_call 181; with_reducible refine HS.mono ?_; rintro e w3 ⟨rfl, hI3, hF3⟩; have HR := dround_any B (dpx + (P : Int)) Lx dpx w3 hI3 (by have := HNX.out; omega); have HQ := HEF.out w3.drew B ((HF2.out.trans hF3).drew) (by have := HWB.out; omega) (hI3.keep ((Fr.refl noB w3).drew) id); have c1 := hI3.dpc; have c2 := hI3.ndc; rw [HNX.out] at c2; clear hI3 hF3)
        | (go_at_call 182; with_reducible refine HR.mono ?_; rintro e w4 ⟨rfl, hw4⟩; obtain rfl : w3 = w4 := hw4.symm))
      have c1d : w3.drew.cell? ⟨B, 801, none⟩ = some (.int .i64 dpx) := c1
      have c2d : w3.drew.cell? ⟨B, 800, none⟩ = some (.int .i64 (nx : Int)) := c2
      go_region_held3 (fun w' => w'.cell? ⟨B, 801, none⟩ = some (.int .i64 dpx) ∧ w'.cell? ⟨B, 800, none⟩ = some (.int .i64 (nx : Int))) (first | exact ⟨c1d, c2d⟩ | exact ⟨e1, e2⟩) ((go_at_call 173; with_reducible refine HQ.mono ?_; rintro e w5 ⟨v', rfl, hO5, e1, e2⟩; rw [c1d] at e1; rw [c2d] at e2))
      go_wp2_with fail
      go_ret
      exact ⟨_, rfl, hO5⟩
#print axioms ftoaf_any
set_option maxRecDepth 100000 in
set_option maxHeartbeats 2000000 in
theorem ftoaf_nought (base P : Nat) (so : Option Addr) (sc : Nat) (w : World) (hP1 : 1 ≤ P) (hP2 : P ≤ 1100) (hv : w.ownsRow base 5 1 (.slice so 0 sc) 0 []) (hbase : base ≤ w.heap.size) :
    Calls Tryz.prog 108 #[.slice so 0 sc, .float .f64 0, .int .u8 102, .int .i64 (P : Int)] w fun e w' => ∃ v', e = .returned v' ∧ Own w base (.slice so 0 sc) (fInt [] 0 ++ 46 :: fFrac [] 0 P) w' v' := by
  have h1 : ∀ W, _ := run_bits2 0
  have HC : Hid (∀ m, Calls Tryz.prog 173 #[.slice so 0 sc, .bool false, .slice none 0 0, .int .i64 0, .int .i64 0, .int .i64 (P : Int), .int .u8 102, .bool false] (w.drewN m) fun e w' => ∃ v', e = .returned v' ∧ Own w base (.slice so 0 sc) (fInt [] 0 ++ 46 :: fFrac [] 0 P) w' v') := by
    intro m
    refine (efgf_nought base so sc P (w.drewN m) hP1 (by omega) hv hbase).mono ?_
    rintro e w' ⟨v', rfl, ho⟩
    exact ⟨v', rfl, ho.row, ((Fr.refl _ w).drewN m).trans ho.fr, ho.at_, ho.bs⟩
  generalize fInt [] 0 ++ 46 :: fFrac [] 0 P = TX at *
  have hPn : ¬ (P : Int) < 0 := by omega
  have g1' : (0 : Int) / 9223372036854775808 = 0 := by decide
  have g2' : bits .and .i64 0 2047 = 0 := by decide
  have g3' : bits .and .u64 0 4503599627370495 = 0 := by decide
  clear hv hbase
  go_enter Tryz.func108, Tryz.ntmps108
  go_wp2_with fail
  go_quiet (fail)
  go_wp2_with (go_at_call 173; refine (HC.out _).mono ?_; rintro e w5 ⟨v', rfl, hO5⟩)
  go_ret
  exact ⟨_, rfl, hO5⟩
#print axioms ftoaf_nought
end Go.Proofs.YtnklmcmdlobicaaGreatDoor
