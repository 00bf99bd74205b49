/- leftShift of a decimal: its contract. -/
import Derived.Test.YtnklmcmdlobicaaGreatDoorXPfl
namespace Go.Proofs.YtnklmcmdlobicaaGreatDoor
open Go.RowKit
/-- The table of shifts to the left lies where it should, below block M. -/
def CTab (w : World) (M : Nat) : Prop := ∃ (tb o c : Nat) (S : Nat → ByteArray), 12 < M ∧ tb < M ∧ M ≤ w.heap.size ∧ w.cell? ⟨12, 0, none⟩ = some (.slice (some ⟨tb, o, none⟩) 61 c) ∧ ∀ k, k < 61 → w.cell? ⟨tb, o + k * 2, none⟩ = some (.int .i64 ((cheatD k : Nat) : Int)) ∧ w.cell? ⟨tb, o + k * 2 + 1, none⟩ = some (.string (S k)) ∧ (S k).size = (cheatE k).length ∧ ∀ i (h : i < (S k).size) (h2 : i < (cheatE k).length), (S k)[i].toNat = 48 + (cheatE k)[i]
theorem CTab.fr {w w' : World} {M b : Nat} (h : CTab w M) (hF : Fr (oneB b) w w') (hb : M ≤ b) : CTab w' M := by
  obtain ⟨tb, o, c, S, h1, h2, h3, h4, h5⟩ := h
  have e : ∀ q, q < M → ¬ oneB b q := fun q hq hh => by
    have : q = b := hh
    omega
  refine ⟨tb, o, c, S, h1, h2, Nat.le_trans h3 hF.size, (hF.cell (a := ⟨12, 0, none⟩) (Nat.lt_of_lt_of_le h1 h3) (e _ h1)).trans h4, fun k hk => ?_⟩
  obtain ⟨g1, g2, g3, g4⟩ := h5 k hk
  exact ⟨(hF.cell (a := ⟨tb, o + k * 2, none⟩) (Nat.lt_of_lt_of_le h2 h3) (e _ h2)).trans g1, (hF.cell (a := ⟨tb, o + k * 2 + 1, none⟩) (Nat.lt_of_lt_of_le h2 h3) (e _ h2)).trans g2, g3, g4⟩
/-- A's digits, the last one first, stand in C at the end of T places. -/
def RevC (C A : List Nat) (T : Nat) : Prop := A.length ≤ T ∧ ∀ j (h : j < A.length), T - 1 - j < 800 → C.getD (T - 1 - j) 0 = 48 + A[j]
theorem RevC.snoc {C A : List Nat} {T : Nat} (h : RevC C A T) (q : Nat) (hT : A.length < T) (hC : C.length = 800) (hp : T - 1 - A.length < 800) : RevC (C.set (T - 1 - A.length) (48 + q)) (A ++ [q]) T := by
  refine ⟨by simp; omega, fun j hj h8 => ?_⟩
  rw [List.length_append, List.length_singleton] at hj
  by_cases e : j = A.length
  · subst e
    rw [getD_set_eq _ _ _ (by omega)]
    simp
  · rw [getD_set_ne _ _ _ _ (by omega), h.2 j (by omega) h8, List.getElem_append_left (by omega)]
theorem RevC.snoc_out {C A : List Nat} {T : Nat} (h : RevC C A T) (q : Nat) (hT : A.length < T) (hp : 800 ≤ T - 1 - A.length) : RevC C (A ++ [q]) T := by
  refine ⟨by simp; omega, fun j hj h8 => ?_⟩
  rw [List.length_append, List.length_singleton] at hj
  rw [h.2 j (by omega) h8, List.getElem_append_left (by omega)]
theorem RevC.all {C A : List Nat} {T : Nat} (h : RevC C A T) (hA : A.length = T) : DigsC C (A.reverse.take 800) := by
  refine ⟨by rw [List.length_take]; omega, fun i hi => ?_⟩
  rw [List.length_take, List.length_reverse] at hi
  rw [List.getElem_take, List.getElem_reverse]
  have := h.2 (A.length - 1 - i) (by omega) (by omega)
  rw [show T - 1 - (A.length - 1 - i) = i by omega] at this
  exact this
theorem ls2_zero (f : Nat) : ls2 f 0 = [] := by cases f <;> simp [ls2]
theorem shl_eq (x k : Nat) (h : x * 2 ^ k < 18446744073709551616) : IntKind.u64.wrap ((x : Int) * 2 ^ k) = ((x * 2 ^ k : Nat) : Int) := by
  rw [IntKind.wrap_u64, show ((x : Int) * 2 ^ k) = ((x * 2 ^ k : Nat) : Int) by rw [Int.natCast_mul, Int.natCast_pow]; rfl]
  omega
theorem slice800 (b n : Nat) (hn : n ≤ 800) (W : World) : (Instr.sliceAt 185 (.pointer (some ⟨b, 0, none⟩)) (some (.int .i64 0)) (some (.int .i64 (n : Int))) none).run Tryz.prog W = .ok (.slice (some ⟨b, 0, none⟩) n 800) W := by
  have hl : Tryz.prog.arrayLen 185 = 800 := by kernel_rfl
  have hs : (sizeOf (Tryz.prog.elem 185)).run Tryz.prog W = .ok 1 W := by kernel_rfl
  rw [run_sliceAt_array_lh W 185 ⟨b, 0, none⟩ (by kernel_rfl) .i64 .i64 0 (n : Int) (by omega) (by omega) (by rw [hl]; omega), hs, hl]
  simp [slicedAt]
  try rfl
set_option maxRecDepth 100000 in
set_option maxHeartbeats 2000000 in
theorem lsh_any (b k M : Nat) (L : List Nat) (dp : Int) (w : World) (hk1 : 1 ≤ k) (hk2 : k ≤ 60) (hD : DecIs w b L dp) (hG : GoodD L) (hdp1 : -1000000 ≤ dp) (hdp2 : dp ≤ 1000000) (hT : CTab w M) :
    Calls Tryz.prog 223 #[.pointer (some ⟨b, 0, none⟩), .int .u64 (k : Int)] w fun e w' => e = .returned (.tuple #[]) ∧ DecIs w' b (lsh k L dp).1 (lsh k L dp).2 ∧ Fr (oneB b) w w' := by
  obtain ⟨C, tr, hD, h8, hC⟩ := hD
  obtain ⟨o1, o2, o3⟩ := lsO_good k hk1 hk2 L hG
  have HO9 : Hid _ := o2
  obtain ⟨⟨a0, t0, e0, ha0⟩, h9, _⟩ := hG
  obtain ⟨tb, o, cc, S, hT1, hT2, hT3, hT4, hT5⟩ := hT
  obtain ⟨c1, c2, c3, c4⟩ := hT5 k (by omega)
  obtain ⟨⟨d1, d2⟩, _, _, d3, d4, d5⟩ := cheat_ok k hk1 hk2
  have HPF : Hid (∀ m, Calls Tryz.prog 244 #[.slice (some ⟨b, 0, none⟩) L.length 800, .string (S k)] (w.drewN m) fun e w' => e = .returned (.bool (pfl L (cheatE k))) ∧ ∃ m', w' = (w.drewN m).drewN m') := fun m => pfl_any b 800 C L (cheatE k) (S k) _ dp tr (w.drewN m) (show DecAt (w.drewN m) b C _ dp tr from hD) ⟨h8, hC⟩ h9 c3 c4 d5 (by omega)
  obtain ⟨D, hDd⟩ : ∃ D, cheatD k = D := ⟨_, rfl⟩
  rw [hDd] at c1 d1 d2 o3
  obtain ⟨T, hTt⟩ : ∃ T, (lsO k L).length = T := ⟨_, rfl⟩
  rw [hTt] at o3
  have hTL : T ≤ L.length + D ∧ L.length ≤ T := by split at o3 <;> omega
  have HD : Hid (DecAt w b C (L.length : Int) dp tr) := hD
  have HC : Hid _ := hC
  have c8 := hD.nd
  have hLp : 1 ≤ L.length := by rw [e0]; simp
  have hP2 : 2 ^ k ≤ 1152921504606846976 := Nat.le_trans (Nat.pow_le_pow_right (by omega) hk2) (by decide)
  have hP1 : 0 < 2 ^ k := Nat.two_pow_pos k
  have HTT : Hid ((lsO k L).length = T) := hTt
  have HPT : Hid (T = L.length + D - if pfl L (cheatE k) = true then 1 else 0) := o3
  have hsl := slice800 b L.length h8
  clear e0 ha0 hD hC o1 o2 o3 c3 c4 d3 d4 d5 hT5 hDd hTt
  go_enter Tryz.func223, Tryz.ntmps223
  go_upto_region 1 with fail
  go_cut [30] (fun bv wc => bv = .bool (pfl L (cheatE k)) ∧ ∃ m, wc = w.drewN m)
  case first =>
    go_region_with (go_at_call 244; refine (HPF.out 1).mono ?_; rintro e w4 ⟨rfl, m', rfl⟩)
    all_goals (go_wp2_with fail; go_meet; exact ⟨rfl, _, rfl⟩)
  case rest =>
    obtain ⟨rfl, m0, rfl⟩ := hcut
    obtain ⟨bl, hbl⟩ : ∃ bl, pfl L (cheatE k) = bl := ⟨_, rfl⟩
    rw [hbl] at HPT ⊢
    clear HPF hbl
    obtain ⟨E, hE⟩ : ∃ E : Nat, E + L.length = T := ⟨T - L.length, by omega⟩
    go_upto_if 30 with fail
    go_cut [4] (fun dv wc => dv = .int .i64 (E : Int) ∧ wc = w.drewN m0)
    case first =>
      cases bl with
      | true =>
        have hTE := HPT.out
        rw [if_pos rfl] at hTE
        have e1 : (D : Int) - 1 = (E : Int) := by omega
        go_wp2_with fail
        go_meet
        exact ⟨by go_num, rfl⟩
      | false =>
        have hTE := HPT.out
        rw [if_neg (by decide)] at hTE
        have e1 : D = E := by omega
        subst e1
        go_wp2_with fail
        go_meet
        exact ⟨rfl, rfl⟩
    case rest =>
      obtain ⟨rfl, rfl⟩ := hcut
      have HD0 : Hid (DecAt (w.drewN m0) b C (L.length : Int) dp tr) := HD.out
      have HF0 : Hid (Fr (oneB b) w (w.drewN m0)) := (Fr.refl _ _).drewN m0
      clear HD HPT hsl c1 c2 hT4
      go_wp2_with fail
      go_loopg [5, 6, 7] L.length (fun j rv wv nv wr => ∃ (n : Nat) (C2 A : List Nat) (tr : Bool), rv = .int .i64 ((j : Int) - 1) ∧ wv = .int .i64 ((j : Int) + (E : Int)) ∧ nv = .int .u64 (n : Int) ∧ n < 2 ^ k ∧ j ≤ L.length ∧ DecAt wr b C2 (L.length : Int) dp tr ∧ Fr (oneB b) w wr ∧ Hid (A.length + j = L.length ∧ RevC C2 A T ∧ (∀ p (h : p < L.length), p < j → C2.getD p 0 = 48 + L[p]) ∧ ls1 k 0 L.reverse = (A ++ (ls1 k n (L.take j).reverse).1, (ls1 k n (L.take j).reverse).2)))
      case atStart => exact ⟨0, C, [], tr, rfl, rfl, rfl, hP1, Nat.le_refl _, HD0.out, HF0.out, ⟨by simp, ⟨Nat.zero_le _, fun j h => absurd h (by simp)⟩, fun p h _ => HC.out p h, by rw [List.take_length]; rfl⟩⟩
      case round =>
        clear HD0 HF0 HC c8
        obtain ⟨n, C2, A, tr, rfl, rfl, rfl, hn, hj, hD2, hF2, HA⟩ := hrel
        have c8 := hD2.nd
        cases gk with
        | zero =>
          have HLO : Hid (A.length + E = T ∧ RevC C2 A T ∧ n < 10 ^ 20 ∧ lsO k L = A ++ ls2 20 n) := by
            obtain ⟨a1, a2, a3, a4⟩ := HA.out
            have e : ls1 k 0 L.reverse = (A, n) := by rw [a4]; simp [ls1]
            refine ⟨by omega, a2, by omega, ?_⟩
            unfold lsO
            rw [e]
          have hn : n < 2 ^ k := hn
          have HD2 : Hid (DecAt wr b C2 (L.length : Int) dp tr) := hD2
          have HF2 : Hid (Fr (oneB b) w wr) := hF2
          clear HA h9 hD2 hF2 hj
          go_wp2_with fail
          go_loopg [6, 7] 20 (fun f wv nv wr => ∃ (v n : Nat) (C2 A : List Nat) (tr : Bool), wv = .int .i64 (v : Int) ∧ nv = .int .u64 (n : Int) ∧ n < 2 ^ k ∧ v ≤ T ∧ DecAt wr b C2 (L.length : Int) dp tr ∧ Fr (oneB b) w wr ∧ Hid (A.length + v = T ∧ RevC C2 A T ∧ n < 10 ^ f ∧ lsO k L = A ++ ls2 f n))
          case atStart => exact ⟨E, n, C2, A, tr, by go_num, rfl, hn, by omega, HD2.out, HF2.out, HLO⟩
          case round =>
            clear HD2 HF2 HLO hn c8
            obtain ⟨v, n, C2, A, tr, rfl, rfl, hn, hv, hD2, hF2, HA⟩ := hrel
            have c8 := hD2.nd
            have fr8 := hD2.free 800
            have cp := hD2.dp
            have frp := hD2.free 801
            by_cases hn0 : n = 0
            · subst hn0
              obtain ⟨a1, a2, a3, a4⟩ := HA.out
              have eA : lsO k L = A := by rw [a4, ls2_zero, List.append_nil]
              have hAT : A.length = T := by rw [← eA]; exact HTT.out
              have hdig := a2.all hAT
              have h99 : ∀ x ∈ A.reverse.take 800, x ≤ 9 := fun x hx => HO9.out x (by rw [eA]; exact List.mem_of_mem_take hx)
              have HE : Hid (lsh k L dp = trimP (A.reverse.take 800) (dp + (E : Int))) := by
                show _ = _
                unfold lsh
                rw [eA, hAT, show ((T : Int) - (L.length : Int)) = (E : Int) by omega]
              have hl : (A.reverse.take 800).length = min T 800 := by rw [List.length_take, List.length_reverse, hAT]; omega
              have eT : (L.length : Int) + (E : Int) = (T : Int) := by omega
              obtain ⟨dq, hdq⟩ : ∃ dq, dp + (E : Int) = dq := ⟨_, rfl⟩
              rw [hdq] at HE
              have hTb : T ≤ 900 := by omega
              by_cases h800 : 800 ≤ T
              · have hD3 := ((hD2.setnd (T : Int)).setnd 800).setdp dq
                have HF3 : Hid (Fr (oneB b) w (((wr.setCell ⟨b, 800, none⟩ (.int .i64 (T : Int))).setCell ⟨b, 800, none⟩ (.int .i64 800)).setCell ⟨b, 801, none⟩ (.int .i64 dq))) := ((hF2.setOne _ _).setOne _ _).setOne _ _
                have c80 := (hD2.setnd (T : Int)).nd
                have f80 := (hD2.setnd (T : Int)).free 800
                have c81 := ((hD2.setnd (T : Int)).setnd 800).dp
                have f81 := ((hD2.setnd (T : Int)).setnd 800).free 801
                have HTR := dtrim_any b C2 (A.reverse.take 800) dq tr _ (by rw [hl, show min T 800 = 800 by omega]; exact hD3) hdig h99
                clear a1 a2 a3 a4 eA hAT hdig h99 hl hD2 hD3 hF2 HA
                go_wp2_with (go_at_call 222; refine HTR.mono ?_; rintro e w4 ⟨rfl, hI, hF4⟩)
                go_end0
                rw [HE.out]
                exact ⟨rfl, hI, HF3.out.trans hF4⟩
              · have hD3 := (hD2.setnd (T : Int)).setdp dq
                have HF3 : Hid (Fr (oneB b) w ((wr.setCell ⟨b, 800, none⟩ (.int .i64 (T : Int))).setCell ⟨b, 801, none⟩ (.int .i64 dq))) := (hF2.setOne _ _).setOne _ _
                have c80 := (hD2.setnd (T : Int)).nd
                have c81 := (hD2.setnd (T : Int)).dp
                have f81 := (hD2.setnd (T : Int)).free 801
                have HTR := dtrim_any b C2 (A.reverse.take 800) dq tr _ (by rw [hl, show min T 800 = T by omega]; exact hD3) hdig h99
                clear a1 a2 a3 a4 eA hAT hdig h99 hl hD2 hD3 hF2 HA
                go_wp2_with (go_at_call 222; refine HTR.mono ?_; rintro e w4 ⟨rfl, hI, hF4⟩)
                go_end0
                rw [HE.out]
                exact ⟨rfl, hI, HF3.out.trans hF4⟩
            · have hn1 : 0 < (n : Int) := by omega
              cases gk with
              | zero => exact absurd (show n = 0 by have := HA.out.2.2.1; simp at this; exact this) hn0
              | succ g =>
                have HL2 : Hid (lsO k L = (A ++ [n % 10]) ++ ls2 g (n / 10)) := by
                  show _ = _
                  rw [HA.out.2.2.2, List.append_assoc]
                  show A ++ (if n = 0 then [] else _) = _
                  rw [if_neg hn0]
                  rfl
                have HV : Hid (A.length + 1 ≤ T) := by
                  show _ ≤ _
                  have := congrArg List.length HL2.out
                  rw [HTT.out] at this
                  simp at this
                  omega
                have HQ : Hid (n / 10 < 10 ^ g) := by
                  show _ < _
                  have := HA.out.2.2.1
                  rw [Nat.pow_succ] at this
                  omega
                obtain ⟨V, rfl⟩ : ∃ V, v = V + 1 := ⟨v - 1, by have := HV.out; have := HA.out.1; omega⟩
                obtain ⟨q, hq⟩ : ∃ q, n / 10 = q := ⟨_, rfl⟩
                obtain ⟨rm, hrm⟩ : ∃ rm, n % 10 = rm := ⟨_, rfl⟩
                rw [hq, hrm] at HL2
                rw [hq] at HQ
                have e3 : (n : Int) / 10 = (q : Int) := by omega
                have e4 : (n : Int) - 10 * (q : Int) = (rm : Int) := by omega
                have hnb : n < 1152921504606846976 := by omega
                have hqb : q < 2 ^ k := by omega
                have hrb : rm ≤ 9 := by omega
                obtain ⟨Q, hQ⟩ : ∃ Q, 48 + rm = Q := ⟨_, rfl⟩
                have eq1 : (rm : Int) + 48 = (Q : Int) := by omega
                have hQb : Q ≤ 57 := by omega
                have HAL : Hid ((A ++ [rm]).length + V = T) := by show _ = _; have := HA.out.1; simp; omega
                have hpos : T - 1 - A.length = V := by have := HA.out.1; omega
                clear hq hrm
                by_cases hv8 : V < 800
                · have cw := hD2.cell V hv8
                  have fw := hD2.free V
                  have HD3 : Hid (DecAt (wr.setCell ⟨b, V, none⟩ (.int .u8 (Q : Int))) b (C2.set V Q) (L.length : Int) dp tr) := hD2.set V Q hv8
                  have HF3 : Hid (Fr (oneB b) w (wr.setCell ⟨b, V, none⟩ (.int .u8 (Q : Int)))) := hF2.setOne _ _
                  have HA3 : Hid (RevC (C2.set V Q) (A ++ [rm]) T) := by
                    have hr := HA.out.2.1.snoc rm (by have := HV.out; omega) hD2.2 (by rw [hpos]; exact hv8)
                    rw [hpos, hQ] at hr
                    exact hr
                  clear HA hD2 hF2 hQ hpos HV
                  go_wp2_with fail
                  go_roundg g
                  case measure => omega
                  case rel => exact ⟨V, q, _, A ++ [rm], tr, by go_num, rfl, hqb, by omega, HD3.out, HF3.out, ⟨HAL.out, HA3.out, HQ.out, HL2.out⟩⟩
                · have hv8' : ¬ ((V : Int) < 800) := by omega
                  have HA3 : Hid (RevC C2 (A ++ [rm]) T) := HA.out.2.1.snoc_out rm (by have := HV.out; omega) (by omega)
                  have cw := hD2.tr
                  have fw := hD2.free 803
                  have HD2 : Hid (DecAt wr b C2 (L.length : Int) dp tr) := hD2
                  have HD3 : Hid (DecAt (wr.setCell ⟨b, 803, none⟩ (.bool true)) b C2 (L.length : Int) dp true) := hD2.settr true
                  have HF2 : Hid (Fr (oneB b) w wr) := hF2
                  have HF3 : Hid (Fr (oneB b) w (wr.setCell ⟨b, 803, none⟩ (.bool true))) := hF2.setOne _ _
                  clear HA hD2 hF2 hQ hpos HV
                  by_cases hr0 : rm = 0
                  · subst hr0
                    go_wp2_with fail
                    go_roundg g
                    case measure => omega
                    case rel => exact ⟨V, q, C2, A ++ [0], tr, by go_num, rfl, hqb, by omega, HD2.out, HF2.out, ⟨HAL.out, HA3.out, HQ.out, HL2.out⟩⟩
                  · have hrb0 : ((rm : Int) != 0) = true := by rw [bne_iff_ne]; omega
                    go_wp2_with fail
                    go_roundg g
                    case measure => omega
                    case rel => exact ⟨V, q, C2, A ++ [rm], true, by go_num, rfl, hqb, by omega, HD3.out, HF3.out, ⟨HAL.out, HA3.out, HQ.out, HL2.out⟩⟩
        | succ s =>
          have hs : s < L.length := by omega
          have cr := hD2.cell s (by omega)
          rw [HA.out.2.2.1 s hs (by omega)] at cr
          have hx9 := h9 _ (List.getElem_mem hs)
          have HL1 : Hid (ls1 k 0 L.reverse = ((A ++ [(n + L[s] * 2 ^ k) % 10]) ++ (ls1 k ((n + L[s] * 2 ^ k) / 10) (L.take s).reverse).1, (ls1 k ((n + L[s] * 2 ^ k) / 10) (L.take s).reverse).2)) := by
            show _ = _
            rw [HA.out.2.2.2, List.take_succ_eq_append_getElem hs, List.reverse_append, List.append_assoc]
            rfl
          obtain ⟨x, hx⟩ : ∃ x, L[s] = x := ⟨_, rfl⟩
          rw [hx] at cr hx9 HL1
          have hZb : x * 2 ^ k ≤ 9 * 2 ^ k := Nat.mul_le_mul_right _ hx9
          have hshl := shl_eq x k (by omega)
          obtain ⟨Z, hZ⟩ : ∃ Z, x * 2 ^ k = Z := ⟨_, rfl⟩
          rw [hZ] at hshl hZb HL1
          obtain ⟨X, hX⟩ : ∃ X, 48 + x = X := ⟨_, rfl⟩
          rw [hX] at cr
          obtain ⟨m, hm⟩ : ∃ m, n + Z = m := ⟨_, rfl⟩
          obtain ⟨q, hq⟩ : ∃ q, m / 10 = q := ⟨_, rfl⟩
          obtain ⟨rm, hrm⟩ : ∃ rm, m % 10 = rm := ⟨_, rfl⟩
          rw [hm, hq, hrm] at HL1
          have e1 : (X : Int) - 48 = (x : Int) := by omega
          have e2 : (n : Int) + (Z : Int) = (m : Int) := by omega
          have e3 : (m : Int) / 10 = (q : Int) := by omega
          have e4 : (m : Int) - 10 * (q : Int) = (rm : Int) := by omega
          have e5 : ((s + 1 : Nat) : Int) - 1 = (s : Int) := by omega
          have hmb : m < 11529215046068469760 := by omega
          have hqb : q < 2 ^ k := by omega
          have hqB : q < 1152921504606846976 := by omega
          have hrb : rm ≤ 9 := by omega
          have hXb : 48 ≤ X ∧ X ≤ 57 := by omega
          obtain ⟨Q, hQ⟩ : ∃ Q, 48 + rm = Q := ⟨_, rfl⟩
          have eq1 : (rm : Int) + 48 = (Q : Int) := by omega
          have hQb : Q ≤ 57 := by omega
          obtain ⟨V, hV⟩ : ∃ V, s + E = V := ⟨_, rfl⟩
          have e6 : (s : Int) + 1 + (E : Int) - 1 = (V : Int) := by omega
          have HVE : Hid (V = s + E) := hV.symm
          have hAl : A.length + (s + 1) = L.length := HA.out.1
          have HAL : Hid ((A ++ [rm]).length + s = L.length) := by show _ = _; simp; omega
          have hpos : T - 1 - A.length = V := by omega
          clear hx hX hZ hm hq hrm
          by_cases hv8 : V < 800
          · have cw := hD2.cell V hv8
            have fw := hD2.free V
            have HD3 : Hid (DecAt (wr.setCell ⟨b, V, none⟩ (.int .u8 (Q : Int))) b (C2.set V Q) (L.length : Int) dp tr) := hD2.set V Q hv8
            have HF3 : Hid (Fr (oneB b) w (wr.setCell ⟨b, V, none⟩ (.int .u8 (Q : Int)))) := hF2.setOne _ _
            have HA3 : Hid (RevC (C2.set V Q) (A ++ [rm]) T ∧ ∀ p (h : p < L.length), p < s → (C2.set V Q).getD p 0 = 48 + L[p]) := by
              obtain ⟨a1, a2, a3, a4⟩ := HA.out
              have hr := a2.snoc rm (by omega) hD2.2 (by rw [hpos]; exact hv8)
              rw [hpos, hQ] at hr
              refine ⟨hr, fun p h hp => ?_⟩
              rw [getD_set_ne _ _ _ _ (by omega)]
              exact a3 p h (by omega)
            clear HA hD2 hF2 hQ hV hpos h9
            go_wp2_with fail
            go_roundg s
            case measure => omega
            case rel => exact ⟨q, _, A ++ [rm], tr, by go_num, by rw [HVE.out]; go_num, rfl, hqb, by omega, HD3.out, HF3.out, ⟨HAL.out, HA3.out.1, HA3.out.2, HL1.out⟩⟩
          · have hv8' : ¬ ((V : Int) < 800) := by omega
            have HA3 : Hid (RevC C2 (A ++ [rm]) T ∧ ∀ p (h : p < L.length), p < s → C2.getD p 0 = 48 + L[p]) := by
              obtain ⟨a1, a2, a3, a4⟩ := HA.out
              exact ⟨a2.snoc_out rm (by omega) (by omega), fun p h hp => a3 p h (by omega)⟩
            have cw := hD2.tr
            have fw := hD2.free 803
            have HD2 : Hid (DecAt wr b C2 (L.length : Int) dp tr) := hD2
            have HD3 : Hid (DecAt (wr.setCell ⟨b, 803, none⟩ (.bool true)) b C2 (L.length : Int) dp true) := hD2.settr true
            have HF2 : Hid (Fr (oneB b) w wr) := hF2
            have HF3 : Hid (Fr (oneB b) w (wr.setCell ⟨b, 803, none⟩ (.bool true))) := hF2.setOne _ _
            clear HA hD2 hF2 hQ hV hpos h9
            by_cases hr0 : rm = 0
            · subst hr0
              go_wp2_with fail
              go_roundg s
              case measure => omega
              case rel => exact ⟨q, C2, A ++ [0], tr, by go_num, by rw [HVE.out]; go_num, rfl, hqb, by omega, HD2.out, HF2.out, ⟨HAL.out, HA3.out.1, HA3.out.2, HL1.out⟩⟩
            · have hrb0 : ((rm : Int) != 0) = true := by rw [bne_iff_ne]; omega
              go_wp2_with fail
              go_roundg s
              case measure => omega
              case rel => exact ⟨q, C2, A ++ [rm], true, by go_num, by rw [HVE.out]; go_num, rfl, hqb, by omega, HD3.out, HF3.out, ⟨HAL.out, HA3.out.1, HA3.out.2, HL1.out⟩⟩
#print axioms lsh_any
end Go.Proofs.YtnklmcmdlobicaaGreatDoor
