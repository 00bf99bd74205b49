/- rightShift of a decimal: its contract. -/
import Derived.Test.YtnklmcmdlobicaaGreatDoorXTrm
import Derived.Deep.DeepCutAuto
import Derived.Deep.CutBlock
namespace Go.Proofs.YtnklmcmdlobicaaGreatDoor
open Go.RowKit
theorem drop_cons (L : List Nat) (r : Nat) (h : r < L.length) : L.drop r = L[r] :: L.drop (r + 1) := List.drop_eq_getElem_cons h
theorem shr_eq (n k : Nat) : (n : Int) / 2 ^ k = ((n / 2 ^ k : Nat) : Int) := by rw [Int.natCast_ediv, Int.natCast_pow]; rfl
theorem shr_no (n k : Nat) (h : 2 ^ k ≤ n) : ((n : Int) / 2 ^ k == 0) = false := by
  rw [shr_eq, beq_eq_false_iff_ne]
  have := Nat.div_pos h (Nat.two_pow_pos k)
  omega
theorem shr_yes (n k : Nat) (h : n < 2 ^ k) : ((n : Int) / 2 ^ k == 0) = true := by
  rw [shr_eq, Nat.div_eq_of_lt h]; rfl
theorem rs1_done (k n r : Nat) (T : List Nat) (h : 2 ^ k ≤ n) : rs1 k n r T = (n, r, T) := by
  cases T with
  | nil => rfl
  | cons d t => show (if n < 2 ^ k then _ else _) = _; rw [if_neg (by omega)]
theorem rs1_ge (k : Nat) : ∀ (T : List Nat) (n r : Nat), r ≤ (rs1 k n r T).2.1
  | [], n, r => Nat.le_refl _
  | d :: t, n, r => by
    unfold rs1
    split
    · have := rs1_ge k t (n * 10 + d) (r + 1); omega
    · exact Nat.le_refl _
theorem rs1_drop (k : Nat) (L : List Nat) : ∀ (T : List Nat) (n r : Nat), T = L.drop r → (rs1 k n r T).2.2 = L.drop (rs1 k n r T).2.1
  | [], n, r, h => h
  | d :: t, n, r, h => by
    unfold rs1
    split
    · refine rs1_drop k L t _ _ ?_
      rw [← List.drop_drop, ← h]
      rfl
    · exact h
theorem getD_set_ne (C : List Nat) (i j v : Nat) (h : j ≠ i) : (C.set i v).getD j 0 = C.getD j 0 := by
  simp only [List.getD]
  rw [List.getElem?_set_ne (by omega)]
theorem getD_set_eq (C : List Nat) (i v : Nat) (h : i < C.length) : (C.set i v).getD i 0 = v := by
  simp only [List.getD]
  rw [List.getElem?_set_self h]
  rfl
theorem digs_snoc (C O : List Nat) (q i : Nat) (h : O.length = i) (hi : i < C.length) (hO : ∀ j (h : j < O.length), C.getD j 0 = 48 + O[j]) : ∀ j (h : j < (O ++ [q]).length), (C.set i (48 + q)).getD j 0 = 48 + (O ++ [q])[j] := by
  intro j hj
  rw [List.length_append, List.length_singleton] at hj
  by_cases e : j = i
  · subst e
    rw [getD_set_eq _ _ _ hi]
    simp [h]
  · rw [getD_set_ne _ _ _ _ e, hO j (by omega), List.getElem_append_left (by omega)]
/-- What the first loop leaves. -/
theorem rs_facts (k : Nat) (L : List Nat) (hk : k ≤ 60) (h : GoodD L) : 2 ^ k ≤ (rsM k k (rs1 k 0 0 L).1 (rs1 k 0 0 L).2.1).1 ∧ (rsM k k (rs1 k 0 0 L).1 (rs1 k 0 0 L).2.1).1 < 10 * 2 ^ k ∧ 1 ≤ (rsM k k (rs1 k 0 0 L).1 (rs1 k 0 0 L).2.1).2 ∧ (rsM k k (rs1 k 0 0 L).1 (rs1 k 0 0 L).2.1).2 ≤ 860 ∧ (rs1 k 0 0 L).2.2 = L.drop (rsM k k (rs1 k 0 0 L).1 (rs1 k 0 0 L).2.1).2 := by
  obtain ⟨⟨a, t, e, ha⟩, h9, h8⟩ := h
  have hpos := rs1_pos k L 0 0 (Or.inr ⟨a, by rw [e]; exact List.mem_cons_self .., ha⟩)
  have hlt := rs1_lt k L 0 0 h9 (by have := Nat.two_pow_pos k; omega)
  have hlen := rs1_len k L 0 0
  have hgr := rs1_great k L 0 0
  have hdr := rs1_drop k L L 0 0 rfl
  have h1 : 1 ≤ (rs1 k 0 0 L).2.1 := by
    rw [e]
    show 1 ≤ (if 0 < 2 ^ k then rs1 k (0 * 10 + a) (0 + 1) t else _).2.1
    rw [if_pos (Nat.two_pow_pos k)]
    have := rs1_ge k t (0 * 10 + a) (0 + 1)
    omega
  generalize (rs1 k 0 0 L).1 = n1 at *
  generalize (rs1 k 0 0 L).2.1 = r1 at *
  generalize (rs1 k 0 0 L).2.2 = T at *
  obtain ⟨j, hj, hM, hM1, hM2⟩ := rsM_spec k k n1 r1 hlt (Nat.le_mul_of_pos_left _ hpos)
  rw [hM]
  refine ⟨hM1, hM2, by simp only; omega, by simp only; omega, ?_⟩
  simp only
  by_cases hT : T = []
  · have : r1 = L.length := by rw [hT] at hlen; simpa using hlen
    rw [hT, List.drop_of_length_le (by omega)]
  · rw [rsM_great k k n1 r1 (hgr hT)] at hM
    have := (Prod.mk.inj hM).2
    rw [hdr, show r1 + j = r1 by omega]
set_option maxRecDepth 100000 in
set_option maxHeartbeats 2000000 in
theorem rsh_any (b k : Nat) (L : List Nat) (dp : Int) (w : World) (hk1 : 1 ≤ k) (hk2 : k ≤ 60) (hD : DecIs w b L dp) (hG : GoodD L) (hdp1 : -1000000 ≤ dp) (hdp2 : dp ≤ 1000000) :
    Calls Tryz.prog 224 #[.pointer (some ⟨b, 0, none⟩), .int .u64 (k : Int)] w fun e w' => e = .returned (.tuple #[]) ∧ DecIs w' b (rsh k L dp).1 (rsh k L dp).2 ∧ Fr (oneB b) w w' := by
  obtain ⟨C, tr, hD, h8, hC⟩ := hD
  obtain ⟨⟨a0, t0, e0, ha0⟩, h9, _⟩ := hG
  have hP2 : 2 ^ k ≤ 1152921504606846976 := Nat.le_trans (Nat.pow_le_pow_right (by omega) hk2) (by decide)
  have hP1 : 0 < 2 ^ k := Nat.two_pow_pos k
  have HPOS : Hid (∃ x ∈ L, x ≠ 0) := ⟨a0, by rw [e0]; exact List.mem_cons_self .., ha0⟩
  have HFACT : Hid (2 ^ k ≤ (rsM k k (rs1 k 0 0 L).1 (rs1 k 0 0 L).2.1).1 ∧ (rsM k k (rs1 k 0 0 L).1 (rs1 k 0 0 L).2.1).1 < 10 * 2 ^ k ∧ 1 ≤ (rsM k k (rs1 k 0 0 L).1 (rs1 k 0 0 L).2.1).2 ∧ (rsM k k (rs1 k 0 0 L).1 (rs1 k 0 0 L).2.1).2 ≤ 860 ∧ (rs1 k 0 0 L).2.2 = L.drop (rsM k k (rs1 k 0 0 L).1 (rs1 k 0 0 L).2.1).2) := rs_facts k L hk2 ⟨⟨a0, t0, e0, ha0⟩, h9, h8⟩
  have HD : Hid (DecAt w b C (L.length : Int) dp tr) := hD
  have HC : Hid _ := hC
  have c8 := hD.nd
  clear e0 ha0 hD hC
  go_enter Tryz.func224, Tryz.ntmps224
  go_upto_block 0 with fail
  go_cut [4, 6] (fun rv nv wc => ∃ m, wc = w.drewN m ∧ rv = .int .i64 ((rsM k k (rs1 k 0 0 L).1 (rs1 k 0 0 L).2.1).2 : Nat) ∧ nv = .int .u64 ((rsM k k (rs1 k 0 0 L).1 (rs1 k 0 0 L).2.1).1 : Nat))
  case first =>
    go_wp2_with fail
    go_loopg [4, 6] L.length (fun gh rv nv wr => ∃ r n m : Nat, gh = L.length - r ∧ r ≤ L.length ∧ rv = .int .i64 (r : Int) ∧ nv = .int .u64 (n : Int) ∧ wr = w.drewN m ∧ n < 10 * 2 ^ k ∧ Hid (rs1 k n r (L.drop r) = rs1 k 0 0 L) ∧ Hid (0 < n ∨ ∃ x ∈ L.drop r, x ≠ 0))
    case atStart => exact ⟨0, 0, 0, rfl, Nat.zero_le _, rfl, rfl, rfl, by omega, rfl, Or.inr HPOS.out⟩
    case round =>
      obtain ⟨r, n, m, rfl, hr, rfl, rfl, rfl, hn, HR, HN⟩ := hrel
      have hnB : n < 11529215046068469760 := by omega
      by_cases hge : 2 ^ k ≤ n
      · have hz : ((n : Int) / 2 ^ k == 0) = false := shr_no n k hge
        have HE : Hid (rs1 k 0 0 L = (n, r, L.drop r)) := by
          show _ = _
          rw [← HR.out]
          exact rs1_done k n r _ hge
        clear HR HN hP1 hP2 HD HC h9
        go_wp2_with fail
        go_meet
        case rel => exact ⟨m, rfl, by rw [HE.out]; simp only; rw [rsM_great _ _ _ _ hge], by rw [HE.out]; simp only; rw [rsM_great _ _ _ _ hge]⟩
      · have hz : ((n : Int) / 2 ^ k == 0) = true := shr_yes n k (by omega)
        have hnb : n < 1152921504606846976 := by omega
        by_cases hlt : r < L.length
        · have cr := HD.out.cell r (by omega)
          rw [HC.out r hlt] at cr
          have hx := h9 _ (List.getElem_mem hlt)
          have HR2 : Hid (rs1 k (n * 10 + L[r]) (r + 1) (L.drop (r + 1)) = rs1 k 0 0 L) := by
            show _ = _
            rw [← HR.out, drop_cons L r hlt]
            show _ = if n < 2 ^ k then _ else _
            rw [if_pos (by omega)]
          have HN2 : Hid (0 < n * 10 + L[r] ∨ ∃ x ∈ L.drop (r + 1), x ≠ 0) := by
            show _ ∨ _
            rcases HN.out with h | ⟨x, hx, h0⟩
            · left; omega
            · rw [drop_cons L r hlt] at hx
              rcases List.mem_cons.mp hx with e | hx
              · left; omega
              · right; exact ⟨x, hx, h0⟩
          obtain ⟨x, hxe⟩ : ∃ x, L[r] = x := ⟨_, rfl⟩
          rw [hxe] at cr hx HR2 HN2
          have e1 : ((n : Int) * 10 + ((48 + x : Nat) : Int) - 48) = ((n * 10 + x : Nat) : Int) := by omega
          have hnx : n * 10 + x < 10 * 2 ^ k := by omega
          clear HR HN HD HC h9 hxe
          go_wp2_with fail
          go_roundg (L.length - (r + 1))
          case measure => omega
          case rel => exact ⟨r + 1, n * 10 + x, _, rfl, by omega, by go_num, by go_num, by rfl, hnx, HR2, HN2⟩
        · have hrL : r = L.length := by omega
          have HE : Hid (rs1 k 0 0 L = (n, r, [])) := by
            show _ = _
            rw [← HR.out, hrL, List.drop_length]
            rfl
          have hn0 : 0 < n := by
            rcases HN.out with h | ⟨x, hx, _⟩
            · exact h
            · rw [hrL, List.drop_length] at hx; cases hx
          have hnz : ((n : Int) == 0) = false := by rw [beq_eq_false_iff_ne]; omega
          clear HR HN HD HC h9
          go_wp2_with fail
          go_loopg [4, 6] k (fun f rv nv wr => ∃ r1 n1 m1 : Nat, rv = .int .i64 (r1 : Int) ∧ nv = .int .u64 (n1 : Int) ∧ wr = w.drewN m1 ∧ n1 < 10 * 2 ^ k ∧ r1 + f ≤ 800 + k ∧ Hid (rsM k f n1 r1 = rsM k k n r) ∧ Hid (2 ^ k ≤ n1 * 2 ^ f))
          case atStart => exact ⟨r, n, _, rfl, rfl, rfl, hn, by omega, rfl, Nat.le_mul_of_pos_left _ hn0⟩
          case round =>
            obtain ⟨r1, n1, m1, rfl, rfl, rfl, hn1, hr1, HM, HF⟩ := hrel
            have hnB1 : n1 < 11529215046068469760 := by omega
            by_cases hge1 : 2 ^ k ≤ n1
            · have hz1 : ((n1 : Int) / 2 ^ k == 0) = false := shr_no n1 k hge1
              have HE2 : Hid (rsM k k n r = (n1, r1)) := by show _ = _; rw [← HM.out, rsM_great _ _ _ _ hge1]
              clear hP1 hP2 HM HF
              go_wp2_with fail
              go_meet
              case rel => exact ⟨m1, rfl, by rw [HE.out]; simp only; rw [HE2.out], by rw [HE.out]; simp only; rw [HE2.out]⟩
            · have hz1 : ((n1 : Int) / 2 ^ k == 0) = true := shr_yes n1 k (by omega)
              have hnb1 : n1 < 1152921504606846976 := by omega
              cases gk with
              | zero => exact absurd (show 2 ^ k ≤ n1 by have := HF.out; simpa using this) hge1
              | succ g =>
                have HM2 : Hid (rsM k g (n1 * 10) (r1 + 1) = rsM k k n r) := by
                  show _ = _
                  rw [← HM.out]
                  show _ = if n1 < 2 ^ k then _ else _
                  rw [if_pos (by omega)]
                have HF2 : Hid (2 ^ k ≤ n1 * 10 * 2 ^ g) := by
                  show _ ≤ _
                  refine Nat.le_trans HF.out ?_
                  rw [Nat.pow_succ, show n1 * (2 ^ g * 2) = n1 * 2 * 2 ^ g by rw [Nat.mul_comm (2 ^ g) 2, ← Nat.mul_assoc]]
                  exact Nat.mul_le_mul_right _ (by omega)
                have hn2 : n1 * 10 < 10 * 2 ^ k := by omega
                clear HM HF
                go_wp2_with fail
                go_roundg g
                case measure => omega
                case rel => exact ⟨r1 + 1, n1 * 10, _, by go_num, by go_num, rfl, hn2, by omega, HM2, HF2⟩
  case rest =>
    obtain ⟨m, rfl, rfl, rfl⟩ := hcut
    obtain ⟨f1, f2, f3, f4, f5⟩ := HFACT.out
    clear HFACT
    obtain ⟨R, hR⟩ : ∃ R, (rsM k k (rs1 k 0 0 L).1 (rs1 k 0 0 L).2.1).2 = R := ⟨_, rfl⟩
    obtain ⟨N, hN⟩ : ∃ N, (rsM k k (rs1 k 0 0 L).1 (rs1 k 0 0 L).2.1).1 = N := ⟨_, rfl⟩
    rw [hR] at f3 f4 f5 ⊢
    rw [hN] at f1 f2 ⊢
    have HRS : Hid (rsh k L dp = trimP (((rs2 k N (L.drop R)).1 ++ rs3 k (k + 1) (rs2 k N (L.drop R)).2).take 800) (dp - ((R : Int) - 1))) := by
      show rsh k L dp = _
      unfold rsh
      rw [hR, hN, f5]
    clear hR hN f5
    have c1 := HD.out.dp
    have fr1 := HD.out.free 801
    obtain ⟨M, hM⟩ : ∃ M, 2 ^ k = M + 1 := ⟨2 ^ k - 1, by omega⟩
    have hmask : IntKind.u64.wrap (IntKind.u64.wrap (2 ^ k) - 1) = (M : Int) := by
      rw [show ((2 : Int) ^ k) = ((M + 1 : Nat) : Int) by rw [← hM, Int.natCast_pow]; rfl, IntKind.wrap_u64, IntKind.wrap_u64]
      omega
    have HAND : Hid (∀ n : Nat, n < 18446744073709551616 → bits .and .u64 (n : Int) (M : Int) = ((n % 2 ^ k : Nat) : Int)) := by
      intro n hn
      rw [u64_and_nat _ _ (by omega) (by omega)]
      congr 1
      rw [show M = 2 ^ k - 1 by omega]
      exact Nat.and_two_pow_sub_one_eq_mod n k
    obtain ⟨dq, hdq⟩ : ∃ dq : Int, dp - ((R : Int) - 1) = dq := ⟨_, rfl⟩
    rw [hdq] at HRS
    have HD0 : Hid (DecAt ((w.drewN m).setCell ⟨b, 801, none⟩ (.int .i64 dq)) b C (L.length : Int) dq tr) := DecAt.setdp (w := w.drewN m) (show DecAt (w.drewN m) b C _ dp tr from HD.out) dq
    have HF0 : Hid (Fr (oneB b) w ((w.drewN m).setCell ⟨b, 801, none⟩ (.int .i64 dq))) := ((Fr.refl _ _).drewN m).setOne _ _
    have hdq1 : -2000000 ≤ dq ∧ dq ≤ 2000000 := by omega
    clear HD
    go_wp2_with fail
    go_loopg [4, 5, 6] (L.length - R) (fun gh rv wv nv wr => ∃ (i n : Nat) (C2 O : List Nat), gh = L.length - (R + i) ∧ rv = .int .i64 ((R + i : Nat) : Int) ∧ wv = .int .i64 (i : Int) ∧ nv = .int .u64 (n : Int) ∧ n < 10 * 2 ^ k ∧ (i = 0 ∨ R + i ≤ L.length) ∧ DecAt wr b C2 (L.length : Int) dq tr ∧ Fr (oneB b) w wr ∧ Hid (O.length = i ∧ (∀ j (h : j < O.length), C2.getD j 0 = 48 + O[j]) ∧ (∀ j (h : j < L.length), R + i ≤ j → C2.getD j 0 = 48 + L[j]) ∧ rs2 k N (L.drop R) = (O ++ (rs2 k n (L.drop (R + i))).1, (rs2 k n (L.drop (R + i))).2)))
    case atStart => exact ⟨0, N, C, [], rfl, rfl, rfl, rfl, f2, Or.inl rfl, HD0.out, HF0.out, ⟨rfl, fun j h => absurd h (by simp), fun j h _ => HC.out j h, rfl⟩⟩
    case round =>
      obtain ⟨i, n, C2, O, rfl, rfl, rfl, rfl, hn, hi, hD2, hF2, HO⟩ := hrel
      have c8 := hD2.nd
      have hnB : n < 11529215046068469760 := by omega
      obtain ⟨q, hq⟩ : ∃ q, n / 2 ^ k = q := ⟨_, rfl⟩
      obtain ⟨p, hp⟩ : ∃ p, n % 2 ^ k = p := ⟨_, rfl⟩
      have hq9 : q ≤ 9 := by
        have : n / 2 ^ k < 10 := (Nat.div_lt_iff_lt_mul hP1).mpr hn
        omega
      have hp1 : p < 2 ^ k := by rw [← hp]; exact Nat.mod_lt _ hP1
      have hpb : p < 1152921504606846976 := by omega
      have hqe : (n : Int) / 2 ^ k = (q : Int) := by rw [shr_eq, hq]
      have hand := HAND.out n (by omega)
      rw [hp] at hand
      by_cases hlt : R + i < L.length
      · have cr := hD2.cell (R + i) (by omega)
        rw [HO.out.2.2.1 (R + i) hlt (Nat.le_refl _)] at cr
        have fw := hD2.free i
        have cw := hD2.cell i (by omega)
        have hx := h9 _ (List.getElem_mem hlt)
        have HD3 : Hid (DecAt (wr.setCell ⟨b, i, none⟩ (.int .u8 ((48 + q : Nat) : Int))) b (C2.set i (48 + q)) (L.length : Int) dq tr) := hD2.set i (48 + q) (by omega)
        have HF3 : Hid (Fr (oneB b) w (wr.setCell ⟨b, i, none⟩ (.int .u8 ((48 + q : Nat) : Int)))) := hF2.setOne _ _
        have HO3 : Hid ((O ++ [q]).length = i + 1 ∧ (∀ j (h : j < (O ++ [q]).length), (C2.set i (48 + q)).getD j 0 = 48 + (O ++ [q])[j]) ∧ (∀ j (h : j < L.length), R + (i + 1) ≤ j → (C2.set i (48 + q)).getD j 0 = 48 + L[j]) ∧ rs2 k N (L.drop R) = ((O ++ [q]) ++ (rs2 k (p * 10 + L[R + i]) (L.drop (R + (i + 1)))).1, (rs2 k (p * 10 + L[R + i]) (L.drop (R + (i + 1)))).2)) := by
          obtain ⟨o1, o2, o3, o4⟩ := HO.out
          refine ⟨by simp [o1], digs_snoc C2 O q i o1 (by rw [hD2.2]; omega) o2, ?_, ?_⟩
          · intro j h hj
            rw [getD_set_ne _ _ _ _ (by omega)]
            exact o3 j h (by omega)
          · rw [o4, drop_cons L (R + i) hlt]
            show (O ++ (n / 2 ^ k :: (rs2 k (n % 2 ^ k * 10 + L[R + i]) (L.drop (R + i + 1))).1), (rs2 k (n % 2 ^ k * 10 + L[R + i]) (L.drop (R + i + 1))).2) = _
            rw [hq, hp, Nat.add_assoc R i 1, List.append_assoc]
            rfl
        obtain ⟨x, hxe⟩ : ∃ x, L[R + i] = x := ⟨_, rfl⟩
        rw [hxe] at cr hx HO3
        have hpx : p * 10 + x < 10 * 2 ^ k := by omega
        obtain ⟨S, hS⟩ : ∃ S, R + i = S := ⟨_, rfl⟩
        obtain ⟨Q, hQ⟩ : ∃ Q, 48 + q = Q := ⟨_, rfl⟩
        obtain ⟨X, hX⟩ : ∃ X, 48 + x = X := ⟨_, rfl⟩
        obtain ⟨Y, hY⟩ : ∃ Y, p * 10 + x = Y := ⟨_, rfl⟩
        have eq1 : (q : Int) + 48 = (Q : Int) := by omega
        have e1 : (p : Int) * 10 + (X : Int) - 48 = (Y : Int) := by omega
        have hQb : Q ≤ 57 := by omega
        have hXb : 48 ≤ X ∧ X ≤ 57 := by omega
        have hSb : S < L.length := by omega
        have HRI : Hid (R + (i + 1) = S + 1) := by show _ = _; omega
        rw [hS] at cr ⊢
        rw [hQ] at HD3 HF3 HO3
        rw [hX] at cr
        rw [hY] at HO3 hpx
        have HS : Hid (R + i = S) := hS
        have hS' : ((S : Int) < (L.length : Int)) := by omega
        have hi8 : i < 800 := by omega
        have hiS : i < S := by omega
        clear hS hQ hX hY HO HAND hD2 hF2 hxe hq hp h9
        clear hlt hi
        go_wp2_with fail
        go_roundg (L.length - (S + 1))
        case measure => have := HS.out; omega
        case rel => exact ⟨i + 1, Y, _, O ++ [q], by rw [HRI.out], by rw [HRI.out]; go_num, by go_num, rfl, hpx, Or.inr (by rw [HRI.out]; omega), HD3.out, HF3.out, HO3⟩
      · have hi8 : i < 800 := by omega
        have HT : Hid ((rs2 k N (L.drop R)).1 = O ∧ (rs2 k N (L.drop R)).2 = n ∧ O.length = i ∧ DigsC C2 O ∧ ∀ x ∈ O, x ≤ 9) := by
          obtain ⟨o1, o2, o3, o4⟩ := HO.out
          have e := o4
          rw [List.drop_of_length_le (show L.length ≤ R + i by omega)] at e
          have e2 : rs2 k N (L.drop R) = (O, n) := by rw [e]; simp [rs2]
          have h2 := rs2_lt k (L.drop R) N (fun x hx => h9 x (List.mem_of_mem_drop hx)) f2
          rw [e2] at h2 ⊢
          exact ⟨rfl, rfl, o1, ⟨by omega, o2⟩, h2.2⟩
        have hnlt : ¬ ((R : Int) + (i : Int) < (L.length : Int)) := by omega
        have HD2 : Hid (DecAt wr b C2 (L.length : Int) dq tr) := hD2
        have HF2 : Hid (Fr (oneB b) w wr) := hF2
        clear HO h9 hq hp hand hqe hq9 hp1 hpb hD2 hF2 HD0 HF0 HC HPOS
        go_wp2_with fail
        go_loopg [5, 6] (k + 1) (fun f wv nv wr => ∃ (v n : Nat) (C2 X : List Nat) (tr : Bool), wv = .int .i64 (v : Int) ∧ nv = .int .u64 (n : Int) ∧ v ≤ 800 ∧ n < 10 * 2 ^ k ∧ DecAt wr b C2 (L.length : Int) dq tr ∧ Fr (oneB b) w wr ∧ Hid (rsI k f n ∧ v = min X.length 800 ∧ DigsC C2 (X.take 800) ∧ (∀ x ∈ X, x ≤ 9) ∧ (rs2 k N (L.drop R)).1 ++ rs3 k (k + 1) (rs2 k N (L.drop R)).2 = X ++ rs3 k f n))
        case atStart =>
          obtain ⟨t1, t2, t3, t4, t5⟩ := HT.out
          exact ⟨i, n, C2, O, tr, rfl, rfl, by omega, hn, HD2.out, HF2.out, ⟨rsI_start k n, by omega, by rw [List.take_of_length_le (by omega)]; exact t4, t5, by rw [t1, t2]⟩⟩
        case round =>
          clear HT HD2 HF2 c8 hi hlt hnlt hi8 hn hnB
          obtain ⟨v, n, C2, X, tr, rfl, rfl, hv, hn, hD2, hF2, HX⟩ := hrel
          have c8 := hD2.nd
          have fr8 := hD2.free 800
          have hnB : n < 11529215046068469760 := by omega
          by_cases hn0 : n = 0
          · subst hn0
            obtain ⟨x1, x2, x3, x4, x5⟩ := HX.out
            have hl : (X.take 800).length = v := by rw [List.length_take]; omega
            have HTR := dtrim_any b C2 (X.take 800) dq tr (wr.setCell ⟨b, 800, none⟩ (.int .i64 (v : Int))) (by rw [hl]; exact hD2.setnd _) x3 (fun x hx => x4 x (List.mem_of_mem_take hx))
            have HF3 : Hid (Fr (oneB b) w (wr.setCell ⟨b, 800, none⟩ (.int .i64 (v : Int)))) := hF2.setOne _ _
            have HE : Hid (rsh k L dp = trimP (X.take 800) dq) := by
              show _ = _
              rw [HRS.out, x5, rs3_zero, List.append_nil]
            clear x1 x2 x3 x4 x5 hl hD2 hF2 HX HRS HAND
            go_wp2_with (go_at_call 222; refine HTR.mono ?_; rintro e w4 ⟨rfl, hI, hF4⟩)
            go_end0
            rw [HE.out]
            exact ⟨rfl, hI, HF3.out.trans hF4⟩
          · obtain ⟨q, hq⟩ : ∃ q, n / 2 ^ k = q := ⟨_, rfl⟩
            obtain ⟨p, hp⟩ : ∃ p, n % 2 ^ k = p := ⟨_, rfl⟩
            have hq9 : q ≤ 9 := by
              have : n / 2 ^ k < 10 := (Nat.div_lt_iff_lt_mul hP1).mpr hn
              omega
            have hp1 : p < 2 ^ k := by rw [← hp]; exact Nat.mod_lt _ hP1
            have hpb : p < 1152921504606846976 := by omega
            have hqe : (n : Int) / 2 ^ k = (q : Int) := by rw [shr_eq, hq]
            have hand := HAND.out n (by omega)
            rw [hp] at hand
            have hn1 : 0 < (n : Int) := by omega
            obtain ⟨g, hg, h3, h4⟩ := rsI_step k gk n HX.out.1 hn0
            rw [hq, hp] at h3
            rw [hp] at h4
            obtain ⟨Q, hQ⟩ : ∃ Q, 48 + q = Q := ⟨_, rfl⟩
            obtain ⟨Y, hY⟩ : ∃ Y, p * 10 = Y := ⟨_, rfl⟩
            have eq1 : (q : Int) + 48 = (Q : Int) := by omega
            have e1 : (p : Int) * 10 = (Y : Int) := by omega
            have hQb : Q ≤ 57 := by omega
            have hYb : Y < 10 * 2 ^ k := by omega
            have HGK : Hid (gk = g + 1) := hg
            have HX2 : Hid (rsI k g Y ∧ (∀ x ∈ X ++ [q], x ≤ 9) ∧ (rs2 k N (L.drop R)).1 ++ rs3 k (k + 1) (rs2 k N (L.drop R)).2 = (X ++ [q]) ++ rs3 k g Y) := by
              obtain ⟨x1, x2, x3, x4, x5⟩ := HX.out
              refine ⟨hY ▸ h4, ?_, ?_⟩
              · intro x hx
                rcases List.mem_append.mp hx with hx | hx
                · exact x4 x hx
                · rw [List.mem_singleton.mp hx]; exact hq9
              · rw [x5, h3, hY, List.append_assoc]; rfl
            by_cases hv8 : v < 800
            · have cw := hD2.cell v hv8
              have fw := hD2.free v
              have HD3 : Hid (DecAt (wr.setCell ⟨b, v, none⟩ (.int .u8 (Q : Int))) b (C2.set v Q) (L.length : Int) dq tr) := hD2.set v Q hv8
              have HF3 : Hid (Fr (oneB b) w (wr.setCell ⟨b, v, none⟩ (.int .u8 (Q : Int)))) := hF2.setOne _ _
              have HX3 : Hid (v + 1 = min (X ++ [q]).length 800 ∧ DigsC (C2.set v Q) ((X ++ [q]).take 800)) := by
                obtain ⟨x1, x2, x3, x4, x5⟩ := HX.out
                have hXv : X.length = v := by omega
                rw [List.take_of_length_le (by omega)] at x3
                refine ⟨by simp; omega, ?_⟩
                rw [List.take_of_length_le (by simp; omega)]
                refine ⟨by simp; omega, ?_⟩
                rw [← hQ]
                exact digs_snoc C2 X q v hXv (by rw [hD2.2]; omega) x3.2
              clear HX HAND hD2 hF2 hq hp hQ hY h3 h4 hg
              go_wp2_with fail
              go_roundg g
              case measure => have := HGK.out; omega
              case rel => exact ⟨v + 1, Y, _, X ++ [q], tr, by go_num, rfl, by omega, hYb, HD3.out, HF3.out, ⟨HX2.out.1, HX3.out.1, HX3.out.2, HX2.out.2.1, HX2.out.2.2⟩⟩
            · have hv8' : ¬ ((v : Int) < 800) := by omega
              have HX3 : Hid (v = min (X ++ [q]).length 800 ∧ DigsC C2 ((X ++ [q]).take 800)) := by
                obtain ⟨x1, x2, x3, x4, x5⟩ := HX.out
                refine ⟨by simp; omega, ?_⟩
                rw [List.take_append_of_le_length (by omega)]
                exact x3
              have cw := hD2.tr
              have fw := hD2.free 803
              have HD2 : Hid (DecAt wr b C2 (L.length : Int) dq tr) := hD2
              have HD3 : Hid (DecAt (wr.setCell ⟨b, 803, none⟩ (.bool true)) b C2 (L.length : Int) dq true) := hD2.settr true
              have HF2 : Hid (Fr (oneB b) w wr) := hF2
              have HF3 : Hid (Fr (oneB b) w (wr.setCell ⟨b, 803, none⟩ (.bool true))) := hF2.setOne _ _
              clear HX HAND hD2 hF2 hq hp hQ hY h3 h4 hg
              by_cases hq0 : 0 < (q : Int)
              · go_wp2_with fail
                go_roundg g
                case measure => have := HGK.out; omega
                case rel => exact ⟨v, Y, C2, X ++ [q], true, rfl, rfl, hv, hYb, HD3.out, HF3.out, ⟨HX2.out.1, HX3.out.1, HX3.out.2, HX2.out.2.1, HX2.out.2.2⟩⟩
              · go_wp2_with fail
                go_roundg g
                case measure => have := HGK.out; omega
                case rel => exact ⟨v, Y, C2, X ++ [q], tr, rfl, rfl, hv, hYb, HD2.out, HF2.out, ⟨HX2.out.1, HX3.out.1, HX3.out.2, HX2.out.2.1, HX2.out.2.2⟩⟩
#print axioms rsh_any
end Go.Proofs.YtnklmcmdlobicaaGreatDoor
