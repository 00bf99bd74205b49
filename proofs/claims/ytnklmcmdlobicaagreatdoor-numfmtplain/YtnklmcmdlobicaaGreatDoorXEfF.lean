/- fmtEFG with the format f and all places told: its contract. -/
import Derived.Test.YtnklmcmdlobicaaGreatDoorNEfg
import Derived.Test.YtnklmcmdlobicaaGreatDoorXFfM
import Derived.Deep.LoopGhost
namespace Go.Proofs.YtnklmcmdlobicaaGreatDoor
open Go.RowKit Ieee Go.Shelf

/-- Gathered so far: X, of n bytes. -/
structure Gat (w0 : World) (base : Nat) (v0 : Value) (X : List Nat) (w : World) (so : Option Addr) (n sc : Nat) : Prop where
  own : Own w0 base v0 X w (.slice so n sc)
  len : X.length = n
theorem Gat.more {w0 : World} {base : Nat} {v0 : Value} {X Y : List Nat} {w : World} {so : Option Addr} {n sc k : Nat} (h : Own w0 base v0 (X ++ Y) w (.slice so n sc)) (hX : X.length + Y.length = n) (he : k = n) : Gat w0 base v0 (X ++ Y) w so k sc := by
  subst he
  exact ⟨h, by rw [List.length_append]; exact hX⟩
theorem rep_snoc (A : List Nat) (k : Nat) : (A ++ List.replicate k 48) ++ [48] = A ++ List.replicate (k + 1) 48 := by
  rw [List.append_assoc, List.replicate_succ']
theorem take_snoc (A Ds : List Nat) (k : Nat) (h : k < Ds.length) : (A ++ Ds.take k) ++ [Ds[k]] = A ++ Ds.take (k + 1) := by
  rw [List.append_assoc, List.take_succ_eq_append_getElem h]
set_option maxRecDepth 100000 in
set_option maxHeartbeats 4000000 in
theorem efgf_neg (B base : Nat) (so : Option Addr) (sc : Nat) (Ds : List Nat) (z P : Nat) (w : World) (hn2 : Ds.length ≤ 800) (hP : z + Ds.length ≤ P) (hP1 : 1 ≤ P) (hP2 : P ≤ 1200) (hv : w.ownsRow base 5 1 (.slice so 0 sc) 0 []) (hbase : base ≤ w.heap.size)
    (hB : ∀ j (hj : j < Ds.length), w.cell? ⟨B, j, none⟩ = some (.int .u8 ((Ds[j] : Nat) : Int))) (hBb : B < w.heap.size) (hne : ∀ k, (Value.slice so 0 sc).ownBlock = some k → k ≠ B) :
    Calls Tryz.prog 173 #[.slice so 0 sc, .bool false, .slice (some ⟨B, 0, none⟩) 800 800, .int .i64 (-(z : Int)), .int .i64 (Ds.length : Int), .int .i64 (P : Int), .int .u8 102, .bool false] w fun e w' => ∃ v', e = .returned v' ∧ Own w base (.slice so 0 sc) (fInt Ds (-(z : Int)) ++ 46 :: fFrac Ds (-(z : Int)) P) w' v' := by
  have HB : Hid (∀ w1 : World, Fr (fun k => (Value.slice so 0 sc).ownBlock = some k) w w1 → ∀ k, k < Ds.length → w1.cell? ⟨B, k, none⟩ = some (.int .u8 ((Ds.getD k 0 : Nat) : Int))) := by
    intro w1 hF k hk
    have h := hB k hk
    rw [show Ds.getD k 0 = Ds[k] by simp [List.getD, hk]]
    exact (hF.cell (a := ⟨B, k, none⟩) hBb (fun hk => hne B hk rfl)).trans h
  have HO : Hid (Gat w base (.slice so 0 sc) [] w so 0 sc) := ⟨⟨hv, Fr.refl _ _, Or.inl rfl, hbase⟩, rfl⟩
  have HEQ : Hid (fInt Ds (-(z : Int)) ++ 46 :: fFrac Ds (-(z : Int)) P = ((([48] ++ [46]) ++ List.replicate z 48) ++ Ds) ++ List.replicate (P - z - Ds.length) 48) := by
    show _ = _
    unfold fInt fFrac
    rw [if_neg (by omega), if_neg (by omega), Int.neg_neg]
    simp
  obtain ⟨v0, hv0⟩ : ∃ v0, Value.slice so 0 sc = v0 := ⟨_, rfl⟩
  rw [hv0] at HB HO ⊢
  obtain ⟨n, hn⟩ : ∃ n, Ds.length = n := ⟨_, rfl⟩
  have HLen : Hid (Ds.length = n) := hn
  rw [hn] at hn2 hP HEQ HB ⊢
  obtain ⟨tz, htz⟩ : ∃ tz, P - z - n = tz := ⟨_, rfl⟩
  rw [htz] at HEQ
  have m1 : max (0 : Int) (z : Int) = (z : Int) := by omega
  have m2 : min (P : Int) (z : Int) = (z : Int) := by omega
  have m3 : -(z : Int) + (z : Int) = 0 := by omega
  have m4 : max (0 : Int) (n : Int) = (n : Int) := by omega
  obtain ⟨pz, hpz⟩ : ∃ pz : Nat, (P : Int) - (z : Int) = (pz : Int) := ⟨P - z, by omega⟩
  have m5 : min (pz : Int) (n : Int) = (n : Int) := by omega
  have m6 : (pz : Int) - (n : Int) = (tz : Int) := by omega
  have m7 : max (0 : Int) (tz : Int) = (tz : Int) := by omega
  have hneg : ¬ (0 : Int) < -(z : Int) := by omega
  have hPp : (0 : Int) < (P : Int) := by omega
  have ht2 : z + n + tz = P := by omega
  subst hv0
  obtain ⟨v0, hv0⟩ : ∃ v0, Value.slice so 0 sc = v0 := ⟨_, rfl⟩
  rw [hv0] at HB HO
  have HV0 : Hid _ := hv0
  clear hv hbase hB hBb hne hn htz hv0
  go_enter Tryz.func173, Tryz.ntmps173
  go_wp2_with (at_builtin; refine wpList_push rfl _ _ rfl (HO.out.own.alloc _) rfl rfl rfl (cells_src w [48] _ _ rfl) 1 rfl (by omega) ?_)
  intro so1 sc1 w1 hO1
  have HO1 : Hid (Gat w base v0 [48] w1 so1 1 sc1) := ⟨hO1, rfl⟩
  clear hO1
  go_wp2_with (at_builtin; refine wpList_push rfl _ _ rfl (HO1.out.own.alloc _) rfl rfl rfl (cells_src w1 [46] _ _ rfl) 2 rfl (by omega) ?_)
  intro so2 sc2 w2 hO2
  have HO2 : Hid (Gat w base v0 ([48] ++ [46]) w2 so2 2 sc2) := ⟨hO2, rfl⟩
  clear hO2
  go_wp2_with fail
  go_loopg [0, 240] z (fun gh sv kv wr => ∃ (k so nn sc : Nat) (sa : Option Addr), so = 0 ∧ gh + k = z ∧ nn ≤ 5000 ∧ nn + gh ≤ 1202 ∧ sv = .slice sa nn sc ∧ kv = .int .i64 (k : Int) ∧ Hid (Gat w base v0 (([48] ++ [46]) ++ List.replicate k 48) wr sa nn sc))
  case atStart => exact ⟨0, 0, 2, sc2, so2, rfl, by omega, by omega, by omega, rfl, rfl, by simpa using HO2⟩
  case round =>
    rename World => wA
    obtain ⟨k, _, nA, scA, soA, rfl, hk, hnA, hbA, rfl, rfl, HA⟩ := hrel
    by_cases hkc : k < z
    · cases gk with
      | zero => exact absurd hkc (by omega)
      | succ g =>
        go_wp2_with (at_builtin; refine wpList_push rfl _ _ rfl (HA.out.own.alloc _) rfl rfl rfl (cells_src wA [48] _ _ rfl) (nA + 1) (by rw [HA.out.len]; rfl) (by omega) ?_)
        intro so8 sc8 w8 hO8
        have HO8 : Hid (Gat w base v0 (([48] ++ [46]) ++ List.replicate (k + 1) 48) w8 so8 (nA + 1) sc8) := by
          rw [← rep_snoc]
          exact ⟨by simpa using hO8, by rw [List.length_append, HA.out.len]; rfl⟩
        clear hO8 HA
        go_wp2_with fail
        go_roundg g
        case measure => omega
        case rel => exact ⟨k + 1, 0, nA + 1, sc8, so8, rfl, by omega, by omega, by omega, rfl, by go_num, HO8⟩
    · obtain rfl : z = k := by omega
      clear HO1 HO2 HO
      go_wp2_with fail
      go_loopg [0, 247] n (fun gh sv kv wr => ∃ (k so nn sc : Nat) (sa : Option Addr), so = 0 ∧ gh + k = n ∧ nn ≤ 5000 ∧ nn + gh ≤ 2002 ∧ sv = .slice sa nn sc ∧ kv = .int .i64 (k : Int) ∧ Hid (Gat w base v0 ((([48] ++ [46]) ++ List.replicate z 48) ++ Ds.take k) wr sa nn sc))
      case atStart => exact ⟨0, 0, nA, scA, soA, rfl, by omega, by omega, by omega, rfl, rfl, by simpa using HA⟩
      case round =>
        rename World => wC
        obtain ⟨k, _, nC, scC, soC, rfl, hk, hnC, hbC, rfl, rfl, HC⟩ := hrel
        by_cases hkc : k < n
        · cases gk with
          | zero => exact absurd hkc (by omega)
          | succ g =>
            obtain ⟨dk, hdk⟩ : ∃ d, Ds.getD k 0 = d := ⟨_, rfl⟩
            have hck := HB.out wC HC.out.own.fr k hkc
            rw [hdk] at hck
            have HDK : Hid (Ds.getD k 0 = dk) := hdk
            clear hdk
            go_wp2_with (at_builtin; refine wpList_push rfl _ _ rfl (HC.out.own.alloc _) rfl rfl rfl (cells_src wC [dk] _ _ rfl) (nC + 1) (by rw [HC.out.len]; rfl) (by omega) ?_)
            intro so8 sc8 w8 hO8
            have HO8 : Hid (Gat w base v0 ((([48] ++ [46]) ++ List.replicate z 48) ++ Ds.take (k + 1)) w8 so8 (nC + 1) sc8) := by
              have hkl : k < Ds.length := by have := HLen.out; omega
              rw [← take_snoc _ _ _ hkl, show Ds[k] = dk by rw [← HDK.out, List.getD, List.getElem?_eq_getElem hkl]; rfl]
              exact ⟨by simpa using hO8, by rw [List.length_append, HC.out.len]; rfl⟩
            clear hO8 HC hck
            go_wp2_with fail
            go_roundg g
            case measure => omega
            case rel => exact ⟨k + 1, 0, nC + 1, sc8, so8, rfl, by omega, by omega, by omega, rfl, by go_num, HO8⟩
        · obtain rfl : n = k := by omega
          have HD : Hid (Gat w base v0 ((([48] ++ [46]) ++ List.replicate z 48) ++ Ds) wC soC nC scC) := by
            have h := HC
            rw [show Ds.take n = Ds by rw [← HLen.out]; exact List.take_length] at h
            exact h
          clear HA HC
          go_wp2_with fail
          go_loopg [0, 261] tz (fun gh sv kv wr => ∃ (k so nn sc : Nat) (sa : Option Addr), so = 0 ∧ gh + k = tz ∧ nn ≤ 5000 ∧ nn + gh ≤ 4000 ∧ sv = .slice sa nn sc ∧ kv = .int .i64 (k : Int) ∧ Hid (Gat w base v0 (((([48] ++ [46]) ++ List.replicate z 48) ++ Ds) ++ List.replicate k 48) wr sa nn sc))
          case atStart => exact ⟨0, 0, nC, scC, soC, rfl, by omega, by omega, by omega, rfl, rfl, by simpa using HD⟩
          case round =>
            rename World => wE
            obtain ⟨k, _, nE, scE, soE, rfl, hk, hnE, hbE, rfl, rfl, HE⟩ := hrel
            by_cases hkc : k < tz
            · cases gk with
              | zero => exact absurd hkc (by omega)
              | succ g =>
                go_wp2_with (at_builtin; refine wpList_push rfl _ _ rfl (HE.out.own.alloc _) rfl rfl rfl (cells_src wE [48] _ _ rfl) (nE + 1) (by rw [HE.out.len]; rfl) (by omega) ?_)
                intro so8 sc8 w8 hO8
                have HO8 : Hid (Gat w base v0 (((([48] ++ [46]) ++ List.replicate z 48) ++ Ds) ++ List.replicate (k + 1) 48) w8 so8 (nE + 1) sc8) := by
                  rw [← rep_snoc]
                  exact ⟨by simpa using hO8, by rw [List.length_append, HE.out.len]; rfl⟩
                clear hO8 HE
                go_wp2_with fail
                go_roundg g
                case measure => omega
                case rel => exact ⟨k + 1, 0, nE + 1, sc8, so8, rfl, by omega, by omega, by omega, rfl, by go_num, HO8⟩
            · obtain rfl : tz = k := by omega
              go_wp2_with fail
              go_ret
              refine ⟨_, rfl, ?_⟩
              rw [HEQ.out, HV0.out]
              exact HE.out.own
#print axioms efgf_neg
set_option maxRecDepth 100000 in
set_option maxHeartbeats 4000000 in
theorem efgf_pos (B base : Nat) (so : Option Addr) (sc : Nat) (Ds : List Nat) (D P : Nat) (w : World) (hn1 : 1 ≤ Ds.length) (hn2 : Ds.length ≤ 800) (hD1 : 1 ≤ D) (hD2 : D ≤ 400) (hP : Ds.length ≤ D + P) (hP1 : 1 ≤ P) (hP2 : P ≤ 1200) (hv : w.ownsRow base 5 1 (.slice so 0 sc) 0 []) (hbase : base ≤ w.heap.size)
    (hB : ∀ j (hj : j < Ds.length), w.cell? ⟨B, j, none⟩ = some (.int .u8 ((Ds[j] : Nat) : Int))) (hBb : B < w.heap.size) (hne : ∀ k, (Value.slice so 0 sc).ownBlock = some k → k ≠ B) :
    Calls Tryz.prog 173 #[.slice so 0 sc, .bool false, .slice (some ⟨B, 0, none⟩) 800 800, .int .i64 (D : Int), .int .i64 (Ds.length : Int), .int .i64 (P : Int), .int .u8 102, .bool false] w fun e w' => ∃ v', e = .returned v' ∧ Own w base (.slice so 0 sc) (fInt Ds (D : Int) ++ 46 :: fFrac Ds (D : Int) P) w' v' := by
  obtain ⟨n, hn⟩ : ∃ n, Ds.length = n := ⟨_, rfl⟩
  obtain ⟨m, hm⟩ : ∃ m, min n D = m := ⟨_, rfl⟩
  obtain ⟨md, hmd⟩ : ∃ md, n - D = md := ⟨_, rfl⟩
  obtain ⟨q, hq⟩ : ∃ q, D - m = q := ⟨_, rfl⟩
  obtain ⟨tz, htz⟩ : ∃ tz, P - md = tz := ⟨_, rfl⟩
  have HB : Hid (∀ w1 : World, Fr (fun k => (Value.slice so 0 sc).ownBlock = some k) w w1 → ∀ k, k < m → w1.cell? ⟨B, k, none⟩ = some (.int .u8 ((Ds.getD k 0 : Nat) : Int))) := by
    intro w1 hF k hk
    have hk' : k < Ds.length := by omega
    have h := hB k hk'
    rw [show Ds.getD k 0 = Ds[k] by simp [List.getD, hk']]
    exact (hF.cell (a := ⟨B, k, none⟩) hBb (fun hk => hne B hk rfl)).trans h
  have HB2 : Hid (∀ w1 : World, Fr (fun k => (Value.slice so 0 sc).ownBlock = some k) w w1 → ∀ k, k < md → w1.cell? ⟨B, D + k, none⟩ = some (.int .u8 (((Ds.drop D).getD k 0 : Nat) : Int))) := by
    intro w1 hF k hk
    have hk' : D + k < Ds.length := by omega
    have h := hB (D + k) hk'
    rw [show (Ds.drop D).getD k 0 = Ds[D + k] by simp [List.getD, hk']]
    exact (hF.cell (a := ⟨B, D + k, none⟩) hBb (fun hk => hne B hk rfl)).trans h
  have HO : Hid (Gat w base (.slice so 0 sc) [] w so 0 sc) := ⟨⟨hv, Fr.refl _ _, Or.inl rfl, hbase⟩, rfl⟩
  have HEQ : Hid (fInt Ds (D : Int) ++ 46 :: fFrac Ds (D : Int) P = ((((([] ++ Ds.take m) ++ List.replicate q 48) ++ [46]) ++ Ds.drop D) ++ List.replicate tz 48)) := by
    show _ = _
    unfold fInt fFrac
    rw [if_pos (by omega), if_pos (by omega), Int.toNat_natCast, hn]
    rw [show D - min n D = q by omega, show P - (n - D) = tz by omega]
    rw [show Ds.take D = Ds.take m by
      by_cases h : n ≤ D
      · rw [List.take_of_length_le (by omega), List.take_of_length_le (by omega)]
      · rw [show m = D by omega]]
    simp
  have HLen : Hid (Ds.length = n) := hn
  have HLen2 : Hid ((Ds.drop D).length = md) := by show _ = _; rw [List.length_drop]; omega
  rw [hn] at hn1 hn2 hP ⊢
  have m0 : min (n : Int) (D : Int) = (m : Int) := by omega
  have m1 : (D : Int) - (m : Int) = (q : Int) := by omega
  have m2 : max (0 : Int) (-(D : Int)) = 0 := by omega
  have m3 : min (P : Int) 0 = 0 := by omega
  obtain ⟨dd, hdd⟩ : ∃ dd : Int, (n : Int) - (D : Int) = dd := ⟨_, rfl⟩
  have m4 : max (0 : Int) dd = (md : Int) := by omega
  have m5 : min (P : Int) (md : Int) = (md : Int) := by omega
  have m6 : (P : Int) - (md : Int) = (tz : Int) := by omega
  have m7 : max (0 : Int) (tz : Int) = (tz : Int) := by omega
  have hpos : (0 : Int) < (D : Int) := by omega
  have hposN : 0 < D := by omega
  have hposD : decide (0 < D) = true := decide_eq_true hposN
  have hPp : (0 : Int) < (P : Int) := by omega
  have hm8 : m ≤ 800 := by omega
  have hm0 : 1 ≤ m := by omega
  have hmn : m ≤ n := by omega
  have ht2 : m + q + md + tz ≤ 2700 := by omega
  obtain ⟨v0, hv0⟩ : ∃ v0, Value.slice so 0 sc = v0 := ⟨_, rfl⟩
  rw [hv0] at HB HB2 HO
  have HV0 : Hid _ := hv0
  clear hv hbase hB hBb hne hn htz hv0 hm hmd hq
  go_enter Tryz.func173, Tryz.ntmps173
  go_wp2_with fail
  go_loopg [0, 191] m (fun gh sv kv wr => ∃ (k so nn sc : Nat) (sa : Option Addr), so = 0 ∧ gh + k = m ∧ nn ≤ 5000 ∧ nn + gh ≤ m ∧ sv = .slice sa nn sc ∧ kv = .int .i64 (k : Int) ∧ Hid (Gat w base v0 (([] : List Nat) ++ Ds.take k) wr sa nn sc))
  case atStart => exact ⟨0, 0, 0, sc, so, rfl, by omega, by omega, by omega, rfl, rfl, by simpa using HO⟩
  case round =>
    rename World => wA
    obtain ⟨k, _, nA, scA, soA, rfl, hk, hnA, hbA, rfl, rfl, HA⟩ := hrel
    by_cases hkc : k < m
    · cases gk with
      | zero => exact absurd hkc (by omega)
      | succ g =>
        obtain ⟨dk, hdk⟩ : ∃ d, Ds.getD k 0 = d := ⟨_, rfl⟩
        have hck := HB.out wA HA.out.own.fr k hkc
        rw [hdk] at hck
        have HDK : Hid (Ds.getD k 0 = dk) := hdk
        clear hdk
        go_wp2_with (at_builtin; refine wpList_push rfl _ _ rfl (HA.out.own.alloc _) rfl rfl rfl (cells_src wA [dk] _ _ rfl) (nA + 1) (by rw [HA.out.len]; rfl) (by omega) ?_)
        intro so8 sc8 w8 hO8
        have HO8 : Hid (Gat w base v0 (([] : List Nat) ++ Ds.take (k + 1)) w8 so8 (nA + 1) sc8) := by
          have hkl : k < Ds.length := by have := HLen.out; omega
          rw [← take_snoc _ _ _ hkl, show Ds[k] = dk by rw [← HDK.out, List.getD, List.getElem?_eq_getElem hkl]; rfl]
          exact ⟨by simpa using hO8, by rw [List.length_append, HA.out.len]; rfl⟩
        clear hO8 HA hck
        go_wp2_with fail
        go_roundg g
        case measure => omega
        case rel => exact ⟨k + 1, 0, nA + 1, sc8, so8, rfl, by omega, by omega, by omega, rfl, by go_num, HO8⟩
    · obtain rfl : m = k := by omega
      clear HO
      go_wp2_with fail
      go_loopg [0, 203] q (fun gh sv kv wr => ∃ (k so nn sc : Nat) (sa : Option Addr), so = 0 ∧ gh + k = q ∧ nn ≤ 5000 ∧ nn + gh ≤ m + q ∧ sv = .slice sa nn sc ∧ kv = .int .i64 (k : Int) ∧ Hid (Gat w base v0 ((([] : List Nat) ++ Ds.take m) ++ List.replicate k 48) wr sa nn sc))
      case atStart => exact ⟨0, 0, nA, scA, soA, rfl, by omega, by omega, by omega, rfl, rfl, by simpa using HA⟩
      case round =>
        rename World => wC
        obtain ⟨k, _, nC, scC, soC, rfl, hk, hnC, hbC, rfl, rfl, HC⟩ := hrel
        by_cases hkc : k < q
        · cases gk with
          | zero => exact absurd hkc (by omega)
          | succ g =>
            go_wp2_with (at_builtin; refine wpList_push rfl _ _ rfl (HC.out.own.alloc _) rfl rfl rfl (cells_src wC [48] _ _ rfl) (nC + 1) (by rw [HC.out.len]; rfl) (by omega) ?_)
            intro so8 sc8 w8 hO8
            have HO8 : Hid (Gat w base v0 ((([] : List Nat) ++ Ds.take m) ++ List.replicate (k + 1) 48) w8 so8 (nC + 1) sc8) := by
              rw [← rep_snoc]
              exact ⟨by simpa using hO8, by rw [List.length_append, HC.out.len]; rfl⟩
            clear hO8 HC
            go_wp2_with fail
            go_roundg g
            case measure => omega
            case rel => exact ⟨k + 1, 0, nC + 1, sc8, so8, rfl, by omega, by omega, by omega, rfl, by go_num, HO8⟩
        · obtain rfl : q = k := by omega
          clear HA
          go_wp2_with (at_builtin; refine wpList_push rfl _ _ rfl (HC.out.own.alloc _) rfl rfl rfl (cells_src wC [46] _ _ rfl) (nC + 1) (by rw [HC.out.len]; rfl) (by omega) ?_)
          intro so7 sc7 w7 hO7
          have HG : Hid (Gat w base v0 (((([] : List Nat) ++ Ds.take m) ++ List.replicate q 48) ++ [46]) w7 so7 (nC + 1) sc7) := ⟨by simpa using hO7, by rw [List.length_append, HC.out.len]; rfl⟩
          clear hO7 HC
          go_wp2_with fail
          go_loopg [0, 240] 0 (fun gh sv kv wr => gh = 0 ∧ sv = .slice so7 (nC + 1) sc7 ∧ kv = .int .i64 0 ∧ wr = w7)
          case atStart => exact ⟨rfl, rfl, rfl, rfl⟩
          case round =>
            obtain ⟨hg, rfl, rfl, hwr⟩ := hrel
            subst hwr
            clear hg
            go_wp2_with fail
            go_loopg [0, 247] md (fun gh sv kv wr => ∃ (k so nn sc : Nat) (sa : Option Addr), so = 0 ∧ gh + k = md ∧ nn ≤ 5000 ∧ nn + gh ≤ m + q + 1 + md ∧ sv = .slice sa nn sc ∧ kv = .int .i64 (k : Int) ∧ Hid (Gat w base v0 ((((([] : List Nat) ++ Ds.take m) ++ List.replicate q 48) ++ [46]) ++ (Ds.drop D).take k) wr sa nn sc))
            case atStart => exact ⟨0, 0, (nC + 1), sc7, so7, rfl, by omega, by omega, by omega, rfl, rfl, by simpa using HG⟩
            case round =>
              rename World => wJ
              obtain ⟨k, _, nJ, scJ, soJ, rfl, hk, hnJ, hbJ, rfl, rfl, HJ⟩ := hrel
              by_cases hkc : k < md
              · cases gk with
                | zero => exact absurd hkc (by omega)
                | succ g =>
                  obtain ⟨dk, hdk⟩ : ∃ d, (Ds.drop D).getD k 0 = d := ⟨_, rfl⟩
                  have hck := HB2.out wJ HJ.out.own.fr k hkc
                  rw [hdk] at hck
                  have HDK : Hid ((Ds.drop D).getD k 0 = dk) := hdk
                  clear hdk
                  obtain ⟨aD, haD⟩ : ∃ aD, D + k = aD := ⟨_, rfl⟩
                  rw [haD] at hck
                  have eaD : (D : Int) + (k : Int) = (aD : Int) := by omega
                  have haD8 : aD < 800 := by omega
                  clear haD
                  go_wp2_with (at_builtin; refine wpList_push rfl _ _ rfl (HJ.out.own.alloc _) rfl rfl rfl (cells_src wJ [dk] _ _ rfl) (nJ + 1) (by rw [HJ.out.len]; rfl) (by omega) ?_)
                  intro so8 sc8 w8 hO8
                  have HO8 : Hid (Gat w base v0 ((((([] : List Nat) ++ Ds.take m) ++ List.replicate q 48) ++ [46]) ++ (Ds.drop D).take (k + 1)) w8 so8 (nJ + 1) sc8) := by
                    have hkl : k < (Ds.drop D).length := by have := HLen2.out; omega
                    rw [← take_snoc _ _ _ hkl, show (Ds.drop D)[k] = dk by rw [← HDK.out, List.getD, List.getElem?_eq_getElem hkl]; rfl]
                    exact ⟨by simpa using hO8, by rw [List.length_append, HJ.out.len]; rfl⟩
                  clear hO8 HJ hck
                  go_wp2_with fail
                  go_roundg g
                  case measure => omega
                  case rel => exact ⟨k + 1, 0, nJ + 1, sc8, so8, rfl, by omega, by omega, by omega, rfl, by go_num, HO8⟩
              · obtain rfl : md = k := by omega
                have HK : Hid (Gat w base v0 ((((([] : List Nat) ++ Ds.take m) ++ List.replicate q 48) ++ [46]) ++ Ds.drop D) wJ soJ nJ scJ) := by
                  have h := HJ
                  rw [show (Ds.drop D).take md = Ds.drop D by rw [← HLen2.out]; exact List.take_length] at h
                  exact h
                clear HG HJ
                go_wp2_with fail
                go_loopg [0, 261] tz (fun gh sv kv wr => ∃ (k so nn sc : Nat) (sa : Option Addr), so = 0 ∧ gh + k = tz ∧ nn ≤ 5000 ∧ nn + gh ≤ m + q + 1 + md + tz ∧ sv = .slice sa nn sc ∧ kv = .int .i64 (k : Int) ∧ Hid (Gat w base v0 (((((([] : List Nat) ++ Ds.take m) ++ List.replicate q 48) ++ [46]) ++ Ds.drop D) ++ List.replicate k 48) wr sa nn sc))
                case atStart => exact ⟨0, 0, nJ, scJ, soJ, rfl, by omega, by omega, by omega, rfl, rfl, by simpa using HK⟩
                case round =>
                  rename World => wE
                  obtain ⟨k, _, nE, scE, soE, rfl, hk, hnE, hbE, rfl, rfl, HE⟩ := hrel
                  by_cases hkc : k < tz
                  · cases gk with
                    | zero => exact absurd hkc (by omega)
                    | succ g =>
                      go_wp2_with (at_builtin; refine wpList_push rfl _ _ rfl (HE.out.own.alloc _) rfl rfl rfl (cells_src wE [48] _ _ rfl) (nE + 1) (by rw [HE.out.len]; rfl) (by omega) ?_)
                      intro so8 sc8 w8 hO8
                      have HO8 : Hid (Gat w base v0 (((((([] : List Nat) ++ Ds.take m) ++ List.replicate q 48) ++ [46]) ++ Ds.drop D) ++ List.replicate (k + 1) 48) w8 so8 (nE + 1) sc8) := by
                        rw [← rep_snoc]
                        exact ⟨by simpa using hO8, by rw [List.length_append, HE.out.len]; rfl⟩
                      clear hO8 HE
                      go_wp2_with fail
                      go_roundg g
                      case measure => omega
                      case rel => exact ⟨k + 1, 0, nE + 1, sc8, so8, rfl, by omega, by omega, by omega, rfl, by go_num, HO8⟩
                  · obtain rfl : tz = k := by omega
                    go_wp2_with fail
                    go_ret
                    refine ⟨_, rfl, ?_⟩
                    rw [HEQ.out, HV0.out]
                    exact HE.out.own
#print axioms efgf_pos
set_option maxRecDepth 100000 in
set_option maxHeartbeats 4000000 in
theorem efgf_nought (base : Nat) (so : Option Addr) (sc : Nat) (P : Nat) (w : World) (hP1 : 1 ≤ P) (hP2 : P ≤ 1200) (hv : w.ownsRow base 5 1 (.slice so 0 sc) 0 []) (hbase : base ≤ w.heap.size) :
    Calls Tryz.prog 173 #[.slice so 0 sc, .bool false, .slice none 0 0, .int .i64 0, .int .i64 0, .int .i64 (P : Int), .int .u8 102, .bool false] w fun e w' => ∃ v', e = .returned v' ∧ Own w base (.slice so 0 sc) (fInt [] 0 ++ 46 :: fFrac [] 0 P) w' v' := by
  have HO : Hid (Gat w base (.slice so 0 sc) [] w so 0 sc) := ⟨⟨hv, Fr.refl _ _, Or.inl rfl, hbase⟩, rfl⟩
  have HEQ : Hid (fInt [] 0 ++ 46 :: fFrac [] 0 P = ([48] ++ [46]) ++ List.replicate P 48) := by
    show _ = _
    simp [fInt, fFrac]
  have m2 : min (P : Int) 0 = 0 := by omega
  have m7 : max (0 : Int) (P : Int) = (P : Int) := by omega
  have hPp : (0 : Int) < (P : Int) := by omega
  obtain ⟨v0, hv0⟩ : ∃ v0, Value.slice so 0 sc = v0 := ⟨_, rfl⟩
  rw [hv0] at HO
  have HV0 : Hid _ := hv0
  clear hv hbase hv0
  go_enter Tryz.func173, Tryz.ntmps173
  go_wp2_with (at_builtin; refine wpList_push rfl _ _ rfl (HO.out.own.alloc _) rfl rfl rfl (cells_src w [48] _ _ rfl) 1 rfl (by omega) ?_)
  intro so1 sc1 w1 hO1
  have HO1 : Hid (Gat w base v0 [48] w1 so1 1 sc1) := ⟨hO1, rfl⟩
  clear hO1
  go_wp2_with (at_builtin; refine wpList_push rfl _ _ rfl (HO1.out.own.alloc _) rfl rfl rfl (cells_src w1 [46] _ _ rfl) 2 rfl (by omega) ?_)
  intro so2 sc2 w2 hO2
  have HO2 : Hid (Gat w base v0 ([48] ++ [46]) w2 so2 2 sc2) := ⟨hO2, rfl⟩
  clear hO2
  go_wp2_with fail
  go_loopg [0, 240] 0 (fun gh sv kv wr => gh = 0 ∧ sv = .slice so2 2 sc2 ∧ kv = .int .i64 0 ∧ wr = w2)
  case atStart => exact ⟨rfl, rfl, rfl, rfl⟩
  case round =>
    obtain ⟨hg, rfl, rfl, hwr⟩ := hrel
    subst hwr
    clear hg
    go_wp2_with fail
    go_loopg [0, 247] 0 (fun gh sv kv wr => gh = 0 ∧ sv = .slice so2 2 sc2 ∧ kv = .int .i64 0 ∧ Hid (Gat w base v0 ([48] ++ [46]) wr so2 2 sc2))
    case atStart => exact ⟨rfl, rfl, rfl, HO2⟩
    case round =>
      rename World => w5
      obtain ⟨hg, rfl, rfl, HO5⟩ := hrel
      clear hg HO2
      go_wp2_with fail
      go_loopg [0, 261] P (fun gh sv kv wr => ∃ (k so nn sc : Nat) (sa : Option Addr), so = 0 ∧ gh + k = P ∧ nn ≤ 5000 ∧ nn + gh ≤ 2000 ∧ sv = .slice sa nn sc ∧ kv = .int .i64 (k : Int) ∧ Hid (Gat w base v0 (([48] ++ [46]) ++ List.replicate k 48) wr sa nn sc))
      case atStart => exact ⟨0, 0, 2, sc2, so2, rfl, by omega, by omega, by omega, rfl, rfl, by simpa using HO5⟩
      case round =>
        rename World => wE
        obtain ⟨k, _, nE, scE, soE, rfl, hk, hnE, hbE, rfl, rfl, HE⟩ := hrel
        by_cases hkc : k < P
        · cases gk with
          | zero => exact absurd hkc (by omega)
          | succ g =>
            go_wp2_with (at_builtin; refine wpList_push rfl _ _ rfl (HE.out.own.alloc _) rfl rfl rfl (cells_src wE [48] _ _ rfl) (nE + 1) (by rw [HE.out.len]; rfl) (by omega) ?_)
            intro so8 sc8 w8 hO8
            have HO8 : Hid (Gat w base v0 (([48] ++ [46]) ++ List.replicate (k + 1) 48) w8 so8 (nE + 1) sc8) := by
              rw [← rep_snoc]
              exact ⟨by simpa using hO8, by rw [List.length_append, HE.out.len]; rfl⟩
            clear hO8 HE
            go_wp2_with fail
            go_roundg g
            case measure => omega
            case rel => exact ⟨k + 1, 0, nE + 1, sc8, so8, rfl, by omega, by omega, by omega, rfl, by go_num, HO8⟩
        · obtain rfl : P = k := by omega
          go_wp2_with fail
          go_ret
          refine ⟨_, rfl, ?_⟩
          rw [HEQ.out, HV0.out]
          exact HE.out.own
#print axioms efgf_nought
end Go.Proofs.YtnklmcmdlobicaaGreatDoor
