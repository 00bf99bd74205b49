/- Bytes that are gathered one by one in a row of one's own; fmtEFG with the format e: its contract. -/
import Derived.Test.YtnklmcmdlobicaaGreatDoorNDig
import Derived.Laws.AppendOwn
import Derived.Laws.OwnMore
import Derived.Laws.MakeOwn
import Derived.Maps.AppendAt
namespace Go.Proofs.YtnklmcmdlobicaaGreatDoor
open Go.RowKit Ieee Go.Shelf

theorem infoU8 : (Tryz.prog.info? 5).map (fun i => (i.zero, i.size, i.bytes)) = some (some (.int .u8 0), 1, 1) := by kernel_rfl
theorem cells_src (w : World) (cs : List Nat) (vs : Array Value) (t : TypeId) (h : vs.toList = byteVals cs) : Src (w.alloc (.cells vs t (0, 0))) (some ⟨w.heap.size, 0, none⟩) (byteVals cs) := by
  refine Src.of (Or.inr ⟨w.heap.size, 0, rfl, fun i hi => ?_⟩)
  rw [Nat.zero_add]
  refine cellOf (heap_alloc_new w _) ?_
  rw [← Array.getElem?_toList, h]
  exact byteVals_get cs i hi

/-- X has been gathered in v, since the world was w0 and the row v0. -/
structure Own (w0 : World) (base : Nat) (v0 : Value) (X : List Nat) (w : World) (v : Value) : Prop where
  row : w.ownsRow base 5 1 v X.length (byteVals X)
  fr : Fr (fun k => v0.ownBlock = some k) w0 w
  at_ : v.ownBlock = v0.ownBlock ∨ ∃ k, v.ownBlock = some k ∧ w0.heap.size ≤ k
  bs : base ≤ w.heap.size
theorem Own.alloc {w0 : World} {base : Nat} {v0 : Value} {X : List Nat} {w : World} {v : Value} (h : Own w0 base v0 X w v) (o : Obj) : Own w0 base v0 X (w.alloc o) v :=
  ⟨h.row.alloc o, h.fr.alloc o, h.at_, by have := h.bs; simp; omega⟩
theorem wpList_push {w w0 : World} {ops : Array Oper} {rest : List Oper} {o : Oper} {a : Act} {Q : Exit → Act → World → Prop} (hgd : o.guard = none) (s x : Operand)
    (ho : o.op = .call { callee := .builtin .append, args := #[s, x], argTypes := #[71, 71] })
    {base : Nat} {v0 v : Value} {X Y : List Nat} (hO : Own w0 base v0 X w v) (hs : a.eval s = v) {ad : Addr} {m c : Nat} (hx : a.eval x = .slice (some ad) m c) (hm : Y.length = m) (hsrc : Src w (some ad) (byteVals Y)) (n : Nat) (hn : X.length + Y.length = n) (hlen : n ≤ 1000000)
    (h : ∀ so sc w', Own w0 base v0 (X ++ Y) w' (.slice so n sc) → wpList Tryz.prog ops Q rest (a.put o.dst (.slice so n sc)) w') : wpList Tryz.prog ops Q (o :: rest) a w := by
  obtain ⟨i0, hi, hz0, hz1, hz2⟩ := info_parts infoU8
  subst hm
  refine wpList_append_own_at w hgd s x 71 ho base 5 i0 (.int .u8 0) 1 1 Tryz.underlying71 hi hz0 hz1 hz2 rfl (by decide) v X.length (byteVals X) hs hO.row ad Y.length c (byteVals Y) hx (by simp) ?_ (byteVals_one Y) (by unfold maxLen; omega) (by omega) hO.bs ?_
  · intro j u hj
    have hj' : j < (byteVals Y).length := by
      rcases Nat.lt_or_ge j (byteVals Y).length with h' | h'
      · exact h'
      · rw [List.getElem?_eq_none h'] at hj; cases hj
    obtain ⟨ad', he, hc⟩ := hsrc.get (by omega)
    cases he
    exact hc j u hj
  · intro v' w' h1 h2 _ h4
    have hb : byteVals (X ++ Y) = byteVals X ++ byteVals Y := by simp [byteVals]
    have hF : Fr (fun k => v0.ownBlock = some k) w0 w' := hO.fr.grown h2 (fun k hk => by
      rcases hO.at_ with e | ⟨q, e, hq⟩
      · left; rw [← e]; exact hk
      · right; rw [e] at hk; cases hk; exact hq)
    have hat : v'.ownBlock = v0.ownBlock ∨ ∃ k, v'.ownBlock = some k ∧ w0.heap.size ≤ k := by
      rcases h4 with e | e
      · rw [e]; exact hO.at_
      · exact Or.inr ⟨_, e, hO.fr.size⟩
    have hrow : w'.ownsRow base 5 1 v' (X ++ Y).length (byteVals (X ++ Y)) := by rw [hb, List.length_append]; exact h1
    obtain ⟨so, sc, rfl⟩ : ∃ so sc, v' = .slice so n sc := by
      rcases h1.2 with ⟨hv, h0⟩ | ⟨g, cap, cur, hv, _⟩
      · refine ⟨none, 0, ?_⟩
        rw [hv, ← hn, h0]
      · exact ⟨_, _, by rw [hv, ← hn]⟩
    exact h so sc w' ⟨hrow, hF, hat, Nat.le_trans hO.bs h2.size⟩

/-- The power of ten as it is written behind the e. -/
def expT (x : Int) : List Nat := (if x < 0 then 45 else 43) :: (if x.natAbs < 10 then [48, 48 + x.natAbs] else if x.natAbs < 100 then [48 + x.natAbs / 10, 48 + x.natAbs % 10] else [48 + x.natAbs / 100, 48 + x.natAbs / 10 % 10, 48 + x.natAbs % 10])
/-- The text of digits with a power of ten. -/
def eText (Ds : List Nat) (dp : Int) : List Nat := Ds.take 1 ++ (if 1 < Ds.length then 46 :: Ds.drop 1 else []) ++ 101 :: expT (dp - 1)

theorem eText_one (d0 : Nat) (dp : Int) : eText [d0] dp = [d0, 101] ++ expT (dp - 1) := rfl
theorem eText_more (d0 : Nat) (Es : List Nat) (dp : Int) (h : 0 < Es.length) : eText (d0 :: Es) dp = [d0, 46] ++ Es ++ [101] ++ expT (dp - 1) := by
  unfold eText
  rw [if_pos (by simp; omega)]
  simp
theorem expT_n1 {dp : Int} {a : Nat} (hx : dp - 1 < 0) (ha : -(dp - 1) = (a : Int)) (h : a < 10) : expT (dp - 1) = [45, 48, 48 + a] := by
  have e : (dp - 1).natAbs = a := by omega
  unfold expT
  rw [if_pos hx, e, if_pos h]
theorem expT_n2 {dp : Int} {a : Nat} (hx : dp - 1 < 0) (ha : -(dp - 1) = (a : Int)) (h : ¬ a < 10) (h2 : a < 100) : expT (dp - 1) = [45, 48 + a / 10, 48 + a % 10] := by
  have e : (dp - 1).natAbs = a := by omega
  unfold expT
  rw [if_pos hx, e, if_neg h, if_pos h2]
theorem expT_n3 {dp : Int} {a : Nat} (hx : dp - 1 < 0) (ha : -(dp - 1) = (a : Int)) (h2 : ¬ a < 100) : expT (dp - 1) = [45, 48 + a / 100, 48 + a / 10 % 10, 48 + a % 10] := by
  have e : (dp - 1).natAbs = a := by omega
  unfold expT
  rw [if_pos hx, e, if_neg (by omega), if_neg h2]
theorem expT_p1 {dp : Int} {a : Nat} (hx : ¬ dp - 1 < 0) (ha : dp - 1 = (a : Int)) (h : a < 10) : expT (dp - 1) = [43, 48, 48 + a] := by
  have e : (dp - 1).natAbs = a := by omega
  unfold expT
  rw [if_neg hx, e, if_pos h]
theorem expT_p2 {dp : Int} {a : Nat} (hx : ¬ dp - 1 < 0) (ha : dp - 1 = (a : Int)) (h : ¬ a < 10) (h2 : a < 100) : expT (dp - 1) = [43, 48 + a / 10, 48 + a % 10] := by
  have e : (dp - 1).natAbs = a := by omega
  unfold expT
  rw [if_neg hx, e, if_neg h, if_pos h2]
theorem expT_p3 {dp : Int} {a : Nat} (hx : ¬ dp - 1 < 0) (ha : dp - 1 = (a : Int)) (h2 : ¬ a < 100) : expT (dp - 1) = [43, 48 + a / 100, 48 + a / 10 % 10, 48 + a % 10] := by
  have e : (dp - 1).natAbs = a := by omega
  unfold expT
  rw [if_neg hx, e, if_neg (by omega), if_neg h2]
set_option maxRecDepth 100000 in
set_option maxHeartbeats 4000000 in
theorem efg_any (B base : Nat) (v : Value) (Ds : List Nat) (dp : Int) (w : World) (hn1 : 1 ≤ Ds.length) (hn2 : Ds.length ≤ 18) (hD : ∀ x ∈ Ds, x < 256) (hdp : -500 ≤ dp) (hdp2 : dp ≤ 500) (hv : w.ownsRow base 5 1 v 0 []) (hbase : base ≤ w.heap.size)
    (hB : ∀ j (hj : j < Ds.length), w.cell? ⟨B, j, none⟩ = some (.int .u8 ((Ds[j] : Nat) : Int))) (hBb : B < w.heap.size) (hne : ∀ k, v.ownBlock = some k → k ≠ B) :
    Calls Tryz.prog 173 #[v, .bool false, .slice (some ⟨B, 0, none⟩) 32 32, .int .i64 dp, .int .i64 (Ds.length : Int), .int .i64 ((Ds.length : Int) - 1), .int .u8 101, .bool true] w fun e w' => ∃ v', e = .returned v' ∧ Own w base v (eText Ds dp) w' v' := by
  have hO : Own w base v [] w v := ⟨hv, Fr.refl _ _, Or.inl rfl, hbase⟩
  obtain ⟨n, hn⟩ : ∃ n, Ds.length = n + 1 := ⟨Ds.length - 1, by omega⟩
  rw [hn]
  have hc0 := hB 0 (by omega)
  have e0 : ((n + 1 : Nat) : Int) - 1 = (n : Int) := by omega
  rw [e0]
  obtain ⟨so, sc, rfl⟩ : ∃ so sc, v = .slice so 0 sc := by
    rcases hv.2 with ⟨hv, h0⟩ | ⟨g, cap, cur, hv, _⟩
    · exact ⟨_, _, hv⟩
    · exact ⟨_, _, hv⟩
  have HO : Hid _ := hO
  clear hv hO
  obtain ⟨d0, hd0⟩ : ∃ d, Ds[0] = d := ⟨_, rfl⟩
  rw [hd0] at hc0
  cases n with
  | zero =>
    have HDs : Hid (Ds = [d0]) := by
      show Ds = [d0]
      obtain ⟨x, rfl⟩ := List.length_eq_one_iff.1 hn
      simp at hd0
      rw [hd0]
    clear hB hne hd0 hn
    go_enter Tryz.func173, Tryz.ntmps173
    go_wp2_with (at_builtin; refine wpList_push rfl _ _ rfl (HO.out.alloc _) rfl rfl rfl (cells_src w [d0] _ _ rfl) 1 rfl (by omega) ?_)
    intro so1 sc1 w1 hO1
    have HO1 : Hid _ := hO1
    clear hO1
    go_wp2_with (at_builtin; refine wpList_push rfl _ _ rfl (HO1.out.alloc _) rfl rfl rfl (cells_src w1 [101] _ _ rfl) 2 rfl (by omega) ?_)
    intro so2 sc2 w2 hO2
    have HO2 : Hid _ := hO2
    clear hO2
    by_cases hx : dp - 1 < 0
    · obtain ⟨a, ha⟩ : ∃ a : Nat, -(dp - 1) = (a : Int) := ⟨(-(dp - 1)).toNat, by omega⟩
      go_wp2_with (at_builtin; refine wpList_push rfl _ _ rfl (HO2.out.alloc _) rfl rfl rfl (cells_src w2 [45] _ _ rfl) (3) rfl (by omega) ?_)
      intro so8 sc8 w8 hO8
      have HO8 : Hid _ := hO8
      clear hO8
      by_cases h10 : a < 10
      · go_wp2_with (at_builtin; refine wpList_push rfl _ _ rfl (HO8.out.alloc _) rfl rfl rfl (cells_src w8 [48, 48 + a] _ _ (by simp [byteVals]; omega)) (5) rfl (by omega) ?_)
        intro so9 sc9 w9 hO9
        have HO9 : Hid _ := hO9
        clear hO9
        go_wp2_with fail
        go_ret
        refine ⟨_, rfl, ?_⟩
        have he := expT_n1 hx ha h10
        have h9 := HO9.out
        rw [HDs.out, eText_one, he]; exact h9
      · by_cases h100 : a < 100
        · go_wp2_with (at_builtin; refine wpList_push rfl _ _ rfl (HO8.out.alloc _) rfl rfl rfl (cells_src w8 [48 + a / 10, 48 + a % 10] _ _ (by simp [byteVals]; omega)) (5) rfl (by omega) ?_)
          intro so9 sc9 w9 hO9
          have HO9 : Hid _ := hO9
          clear hO9
          go_wp2_with fail
          go_ret
          refine ⟨_, rfl, ?_⟩
          have he := expT_n2 hx ha h10 h100
          have h9 := HO9.out
          rw [HDs.out, eText_one, he]; exact h9
        · go_wp2_with (at_builtin; refine wpList_push rfl _ _ rfl (HO8.out.alloc _) rfl rfl rfl (cells_src w8 [48 + a / 100, 48 + a / 10 % 10, 48 + a % 10] _ _ (by simp [byteVals]; omega)) (6) rfl (by omega) ?_)
          intro so9 sc9 w9 hO9
          have HO9 : Hid _ := hO9
          clear hO9
          go_wp2_with fail
          go_ret
          refine ⟨_, rfl, ?_⟩
          have he := expT_n3 hx ha h100
          have h9 := HO9.out
          rw [HDs.out, eText_one, he]; exact h9
    · obtain ⟨a, ha⟩ : ∃ a : Nat, dp - 1 = (a : Int) := ⟨(dp - 1).toNat, by omega⟩
      go_wp2_with (at_builtin; refine wpList_push rfl _ _ rfl (HO2.out.alloc _) rfl rfl rfl (cells_src w2 [43] _ _ rfl) (3) rfl (by omega) ?_)
      intro so8 sc8 w8 hO8
      have HO8 : Hid _ := hO8
      clear hO8
      by_cases h10 : a < 10
      · go_wp2_with (at_builtin; refine wpList_push rfl _ _ rfl (HO8.out.alloc _) rfl rfl rfl (cells_src w8 [48, 48 + a] _ _ (by simp [byteVals]; omega)) (5) rfl (by omega) ?_)
        intro so9 sc9 w9 hO9
        have HO9 : Hid _ := hO9
        clear hO9
        go_wp2_with fail
        go_ret
        refine ⟨_, rfl, ?_⟩
        have he := expT_p1 (Int.not_lt.2 hx) ha h10
        have h9 := HO9.out
        rw [HDs.out, eText_one, he]; exact h9
      · by_cases h100 : a < 100
        · go_wp2_with (at_builtin; refine wpList_push rfl _ _ rfl (HO8.out.alloc _) rfl rfl rfl (cells_src w8 [48 + a / 10, 48 + a % 10] _ _ (by simp [byteVals]; omega)) (5) rfl (by omega) ?_)
          intro so9 sc9 w9 hO9
          have HO9 : Hid _ := hO9
          clear hO9
          go_wp2_with fail
          go_ret
          refine ⟨_, rfl, ?_⟩
          have he := expT_p2 (Int.not_lt.2 hx) ha h10 h100
          have h9 := HO9.out
          rw [HDs.out, eText_one, he]; exact h9
        · go_wp2_with (at_builtin; refine wpList_push rfl _ _ rfl (HO8.out.alloc _) rfl rfl rfl (cells_src w8 [48 + a / 100, 48 + a / 10 % 10, 48 + a % 10] _ _ (by simp [byteVals]; omega)) (6) rfl (by omega) ?_)
          intro so9 sc9 w9 hO9
          have HO9 : Hid _ := hO9
          clear hO9
          go_wp2_with fail
          go_ret
          refine ⟨_, rfl, ?_⟩
          have he := expT_p3 (Int.not_lt.2 hx) ha h100
          have h9 := HO9.out
          rw [HDs.out, eText_one, he]; exact h9
  | succ n =>
    obtain ⟨Es, HEs⟩ : ∃ Es, Hid (Ds = d0 :: Es ∧ Es.length = n + 1) := by
      refine ⟨Ds.drop 1, ?_⟩
      show Ds = d0 :: Ds.drop 1 ∧ (Ds.drop 1).length = n + 1
      refine ⟨?_, by rw [List.length_drop]; omega⟩
      rw [← hd0]
      match Ds, hn with
      | x :: t, _ => rfl
    have HB : Hid (∀ w1 : World, Fr (fun k => (Value.slice so 0 sc).ownBlock = some k) w w1 → Src w1 (some ⟨B, 1, none⟩) (byteVals Es)) := by
      intro w1 hF
      refine Src.of (Or.inr ⟨B, 1, rfl, fun j hj => ?_⟩)
      have hj' : 1 + j < Ds.length := by rw [hn, ← HEs.out.2]; omega
      have h := hB (1 + j) hj'
      have he : Ds[1 + j] = Es[j] := by
        have h1 := HEs.out.1
        subst h1
        simp [Nat.add_comm 1 j]
      rw [he] at h
      exact (hF.cell (a := ⟨B, 1 + j, none⟩) hBb (fun hk => hne B hk rfl)).trans h
    have hn16 : n ≤ 16 := by omega
    have htn : ((n : Int) + 1 + 1).toNat - 1 = n + 1 := by omega
    clear hB hne hd0 hn
    go_enter Tryz.func173, Tryz.ntmps173
    go_wp2_with (at_builtin; refine wpList_push rfl _ _ rfl (HO.out.alloc _) rfl rfl rfl (cells_src w [d0] _ _ rfl) 1 rfl (by omega) ?_)
    intro so1 sc1 w1 hO1
    have HO1 : Hid _ := hO1
    clear hO1
    go_wp2_with (at_builtin; refine wpList_push rfl _ _ rfl (HO1.out.alloc _) rfl rfl rfl (cells_src w1 [46] _ _ rfl) 2 rfl (by omega) ?_)
    intro so2 sc2 w2 hO2
    have HO2 : Hid _ := hO2
    clear hO2
    go_wp2_with (at_builtin; refine wpList_push rfl _ _ rfl HO2.out rfl rfl HEs.out.2 (HB.out _ HO2.out.fr) (n + 3) (by rw [HEs.out.2]; simp; omega) (by omega) ?_)
    intro so3 sc3 w3 hO3
    have HO3 : Hid _ := hO3
    clear hO3
    go_wp2_with fail
    go_loopg [0, 114] 0 (fun gh sv iv wr => gh = 0 ∧ sv = .slice so3 (n + 3) sc3 ∧ iv = .int .i64 0 ∧ wr = w3)
    case atStart => exact ⟨rfl, rfl, rfl, rfl⟩
    case round =>
      obtain ⟨hg, rfl, rfl, hwr⟩ := hrel
      subst hwr
      clear hg
      go_wp2_with (at_builtin; refine wpList_push rfl _ _ rfl (HO3.out.alloc _) rfl rfl rfl (cells_src _ [101] _ _ rfl) (n + 4) (by simp [HEs.out.2] <;> omega) (by omega) ?_)
      intro so4 sc4 w4 hO4
      have HO4 : Hid _ := hO4
      clear hO4
      by_cases hx : dp - 1 < 0
      · obtain ⟨a, ha⟩ : ∃ a : Nat, -(dp - 1) = (a : Int) := ⟨(-(dp - 1)).toNat, by omega⟩
        go_wp2_with (at_builtin; refine wpList_push rfl _ _ rfl (HO4.out.alloc _) rfl rfl rfl (cells_src w4 [45] _ _ rfl) (n + 5) (by simp [HEs.out.2] <;> omega) (by omega) ?_)
        intro so8 sc8 w8 hO8
        have HO8 : Hid _ := hO8
        clear hO8
        by_cases h10 : a < 10
        · go_wp2_with (at_builtin; refine wpList_push rfl _ _ rfl (HO8.out.alloc _) rfl rfl rfl (cells_src w8 [48, 48 + a] _ _ (by simp [byteVals]; omega)) (n + 7) (by simp [HEs.out.2] <;> omega) (by omega) ?_)
          intro so9 sc9 w9 hO9
          have HO9 : Hid _ := hO9
          clear hO9
          go_wp2_with fail
          go_ret
          refine ⟨_, rfl, ?_⟩
          have he := expT_n1 hx ha h10
          have h9 := HO9.out
          rw [HEs.out.1, eText_more _ _ _ (by rw [HEs.out.2]; omega), he]; simpa using h9
        · by_cases h100 : a < 100
          · go_wp2_with (at_builtin; refine wpList_push rfl _ _ rfl (HO8.out.alloc _) rfl rfl rfl (cells_src w8 [48 + a / 10, 48 + a % 10] _ _ (by simp [byteVals]; omega)) (n + 7) (by simp [HEs.out.2] <;> omega) (by omega) ?_)
            intro so9 sc9 w9 hO9
            have HO9 : Hid _ := hO9
            clear hO9
            go_wp2_with fail
            go_ret
            refine ⟨_, rfl, ?_⟩
            have he := expT_n2 hx ha h10 h100
            have h9 := HO9.out
            rw [HEs.out.1, eText_more _ _ _ (by rw [HEs.out.2]; omega), he]; simpa using h9
          · go_wp2_with (at_builtin; refine wpList_push rfl _ _ rfl (HO8.out.alloc _) rfl rfl rfl (cells_src w8 [48 + a / 100, 48 + a / 10 % 10, 48 + a % 10] _ _ (by simp [byteVals]; omega)) (n + 8) (by simp [HEs.out.2] <;> omega) (by omega) ?_)
            intro so9 sc9 w9 hO9
            have HO9 : Hid _ := hO9
            clear hO9
            go_wp2_with fail
            go_ret
            refine ⟨_, rfl, ?_⟩
            have he := expT_n3 hx ha h100
            have h9 := HO9.out
            rw [HEs.out.1, eText_more _ _ _ (by rw [HEs.out.2]; omega), he]; simpa using h9
      · obtain ⟨a, ha⟩ : ∃ a : Nat, dp - 1 = (a : Int) := ⟨(dp - 1).toNat, by omega⟩
        go_wp2_with (at_builtin; refine wpList_push rfl _ _ rfl (HO4.out.alloc _) rfl rfl rfl (cells_src w4 [43] _ _ rfl) (n + 5) (by simp [HEs.out.2] <;> omega) (by omega) ?_)
        intro so8 sc8 w8 hO8
        have HO8 : Hid _ := hO8
        clear hO8
        by_cases h10 : a < 10
        · go_wp2_with (at_builtin; refine wpList_push rfl _ _ rfl (HO8.out.alloc _) rfl rfl rfl (cells_src w8 [48, 48 + a] _ _ (by simp [byteVals]; omega)) (n + 7) (by simp [HEs.out.2] <;> omega) (by omega) ?_)
          intro so9 sc9 w9 hO9
          have HO9 : Hid _ := hO9
          clear hO9
          go_wp2_with fail
          go_ret
          refine ⟨_, rfl, ?_⟩
          have he := expT_p1 (Int.not_lt.2 hx) ha h10
          have h9 := HO9.out
          rw [HEs.out.1, eText_more _ _ _ (by rw [HEs.out.2]; omega), he]; simpa using h9
        · by_cases h100 : a < 100
          · go_wp2_with (at_builtin; refine wpList_push rfl _ _ rfl (HO8.out.alloc _) rfl rfl rfl (cells_src w8 [48 + a / 10, 48 + a % 10] _ _ (by simp [byteVals]; omega)) (n + 7) (by simp [HEs.out.2] <;> omega) (by omega) ?_)
            intro so9 sc9 w9 hO9
            have HO9 : Hid _ := hO9
            clear hO9
            go_wp2_with fail
            go_ret
            refine ⟨_, rfl, ?_⟩
            have he := expT_p2 (Int.not_lt.2 hx) ha h10 h100
            have h9 := HO9.out
            rw [HEs.out.1, eText_more _ _ _ (by rw [HEs.out.2]; omega), he]; simpa using h9
          · go_wp2_with (at_builtin; refine wpList_push rfl _ _ rfl (HO8.out.alloc _) rfl rfl rfl (cells_src w8 [48 + a / 100, 48 + a / 10 % 10, 48 + a % 10] _ _ (by simp [byteVals]; omega)) (n + 8) (by simp [HEs.out.2] <;> omega) (by omega) ?_)
            intro so9 sc9 w9 hO9
            have HO9 : Hid _ := hO9
            clear hO9
            go_wp2_with fail
            go_ret
            refine ⟨_, rfl, ?_⟩
            have he := expT_p3 (Int.not_lt.2 hx) ha h100
            have h9 := HO9.out
            rw [HEs.out.1, eText_more _ _ _ (by rw [HEs.out.2]; omega), he]; simpa using h9
#print axioms efg_any
end Go.Proofs.YtnklmcmdlobicaaGreatDoor
