/- Bytes that are gathered one by one in a row of one's own; fmtEFG with the format e: its contract. -/
import Derived.Test.YtdmjbhbiehjelaaGreatDoorK11
import Derived.Laws.AppendOwn
import Derived.Laws.OwnMore
import Derived.Laws.MakeOwn
import Derived.Maps.AppendAt
namespace Go.Proofs.YtdmjbhbiehjelaaGreatDoor
open Go.RowKit Ieee Go.Shelf

theorem infoU8 : (Tryz.prog.info? 5).map (fun i => (i.zero, i.size, i.bytes)) = some (some (.int .u8 0), 1, 1) := by kernel_rfl
theorem cells_src (w : World) (cs : List Nat) (vs : Array Value) (t : TypeId) (h : vs.toList = byteVals cs) : Src (w.alloc (.cells vs t (0, 0))) (some ⟨w.heap.size, 0, none⟩) (byteVals cs) := by
  refine Src.of (Or.inr ⟨w.heap.size, 0, rfl, fun i hi => ?_⟩)
  rw [Nat.zero_add]
  refine cellOf (heap_alloc_new w _) ?_
  rw [← Array.getElem?_toList, h]
  exact byteVals_get cs i hi

/-- X has been gathered in v, since the world was w0 and the row v0. -/
structure Own (w0 : World) (base : Nat) (v0 : Value) (X : List Nat) (w : World) (v : Value) : Prop where
  row : w.ownsRow base 5 1 v X.length (byteVals X)
  fr : Fr (fun k => v0.ownBlock = some k) w0 w
  at_ : v.ownBlock = v0.ownBlock ∨ ∃ k, v.ownBlock = some k ∧ w0.heap.size ≤ k
  bs : base ≤ w.heap.size
theorem Own.alloc {w0 : World} {base : Nat} {v0 : Value} {X : List Nat} {w : World} {v : Value} (h : Own w0 base v0 X w v) (o : Obj) : Own w0 base v0 X (w.alloc o) v :=
  ⟨h.row.alloc o, h.fr.alloc o, h.at_, by have := h.bs; simp; omega⟩
theorem wpList_push {w w0 : World} {ops : Array Oper} {rest : List Oper} {o : Oper} {a : Act} {Q : Exit → Act → World → Prop} (hgd : o.guard = none) (s x : Operand)
    (ho : o.op = .call { callee := .builtin .append, args := #[s, x], argTypes := #[53, 53] })
    {base : Nat} {v0 v : Value} {X Y : List Nat} (hO : Own w0 base v0 X w v) (hs : a.eval s = v) {ad : Addr} {m c : Nat} (hx : a.eval x = .slice (some ad) m c) (hm : Y.length = m) (hsrc : Src w (some ad) (byteVals Y)) (n : Nat) (hn : X.length + Y.length = n) (hlen : n ≤ 1000000)
    (h : ∀ so sc w', Own w0 base v0 (X ++ Y) w' (.slice so n sc) → wpList Tryz.prog ops Q rest (a.put o.dst (.slice so n sc)) w') : wpList Tryz.prog ops Q (o :: rest) a w := by
  obtain ⟨i0, hi, hz0, hz1, hz2⟩ := info_parts infoU8
  subst hm
  refine wpList_append_own_at w hgd s x 53 ho base 5 i0 (.int .u8 0) 1 1 Tryz.underlying53 hi hz0 hz1 hz2 rfl (by decide) v X.length (byteVals X) hs hO.row ad Y.length c (byteVals Y) hx (by simp) ?_ (byteVals_one Y) (by unfold maxLen; omega) (by omega) hO.bs ?_
  · intro j u hj
    have hj' : j < (byteVals Y).length := by
      rcases Nat.lt_or_ge j (byteVals Y).length with h' | h'
      · exact h'
      · rw [List.getElem?_eq_none h'] at hj; cases hj
    obtain ⟨ad', he, hc⟩ := hsrc.get (by omega)
    cases he
    exact hc j u hj
  · intro v' w' h1 h2 _ h4
    have hb : byteVals (X ++ Y) = byteVals X ++ byteVals Y := by simp [byteVals]
    have hF : Fr (fun k => v0.ownBlock = some k) w0 w' := hO.fr.grown h2 (fun k hk => by
      rcases hO.at_ with e | ⟨q, e, hq⟩
      · left; rw [← e]; exact hk
      · right; rw [e] at hk; cases hk; exact hq)
    have hat : v'.ownBlock = v0.ownBlock ∨ ∃ k, v'.ownBlock = some k ∧ w0.heap.size ≤ k := by
      rcases h4 with e | e
      · rw [e]; exact hO.at_
      · exact Or.inr ⟨_, e, hO.fr.size⟩
    have hrow : w'.ownsRow base 5 1 v' (X ++ Y).length (byteVals (X ++ Y)) := by rw [hb, List.length_append]; exact h1
    obtain ⟨so, sc, rfl⟩ : ∃ so sc, v' = .slice so n sc := by
      rcases h1.2 with ⟨hv, h0⟩ | ⟨g, cap, cur, hv, _⟩
      · refine ⟨none, 0, ?_⟩
        rw [hv, ← hn, h0]
      · exact ⟨_, _, by rw [hv, ← hn]⟩
    exact h so sc w' ⟨hrow, hF, hat, Nat.le_trans hO.bs h2.size⟩

/-- The power of ten as it is written behind the e. -/
def expT (x : Int) : List Nat := (if x < 0 then 45 else 43) :: (if x.natAbs < 10 then [48, 48 + x.natAbs] else if x.natAbs < 100 then [48 + x.natAbs / 10, 48 + x.natAbs % 10] else [48 + x.natAbs / 100, 48 + x.natAbs / 10 % 10, 48 + x.natAbs % 10])
/-- The text of digits with a power of ten. -/
def eText (Ds : List Nat) (dp : Int) : List Nat := Ds.take 1 ++ (if 1 < Ds.length then 46 :: Ds.drop 1 else []) ++ 101 :: expT (dp - 1)

theorem eText_one (d0 : Nat) (dp : Int) : eText [d0] dp = [d0, 101] ++ expT (dp - 1) := rfl
theorem eText_more (d0 : Nat) (Es : List Nat) (dp : Int) (h : 0 < Es.length) : eText (d0 :: Es) dp = [d0, 46] ++ Es ++ [101] ++ expT (dp - 1) := by
  unfold eText
  rw [if_pos (by simp; omega)]
  simp
theorem expT_n1 {dp : Int} {a : Nat} (hx : dp - 1 < 0) (ha : -(dp - 1) = (a : Int)) (h : a < 10) : expT (dp - 1) = [45, 48, 48 + a] := by
  have e : (dp - 1).natAbs = a := by omega
  unfold expT
  rw [if_pos hx, e, if_pos h]
theorem expT_n2 {dp : Int} {a : Nat} (hx : dp - 1 < 0) (ha : -(dp - 1) = (a : Int)) (h : ¬ a < 10) (h2 : a < 100) : expT (dp - 1) = [45, 48 + a / 10, 48 + a % 10] := by
  have e : (dp - 1).natAbs = a := by omega
  unfold expT
  rw [if_pos hx, e, if_neg h, if_pos h2]
theorem expT_n3 {dp : Int} {a : Nat} (hx : dp - 1 < 0) (ha : -(dp - 1) = (a : Int)) (h2 : ¬ a < 100) : expT (dp - 1) = [45, 48 + a / 100, 48 + a / 10 % 10, 48 + a % 10] := by
  have e : (dp - 1).natAbs = a := by omega
  unfold expT
  rw [if_pos hx, e, if_neg (by omega), if_neg h2]
theorem expT_p1 {dp : Int} {a : Nat} (hx : ¬ dp - 1 < 0) (ha : dp - 1 = (a : Int)) (h : a < 10) : expT (dp - 1) = [43, 48, 48 + a] := by
  have e : (dp - 1).natAbs = a := by omega
  unfold expT
  rw [if_neg hx, e, if_pos h]
theorem expT_p2 {dp : Int} {a : Nat} (hx : ¬ dp - 1 < 0) (ha : dp - 1 = (a : Int)) (h : ¬ a < 10) (h2 : a < 100) : expT (dp - 1) = [43, 48 + a / 10, 48 + a % 10] := by
  have e : (dp - 1).natAbs = a := by omega
  unfold expT
  rw [if_neg hx, e, if_neg h, if_pos h2]
theorem expT_p3 {dp : Int} {a : Nat} (hx : ¬ dp - 1 < 0) (ha : dp - 1 = (a : Int)) (h2 : ¬ a < 100) : expT (dp - 1) = [43, 48 + a / 100, 48 + a / 10 % 10, 48 + a % 10] := by
  have e : (dp - 1).natAbs = a := by omega
  unfold expT
  rw [if_neg hx, e, if_neg (by omega), if_neg h2]
set_option maxRecDepth 100000 in
set_option maxHeartbeats 4000000 in
theorem efg_any (B base : Nat) (v : Value) (Ds : List Nat) (dp : Int) (w : World) (hn1 : 1 ≤ Ds.length) (hn2 : Ds.length ≤ 18) (hD : ∀ x ∈ Ds, x < 256) (hdp : -500 ≤ dp) (hdp2 : dp ≤ 500) (hv : w.ownsRow base 5 1 v 0 []) (hbase : base ≤ w.heap.size)
    (hB : ∀ j (hj : j < Ds.length), w.cell? ⟨B, j, none⟩ = some (.int .u8 ((Ds[j] : Nat) : Int))) (hBb : B < w.heap.size) (hne : ∀ k, v.ownBlock = some k → k ≠ B) :
    Calls Tryz.prog 188 #[v, .bool false, .slice (some ⟨B, 0, none⟩) 32 32, .int .i64 dp, .int .i64 (Ds.length : Int), .int .i64 ((Ds.length : Int) - 1), .int .u8 101, .bool true] w fun e w' => ∃ v', e = .returned v' ∧ Own w base v (eText Ds dp) w' v' := by
  have hO : Own w base v [] w v := ⟨hv, Fr.refl _ _, Or.inl rfl, hbase⟩
  obtain ⟨n, hn⟩ : ∃ n, Ds.length = n + 1 := ⟨Ds.length - 1, by omega⟩
  rw [hn]
  have hc0 := hB 0 (by omega)
  have e0 : ((n + 1 : Nat) : Int) - 1 = (n : Int) := by omega
  rw [e0]
  obtain ⟨so, sc, rfl⟩ : ∃ so sc, v = .slice so 0 sc := by
    rcases hv.2 with ⟨hv, h0⟩ | ⟨g, cap, cur, hv, _⟩
    · exact ⟨_, _, hv⟩
    · exact ⟨_, _, hv⟩
  have HO : Hid _ := hO
  clear hv hO
  obtain ⟨d0, hd0⟩ : ∃ d, Ds[0] = d := ⟨_, rfl⟩
  rw [hd0] at hc0
  cases n with
  | zero =>
    have HDs : Hid (Ds = [d0]) := by
      show Ds = [d0]
      obtain ⟨x, rfl⟩ := List.length_eq_one_iff.1 hn
      simp at hd0
      rw [hd0]
    clear hB hne hd0 hn
    go_enter Tryz.func188, Tryz.ntmps188
    go_wp2_with (at_builtin; refine wpList_push rfl _ _ rfl (HO.out.alloc _) rfl rfl rfl (cells_src w [d0] _ _ rfl) 1 rfl (by omega) ?_)
    intro so1 sc1 w1 hO1
    have HO1 : Hid _ := hO1
    clear hO1
    go_wp2_with (at_builtin; refine wpList_push rfl _ _ rfl (HO1.out.alloc _) rfl rfl rfl (cells_src w1 [101] _ _ rfl) 2 rfl (by omega) ?_)
    intro so2 sc2 w2 hO2
    have HO2 : Hid _ := hO2
    clear hO2
    by_cases hx : dp - 1 < 0
    · obtain ⟨a, ha⟩ : ∃ a : Nat, -(dp - 1) = (a : Int) := ⟨(-(dp - 1)).toNat, by omega⟩
      go_wp2_with (at_builtin; refine wpList_push rfl _ _ rfl (HO2.out.alloc _) rfl rfl rfl (cells_src w2 [45] _ _ rfl) (3) rfl (by omega) ?_)
      intro so8 sc8 w8 hO8
      have HO8 : Hid _ := hO8
      clear hO8
      by_cases h10 : a < 10
      · go_wp2_with (at_builtin; refine wpList_push rfl _ _ rfl (HO8.out.alloc _) rfl rfl rfl (cells_src w8 [48, 48 + a] _ _ (by simp [byteVals]; omega)) (5) rfl (by omega) ?_)
        intro so9 sc9 w9 hO9
        have HO9 : Hid _ := hO9
        clear hO9
        go_wp2_with fail
        go_ret
        refine ⟨_, rfl, ?_⟩
        have he := expT_n1 hx ha h10
        have h9 := HO9.out
        rw [HDs.out, eText_one, he]; exact h9
      · by_cases h100 : a < 100
        · go_wp2_with (at_builtin; refine wpList_push rfl _ _ rfl (HO8.out.alloc _) rfl rfl rfl (cells_src w8 [48 + a / 10, 48 + a % 10] _ _ (by simp [byteVals]; omega)) (5) rfl (by omega) ?_)
          intro so9 sc9 w9 hO9
          have HO9 : Hid _ := hO9
          clear hO9
          go_wp2_with fail
          go_ret
          refine ⟨_, rfl, ?_⟩
          have he := expT_n2 hx ha h10 h100
          have h9 := HO9.out
          rw [HDs.out, eText_one, he]; exact h9
        · go_wp2_with (at_builtin; refine wpList_push rfl _ _ rfl (HO8.out.alloc _) rfl rfl rfl (cells_src w8 [48 + a / 100, 48 + a / 10 % 10, 48 + a % 10] _ _ (by simp [byteVals]; omega)) (6) rfl (by omega) ?_)
          intro so9 sc9 w9 hO9
          have HO9 : Hid _ := hO9
          clear hO9
          go_wp2_with fail
          go_ret
          refine ⟨_, rfl, ?_⟩
          have he := expT_n3 hx ha h100
          have h9 := HO9.out
          rw [HDs.out, eText_one, he]; exact h9
    · obtain ⟨a, ha⟩ : ∃ a : Nat, dp - 1 = (a : Int) := ⟨(dp - 1).toNat, by omega⟩
      go_wp2_with (at_builtin; refine wpList_push rfl _ _ rfl (HO2.out.alloc _) rfl rfl rfl (cells_src w2 [43] _ _ rfl) (3) rfl (by omega) ?_)
      intro so8 sc8 w8 hO8
      have HO8 : Hid _ := hO8
      clear hO8
      by_cases h10 : a < 10
      · go_wp2_with (at_builtin; refine wpList_push rfl _ _ rfl (HO8.out.alloc _) rfl rfl rfl (cells_src w8 [48, 48 + a] _ _ (by simp [byteVals]; omega)) (5) rfl (by omega) ?_)
        intro so9 sc9 w9 hO9
        have HO9 : Hid _ := hO9
        clear hO9
        go_wp2_with fail
        go_ret
        refine ⟨_, rfl, ?_⟩
        have he := expT_p1 (Int.not_lt.2 hx) ha h10
        have h9 := HO9.out
        rw [HDs.out, eText_one, he]; exact h9
      · by_cases h100 : a < 100
        · go_wp2_with (at_builtin; refine wpList_push rfl _ _ rfl (HO8.out.alloc _) rfl rfl rfl (cells_src w8 [48 + a / 10, 48 + a % 10] _ _ (by simp [byteVals]; omega)) (5) rfl (by omega) ?_)
          intro so9 sc9 w9 hO9
          have HO9 : Hid _ := hO9
          clear hO9
          go_wp2_with fail
          go_ret
          refine ⟨_, rfl, ?_⟩
          have he := expT_p2 (Int.not_lt.2 hx) ha h10 h100
          have h9 := HO9.out
          rw [HDs.out, eText_one, he]; exact h9
        · go_wp2_with (at_builtin; refine wpList_push rfl _ _ rfl (HO8.out.alloc _) rfl rfl rfl (cells_src w8 [48 + a / 100, 48 + a / 10 % 10, 48 + a % 10] _ _ (by simp [byteVals]; omega)) (6) rfl (by omega) ?_)
          intro so9 sc9 w9 hO9
          have HO9 : Hid _ := hO9
          clear hO9
          go_wp2_with fail
          go_ret
          refine ⟨_, rfl, ?_⟩
          have he := expT_p3 (Int.not_lt.2 hx) ha h100
          have h9 := HO9.out
          rw [HDs.out, eText_one, he]; exact h9
  | succ n =>
    obtain ⟨Es, HEs⟩ : ∃ Es, Hid (Ds = d0 :: Es ∧ Es.length = n + 1) := by
      refine ⟨Ds.drop 1, ?_⟩
      show Ds = d0 :: Ds.drop 1 ∧ (Ds.drop 1).length = n + 1
      refine ⟨?_, by rw [List.length_drop]; omega⟩
      rw [← hd0]
      match Ds, hn with
      | x :: t, _ => rfl
    have HB : Hid (∀ w1 : World, Fr (fun k => (Value.slice so 0 sc).ownBlock = some k) w w1 → Src w1 (some ⟨B, 1, none⟩) (byteVals Es)) := by
      intro w1 hF
      refine Src.of (Or.inr ⟨B, 1, rfl, fun j hj => ?_⟩)
      have hj' : 1 + j < Ds.length := by rw [hn, ← HEs.out.2]; omega
      have h := hB (1 + j) hj'
      have he : Ds[1 + j] = Es[j] := by
        have h1 := HEs.out.1
        subst h1
        simp [Nat.add_comm 1 j]
      rw [he] at h
      exact (hF.cell (a := ⟨B, 1 + j, none⟩) hBb (fun hk => hne B hk rfl)).trans h
    have hn16 : n ≤ 16 := by omega
    have htn : ((n : Int) + 1 + 1).toNat - 1 = n + 1 := by omega
    clear hB hne hd0 hn
    go_enter Tryz.func188, Tryz.ntmps188
    go_wp2_with (at_builtin; refine wpList_push rfl _ _ rfl (HO.out.alloc _) rfl rfl rfl (cells_src w [d0] _ _ rfl) 1 rfl (by omega) ?_)
    intro so1 sc1 w1 hO1
    have HO1 : Hid _ := hO1
    clear hO1
    go_wp2_with (at_builtin; refine wpList_push rfl _ _ rfl (HO1.out.alloc _) rfl rfl rfl (cells_src w1 [46] _ _ rfl) 2 rfl (by omega) ?_)
    intro so2 sc2 w2 hO2
    have HO2 : Hid _ := hO2
    clear hO2
    go_wp2_with (at_builtin; refine wpList_push rfl _ _ rfl HO2.out rfl rfl HEs.out.2 (HB.out _ HO2.out.fr) (n + 3) (by rw [HEs.out.2]; simp; omega) (by omega) ?_)
    intro so3 sc3 w3 hO3
    have HO3 : Hid _ := hO3
    clear hO3
    go_wp2_with fail
    go_loopg [0, 114] 0 (fun gh sv iv wr => gh = 0 ∧ sv = .slice so3 (n + 3) sc3 ∧ iv = .int .i64 0 ∧ wr = w3)
    case atStart => exact ⟨rfl, rfl, rfl, rfl⟩
    case round =>
      obtain ⟨hg, rfl, rfl, hwr⟩ := hrel
      subst hwr
      clear hg
      go_wp2_with (at_builtin; refine wpList_push rfl _ _ rfl (HO3.out.alloc _) rfl rfl rfl (cells_src _ [101] _ _ rfl) (n + 4) (by simp [HEs.out.2] <;> omega) (by omega) ?_)
      intro so4 sc4 w4 hO4
      have HO4 : Hid _ := hO4
      clear hO4
      by_cases hx : dp - 1 < 0
      · obtain ⟨a, ha⟩ : ∃ a : Nat, -(dp - 1) = (a : Int) := ⟨(-(dp - 1)).toNat, by omega⟩
        go_wp2_with (at_builtin; refine wpList_push rfl _ _ rfl (HO4.out.alloc _) rfl rfl rfl (cells_src w4 [45] _ _ rfl) (n + 5) (by simp [HEs.out.2] <;> omega) (by omega) ?_)
        intro so8 sc8 w8 hO8
        have HO8 : Hid _ := hO8
        clear hO8
        by_cases h10 : a < 10
        · go_wp2_with (at_builtin; refine wpList_push rfl _ _ rfl (HO8.out.alloc _) rfl rfl rfl (cells_src w8 [48, 48 + a] _ _ (by simp [byteVals]; omega)) (n + 7) (by simp [HEs.out.2] <;> omega) (by omega) ?_)
          intro so9 sc9 w9 hO9
          have HO9 : Hid _ := hO9
          clear hO9
          go_wp2_with fail
          go_ret
          refine ⟨_, rfl, ?_⟩
          have he := expT_n1 hx ha h10
          have h9 := HO9.out
          rw [HEs.out.1, eText_more _ _ _ (by rw [HEs.out.2]; omega), he]; simpa using h9
        · by_cases h100 : a < 100
          · go_wp2_with (at_builtin; refine wpList_push rfl _ _ rfl (HO8.out.alloc _) rfl rfl rfl (cells_src w8 [48 + a / 10, 48 + a % 10] _ _ (by simp [byteVals]; omega)) (n + 7) (by simp [HEs.out.2] <;> omega) (by omega) ?_)
            intro so9 sc9 w9 hO9
            have HO9 : Hid _ := hO9
            clear hO9
            go_wp2_with fail
            go_ret
            refine ⟨_, rfl, ?_⟩
            have he := expT_n2 hx ha h10 h100
            have h9 := HO9.out
            rw [HEs.out.1, eText_more _ _ _ (by rw [HEs.out.2]; omega), he]; simpa using h9
          · go_wp2_with (at_builtin; refine wpList_push rfl _ _ rfl (HO8.out.alloc _) rfl rfl rfl (cells_src w8 [48 + a / 100, 48 + a / 10 % 10, 48 + a % 10] _ _ (by simp [byteVals]; omega)) (n + 8) (by simp [HEs.out.2] <;> omega) (by omega) ?_)
            intro so9 sc9 w9 hO9
            have HO9 : Hid _ := hO9
            clear hO9
            go_wp2_with fail
            go_ret
            refine ⟨_, rfl, ?_⟩
            have he := expT_n3 hx ha h100
            have h9 := HO9.out
            rw [HEs.out.1, eText_more _ _ _ (by rw [HEs.out.2]; omega), he]; simpa using h9
      · obtain ⟨a, ha⟩ : ∃ a : Nat, dp - 1 = (a : Int) := ⟨(dp - 1).toNat, by omega⟩
        go_wp2_with (at_builtin; refine wpList_push rfl _ _ rfl (HO4.out.alloc _) rfl rfl rfl (cells_src w4 [43] _ _ rfl) (n + 5) (by simp [HEs.out.2] <;> omega) (by omega) ?_)
        intro so8 sc8 w8 hO8
        have HO8 : Hid _ := hO8
        clear hO8
        by_cases h10 : a < 10
        · go_wp2_with (at_builtin; refine wpList_push rfl _ _ rfl (HO8.out.alloc _) rfl rfl rfl (cells_src w8 [48, 48 + a] _ _ (by simp [byteVals]; omega)) (n + 7) (by simp [HEs.out.2] <;> omega) (by omega) ?_)
          intro so9 sc9 w9 hO9
          have HO9 : Hid _ := hO9
          clear hO9
          go_wp2_with fail
          go_ret
          refine ⟨_, rfl, ?_⟩
          have he := expT_p1 (Int.not_lt.2 hx) ha h10
          have h9 := HO9.out
          rw [HEs.out.1, eText_more _ _ _ (by rw [HEs.out.2]; omega), he]; simpa using h9
        · by_cases h100 : a < 100
          · go_wp2_with (at_builtin; refine wpList_push rfl _ _ rfl (HO8.out.alloc _) rfl rfl rfl (cells_src w8 [48 + a / 10, 48 + a % 10] _ _ (by simp [byteVals]; omega)) (n + 7) (by simp [HEs.out.2] <;> omega) (by omega) ?_)
            intro so9 sc9 w9 hO9
            have HO9 : Hid _ := hO9
            clear hO9
            go_wp2_with fail
            go_ret
            refine ⟨_, rfl, ?_⟩
            have he := expT_p2 (Int.not_lt.2 hx) ha h10 h100
            have h9 := HO9.out
            rw [HEs.out.1, eText_more _ _ _ (by rw [HEs.out.2]; omega), he]; simpa using h9
          · go_wp2_with (at_builtin; refine wpList_push rfl _ _ rfl (HO8.out.alloc _) rfl rfl rfl (cells_src w8 [48 + a / 100, 48 + a / 10 % 10, 48 + a % 10] _ _ (by simp [byteVals]; omega)) (n + 8) (by simp [HEs.out.2] <;> omega) (by omega) ?_)
            intro so9 sc9 w9 hO9
            have HO9 : Hid _ := hO9
            clear hO9
            go_wp2_with fail
            go_ret
            refine ⟨_, rfl, ?_⟩
            have he := expT_p3 (Int.not_lt.2 hx) ha h100
            have h9 := HO9.out
            rw [HEs.out.1, eText_more _ _ _ (by rw [HEs.out.2]; omega), he]; simpa using h9
#print axioms efg_any
end Go.Proofs.YtdmjbhbiehjelaaGreatDoor
/- ftoa64 and FormatFloat with the format e and the fewest digits: their contracts. -/
namespace Go.Proofs.YtdmjbhbiehjelaaGreatDoor
open Go.RowKit Ieee Go.Shelf

/-- A float's bits, taken apart. -/
def mantOf (x : Nat) : Nat := if x / 4503599627370496 = 0 then x % 4503599627370496 else x % 4503599627370496 + 4503599627370496
def expOf (x : Nat) : Int := (if x / 4503599627370496 = 0 then 1 else (x / 4503599627370496 : Nat)) - 1023
def shOf (x : Nat) : Nat := 64 - Lib.bitLen (mantOf x)
def nmOf (x : Nat) : Nat := mantOf x * 2 ^ shOf x
def neOf (x : Nat) : Int := expOf x - shOf x - 52
/-- The fewest digits, their power of ten. -/
def sdOf (x : Nat) : Nat := (shortF (nmOf x) (neOf x)).1
def spOf (x : Nat) : Int := (shortF (nmOf x) (neOf x)).2
def digF (x : Nat) : List Nat := ((Lib.decDigits (sdOf x)).take (nzF (Lib.decDigits (sdOf x)) (Lib.nDigits (sdOf x)))).map UInt8.toNat
def dpF (x : Nat) : Int := (Lib.nDigits (sdOf x) : Nat) + spOf x
/-- How many bits a number has. -/
theorem bitLen_spec (k : Nat) : ∀ x, 0 < x → x < 2 ^ k → k ≤ 64 → 2 ^ (Lib.bitLen x - 1) ≤ x ∧ x < 2 ^ Lib.bitLen x ∧ 1 ≤ Lib.bitLen x ∧ Lib.bitLen x ≤ k := by
  induction k with
  | zero => intro x h1 h2; omega
  | succ k ih =>
    intro x h1 h2 hk
    have h64 : x < 2 ^ 64 := Nat.lt_of_lt_of_le h2 (Nat.pow_le_pow_right (by omega) hk)
    rw [Lib.bitLen_half x (by omega) h64]
    by_cases hx : x = 1
    · subst hx
      have : Lib.bitLen (1 / 2) = 0 := by decide
      rw [this]
      omega
    · obtain ⟨a, b, c, d⟩ := ih (x / 2) (by omega) (by rw [Nat.pow_succ] at h2; omega) (by omega)
      obtain ⟨l, hl⟩ : ∃ l, Lib.bitLen (x / 2) = l + 1 := ⟨Lib.bitLen (x / 2) - 1, by omega⟩
      rw [hl] at a b d ⊢
      rw [show l + 1 - 1 = l by omega] at a
      rw [show 1 + (l + 1) - 1 = l + 1 by omega, show 1 + (l + 1) = l + 1 + 1 by omega, Nat.pow_succ, Nat.pow_succ]
      rw [Nat.pow_succ] at b
      omega
theorem ext_bits2 (args : Array Value) (w : World) : (callFunc 185 args).run Tryz.prog w = ((Extern.MathFloatBits.float64bits args).run Tryz.prog w).andThen fun v w' => .ok (.value v) w' :=
  run_callFunc_extern Tryz.func185 (by kernel_rfl) (by kernel_rfl) (by kernel_rfl) (by kernel_rfl) args w
theorem run_bits2 (x : Nat) (w : World) : (callFunc 185 #[.float .f64 x]).run Tryz.prog w = .ok (.value (.int .u64 (x : Int))) w := by rw [ext_bits2]; rfl
theorem zeros32_eq : (#[.int .u8 0, .int .u8 0, .int .u8 0, .int .u8 0, .int .u8 0, .int .u8 0, .int .u8 0, .int .u8 0, .int .u8 0, .int .u8 0, .int .u8 0, .int .u8 0, .int .u8 0, .int .u8 0, .int .u8 0, .int .u8 0, .int .u8 0, .int .u8 0, .int .u8 0, .int .u8 0, .int .u8 0, .int .u8 0, .int .u8 0, .int .u8 0, .int .u8 0, .int .u8 0, .int .u8 0, .int .u8 0, .int .u8 0, .int .u8 0, .int .u8 0, .int .u8 0] : Array Value) = zeros32 := rfl
/-- The table of powers of ten within 64 bits lies where it should. -/
def UTab (w : World) : Prop := 9 < w.heap.size ∧ Lib.TabIs Tryz.prog w "internal/strconv.uint64pow10" .u64 Lib.pow10Tab
theorem UTab.fr {w w' : World} (h : UTab w) (hF : Fr noB w w') : UTab w' :=
  ⟨Nat.lt_of_lt_of_le h.1 hF.size, var?_below (hF.below (Nat.le_refl _) (fun _ h => h.elim)) (g := 9) (by kernel_rfl) h.1 h.2⟩
theorem dec_head (u : Nat) (h : 1 ≤ u) : (Lib.decDigits u).getD 0 0 ≠ 48 := by
  induction u using Nat.strongRecOn with
  | _ u ih =>
    by_cases hs : u < 10
    · rw [Lib.decDigits_one hs]
      intro e
      have e' := congrArg UInt8.toNat e
      rw [List.getD_cons_zero, UInt8.toNat_ofNat'] at e'
      have : (48 : UInt8).toNat = 48 := rfl
      omega
    · rw [Lib.decDigits, dif_neg hs]
      have h1 := ih (u / 10) (by omega) (by omega)
      have h2 : 0 < (Lib.decDigits (u / 10)).length := by rw [Lib.decDigits_length]; exact Lib.nDigits_pos _
      rwa [List.getD, List.getElem?_append_left h2, ← List.getD]
theorem nz_from (L : List UInt8) (h : L.getD 0 0 ≠ 48) : ∀ k, 1 ≤ k → 1 ≤ nzF L k := by
  intro k
  induction k with
  | zero => intro h; omega
  | succ k ih =>
    intro _
    rw [nzF_succ]
    split
    · rename_i hc
      cases k with
      | zero => exact absurd hc h
      | succ k => exact ih (by omega)
    · omega
theorem nz_pos (u : Nat) (h : 1 ≤ u) : 1 ≤ nzF (Lib.decDigits u) (Lib.nDigits u) := nz_from _ (dec_head u h) _ (Lib.nDigits_pos u)
/-- What a float's bits come to, ahead of the digits. -/
theorem nm_facts (x : Nat) (hx0 : 0 < x) (hx : x < 9218868437227405312) : 0 < mantOf x ∧ mantOf x < 9007199254740992 ∧ 11 ≤ shOf x ∧ shOf x ≤ 63 ∧ 9223372036854775808 ≤ nmOf x ∧ nmOf x + 2 ^ (zOf (neOf x) - 1) < 18446744073709551616 ∧ -1137 ≤ neOf x ∧ neOf x ≤ 960 := by
  have m1 : 0 < mantOf x ∧ mantOf x < 9007199254740992 := by unfold mantOf; split <;> omega
  obtain ⟨a, b, c, d⟩ := bitLen_spec 53 (mantOf x) m1.1 (by omega) (by omega)
  have hs : 11 ≤ shOf x ∧ shOf x ≤ 63 := by unfold shOf; omega
  have hsL : shOf x + Lib.bitLen (mantOf x) = 64 := by unfold shOf; omega
  have hE : -1137 ≤ neOf x ∧ neOf x ≤ 960 ∧ zOf (neOf x) = shOf x := by
    by_cases hE0 : x / 4503599627370496 = 0
    · have hl : Lib.bitLen (mantOf x) ≤ 52 := (bitLen_spec 52 (mantOf x) m1.1 (by unfold mantOf; rw [if_pos hE0]; omega) (by omega)).2.2.2
      have he : expOf x = -1022 := by unfold expOf; rw [if_pos hE0]; rfl
      unfold neOf zOf
      rw [he]
      refine ⟨by omega, by omega, ?_⟩
      rw [if_neg (by omega)]
      omega
    · have hl : Lib.bitLen (mantOf x) = 53 := by
        rcases Nat.lt_or_ge (Lib.bitLen (mantOf x)) 53 with h | h
        · have h52 : mantOf x < 2 ^ 52 := Nat.lt_of_lt_of_le b (Nat.pow_le_pow_right (by omega) (by omega))
          have : 4503599627370496 ≤ mantOf x := by unfold mantOf; rw [if_neg hE0]; omega
          have e : (2 : Nat) ^ 52 = 4503599627370496 := by decide
          omega
        · omega
      have he : expOf x = (x / 4503599627370496 : Nat) - 1023 := by unfold expOf; rw [if_neg hE0]
      unfold neOf zOf
      rw [he]
      refine ⟨by omega, by omega, ?_⟩
      rw [if_pos (by omega)]
      omega
  refine ⟨m1.1, m1.2, hs.1, hs.2, ?_, ?_, hE.1, hE.2.1⟩
  · unfold nmOf
    have h := Nat.mul_le_mul_right (2 ^ shOf x) a
    rw [← Nat.pow_add, show Lib.bitLen (mantOf x) - 1 + shOf x = 63 by omega] at h
    exact h
  · rw [hE.2.2]
    unfold nmOf
    have h1 : (mantOf x + 1) * 2 ^ shOf x ≤ 2 ^ Lib.bitLen (mantOf x) * 2 ^ shOf x := Nat.mul_le_mul_right _ b
    rw [← Nat.pow_add, show Lib.bitLen (mantOf x) + shOf x = 64 by omega, Nat.add_mul, Nat.one_mul] at h1
    have h2 : 2 ^ shOf x = 2 ^ (shOf x - 1) * 2 := by rw [← Nat.pow_succ]; congr 1; omega
    have h3 := Nat.two_pow_pos (shOf x - 1)
    have e : (2 : Nat) ^ 64 = 18446744073709551616 := by decide
    omega

set_option maxRecDepth 100000 in
set_option maxHeartbeats 1000000 in
theorem ftoa_any (x base : Nat) (so : Option Addr) (sc : Nat) (w : World) (hx0 : 0 < x) (hx : x < 9218868437227405312) (hv : w.ownsRow base 5 1 (.slice so 0 sc) 0 []) (hbase : base ≤ w.heap.size) (hP : PTab w) (hU : UTab w) :
    Calls Tryz.prog 151 #[.slice so 0 sc, .float .f64 x, .int .u8 101, .int .i64 (-1)] w fun e w' => ∃ v', e = .returned v' ∧ Own w base (.slice so 0 sc) (eText (digF x) (dpF x)) w' v' := by
  have h1 : ∀ W, _ := run_bits2 x
  obtain ⟨k1, k2, k3, k4, k5, k6, k7, k8⟩ := nm_facts x hx0 hx
  have HSH : Hid (∀ W, PTab W → Calls Tryz.prog 197 #[.int .u64 (nmOf x : Int), .int .i64 (neOf x)] W fun en w' => en = .returned (.tuple #[.int .u64 ((sdOf x : Nat) : Int), .int .i64 (spOf x)]) ∧ Fr noB W w') := fun W hW => short_any (nmOf x) (neOf x) W k5 k6 k7 k8 hW
  obtain ⟨sd1, sd2, sp1, sp2⟩ := short_pos (nmOf x) (neOf x) k5 k6 k7 k8
  have hnm2 : nmOf x < 18446744073709551616 := by have := Nat.two_pow_pos (zOf (neOf x) - 1); omega
  obtain ⟨E, hE⟩ : ∃ E, x / 4503599627370496 = E := ⟨_, rfl⟩
  obtain ⟨F, hF⟩ : ∃ F, x % 4503599627370496 = F := ⟨_, rfl⟩
  have f0 : (x : Int) / 9223372036854775808 = 0 := by omega
  have f1 : (x : Int) / 4503599627370496 = (E : Int) := by omega
  have hE2 : E < 2047 := by omega
  have hF2 : F < 4503599627370496 := by omega
  have f2 : bits .and .i64 (E : Int) 2047 = (E : Int) := by
    rw [show (2047 : Int) = ((2047 : Nat) : Int) from rfl, i64_and_nat _ _ (by omega) (by omega)]
    congr 1
    exact (Nat.and_two_pow_sub_one_eq_mod E 11).trans (Nat.mod_eq_of_lt (by omega))
  have f3 : bits .and .u64 (x : Int) 4503599627370495 = (F : Int) := by
    rw [show (4503599627370495 : Int) = ((4503599627370495 : Nat) : Int) from rfl, u64_and_nat _ _ (by omega) (by omega)]
    congr 1
    rw [← hF]
    exact Nat.and_two_pow_sub_one_eq_mod x 52
  obtain ⟨M, hM⟩ : ∃ M, mantOf x = M := ⟨_, rfl⟩
  obtain ⟨Lb, hLb⟩ : ∃ L, Lib.bitLen M = L := ⟨_, rfl⟩
  obtain ⟨sh, hsh⟩ : ∃ s, shOf x = s := ⟨_, rfl⟩
  have f6 : (64 : Int) - (Lb : Int) = (sh : Int) := by rw [← hsh, ← hLb]; unfold shOf; rw [hM]; have := bitLen_spec 53 M (by omega) (by omega) (by omega); omega
  have hLb2 : Lb ≤ 53 := by rw [← hLb]; exact (bitLen_spec 53 M (by omega) (by omega) (by omega)).2.2.2
  have f7 : IntKind.u64.wrap ((M : Int) * 2 ^ sh) = (nmOf x : Int) := by
    rw [IntKind.wrap_u64]
    have e : nmOf x = M * 2 ^ sh := by unfold nmOf; rw [hM, hsh]
    have e2 : (M : Int) * 2 ^ sh = ((M * 2 ^ sh : Nat) : Int) := by simp
    rw [e2, ← e]
    omega
  have HNE : Hid (neOf x = expOf x - (sh : Int) - 52) := show neOf x = _ by unfold neOf; rw [hsh]
  have HLb : Hid (Lib.bitLen M = Lb) := hLb
  have HTP : Hid (PTab w) := hP
  have HTU : Hid (UTab w) := hU
  have HV : Hid _ := And.intro hv hbase
  rw [hM] at k1 k2
  rw [hsh] at k3 k4
  obtain ⟨NM, hNM⟩ : ∃ n, nmOf x = n := ⟨_, rfl⟩
  obtain ⟨NE, hNE⟩ : ∃ n, neOf x = n := ⟨_, rfl⟩
  obtain ⟨SD, hSD⟩ : ∃ n, sdOf x = n := ⟨_, rfl⟩
  obtain ⟨SP, hSP⟩ : ∃ n, spOf x = n := ⟨_, rfl⟩
  have e1 : (shortF (nmOf x) (neOf x)).1 = SD := hSD
  have e2 : (shortF (nmOf x) (neOf x)).2 = SP := hSP
  rw [e1] at sd1 sd2
  rw [e2] at sp1 sp2
  rw [hNM] at f7 k5 hnm2
  rw [hNE] at k7 k8 HNE
  rw [hNM, hNE, hSD, hSP] at HSH
  have HR : Hid (eText (digF x) (dpF x) = eText (((Lib.decDigits SD).take (nzF (Lib.decDigits SD) (Lib.nDigits SD))).map UInt8.toNat) ((Lib.nDigits SD : Nat) + SP)) := by
    show _ = _
    unfold digF dpF
    rw [hSD, hSP]
  have HPOS : Hid (1 ≤ nzF (Lib.decDigits SD) (Lib.nDigits SD)) := nz_pos SD sd1
  clear k6 e1 e2 hNM hNE hSD hSP hsh hLb hv hbase hP hU
  by_cases hE0 : E = 0
  · have hM2 : F = M := by rw [← hM]; unfold mantOf; rw [hE, if_pos hE0, hF]
    have f8 : (-1022 : Int) - (sh : Int) - 52 = NE := by rw [HNE.out]; unfold expOf; rw [hE, if_pos hE0]; omega
    have g1 : (x : Int) / 4503599627370496 = 0 := by omega
    have g2 : bits .and .i64 0 2047 = 0 := by decide
    have g3 : bits .and .u64 (x : Int) 4503599627370495 = (M : Int) := by rw [f3, hM2]
    have hM0 : ¬ (M : Int) = 0 := by omega
    clear f1 f2 f3 hE hF hM HNE hM2 hE0 hE2 hF2
    go_enter Tryz.func151, Tryz.ntmps151
    go_wp2_with fail
    go_quiet (fail)
    go_wp2_with fail
    rw [zeros32_eq]
    obtain ⟨W1, hW1⟩ : ∃ W1, (w.drewN nq).alloc (.cells zeros32 186 (0, 0)) = W1 := ⟨_, rfl⟩
    obtain ⟨B, hB⟩ : ∃ B, w.heap.size = B := ⟨_, rfl⟩
    have hB1 : W1.heap[B]? = some (.cells zeros32 186 (0, 0)) := by rw [← hW1, ← hB]; exact heap_alloc_new (w.drewN nq) _
    have hF1 : Fr noB w W1 := by rw [← hW1]; exact ((Fr.refl noB w).drewN nq).alloc _
    rw [hW1, hB]
    have HL := len64_any M (by omega) W1
    rw [HLb.out] at HL
    have HS := HSH.out W1 (HTP.out.fr hF1)
    have HF1 : Hid (Fr noB w W1) := hF1
    have HB1 : Hid _ := hB1
    have HWB : Hid _ := hB
    clear hW1 hB hF1 hB1
    go_wp2_with (first | (go_at_call 189; with_reducible refine HL.mono ?_; rintro e w2 ⟨rfl, rfl⟩) | (go_at_call 197; with_reducible refine HS.mono ?_; rintro e w3 ⟨rfl, hF3⟩))
    have hB3 : w3.heap[B]? = some (.cells zeros32 186 (0, 0)) := hF3.obj HB1.out id
    have HF3 : Hid (Fr noB w w3) := HF1.out.trans hF3
    have HND : Hid (∀ W', W'.heap = w3.heap → Calls Tryz.prog 158 #[.int .u64 (SD : Int)] W' fun e w' => e = .returned (.int .i64 ((Lib.nDigits SD : Nat) : Int)) ∧ w' = W') := fun W' hW' => numDigits_any SD sd1 (by omega) W' (by
      have h := (HTU.out.fr HF3.out).2
      unfold Lib.TabIs World.var? at h ⊢
      rw [hW']
      exact h)
    have HSD : Hid (∀ W', W'.heap = w3.heap → Calls Tryz.prog 191 #[.slice (some ⟨B, 0, none⟩) 32 32, .int .u64 (SD : Int), .int .i64 SP, .int .i64 ((Lib.nDigits SD : Nat) : Int)] W' fun e w' => e = .returned (.tuple #[.int .i64 ((Lib.nDigits SD : Nat) + SP), .int .i64 ((nzF (Lib.decDigits SD) (Lib.nDigits SD) : Nat) : Int)]) ∧ (∀ j (hj : j < (Lib.decDigits SD).length), w'.cell? ⟨B, j, none⟩ = some (.int .u8 ((Lib.decDigits SD)[j].toNat : Int))) ∧ Fr (oneB B) W' w') := fun W' hW' => setDigits_any B SD SP W' sd1 sd2 (by omega) (by omega) (by rw [hW']; exact hB3)
    have hnd1 := nDigits_le18 SD sd1 sd2
    have hnz1 := nzF_le (Lib.decDigits SD) (Lib.nDigits SD)
    have HHH : Hid _ := And.intro hB3 hF3
    clear hB3 hF3 HS HL
    generalize hnD : Lib.nDigits SD = nD at *
    generalize hnZ : nzF (Lib.decDigits SD) nD = nZ at *
    have HNZ : Hid _ := And.intro hnD hnZ
    clear hnD hnZ
    go_wp2_with fail
    go_region_law (first | (go_simp; go_at_call 158; refine (HND.out w3.drew rfl).mono ?_; rintro e w9 ⟨rfl, rfl⟩) | (go_simp; go_at_call 191; refine (HSD.out w3.drew rfl).mono ?_; rintro e w4 ⟨rfl, hc4, hF4⟩))
    obtain ⟨Ds, hDs⟩ : ∃ Ds, ((Lib.decDigits SD).take nZ).map UInt8.toNat = Ds := ⟨_, rfl⟩
    have hlD : (Lib.decDigits SD).length = nD := by rw [Lib.decDigits_length, HNZ.out.1]
    have hDl : Ds.length = nZ := by rw [← hDs, List.length_map, List.length_take, hlD]; omega
    have hD1 : 1 ≤ nZ := by exact HPOS.out
    have hvb := HV.out.1
    have hvf := hvb.2
    have HE := efg_any B base (.slice so 0 sc) Ds ((nD : Int) + SP) w4 (by omega) (by omega) (by
        intro y hy
        rw [← hDs] at hy
        obtain ⟨b, _, rfl⟩ := List.mem_map.1 hy
        exact b.toNat_lt) (by omega) (by omega)
      (by
        have hFA : Fr (oneB B) w w4 := (HF3.out.weak).trans (((Fr.refl (oneB B) w3).drew).trans hF4)
        refine ⟨rfl, ?_⟩
        rcases hvf with hvf | ⟨g, cap, cur, q1, q2, q3, q4, q5, q6, q7⟩
        · exact Or.inl hvf
        · exact Or.inr ⟨g, cap, cur, q1, q2, hFA.obj q3 (fun h => by have h' : g = B := h; have := lt_of_block q3; have := HWB.out; omega), q4, q5, q6, q7⟩)
      (by have h1 := HV.out.2; have h2 := HF3.out.size; have h3 := hF4.size; have h4 : w3.drew.heap.size = w3.heap.size := rfl; omega)
      (by
        intro j hj
        have hj2 : j < (Lib.decDigits SD).length := by omega
        rw [hc4 j hj2]
        have : Ds[j] = (Lib.decDigits SD)[j].toNat := by
          subst hDs
          simp
        rw [this])
      (by have h1 := lt_of_block HHH.out.1; have h3 := hF4.size; have h4 : w3.drew.heap.size = w3.heap.size := rfl; omega)
      (by
        intro k hk hkB
        rcases hvf with ⟨hvf, _⟩ | ⟨g, cap, cur, q1, q2, q3, _⟩
        · rw [hvf] at hk; cases hk
        · rw [q1] at hk
          simp [Value.ownBlock] at hk
          have := lt_of_block q3
          have := HWB.out
          omega)
    rw [hDl] at HE
    have HR2 : Hid (eText (digF x) (dpF x) = eText Ds ((nD : Int) + SP)) := by
      show _ = _
      rw [HR.out, hDs]
    have HC : Hid (∀ w5 v', Own w4 base (.slice so 0 sc) (eText Ds ((nD : Int) + SP)) w5 v' → Own w base (.slice so 0 sc) (eText (digF x) (dpF x)) w5 v') := by
      intro w5 v' h
      rw [HR2.out]
      have hFA : Fr (fun k => (Value.slice so 0 sc).ownBlock = some k) w w4 := ((HF3.out.weak).trans ((Fr.refl _ w3).drew)).then hF4 (fun k hk => Or.inr (by have hk' : k = B := hk; have := HWB.out; omega))
      refine ⟨h.row, hFA.trans h.fr, ?_, h.bs⟩
      rcases h.at_ with e | ⟨k, e, hk⟩
      · exact Or.inl e
      · exact Or.inr ⟨k, e, Nat.le_trans hFA.size hk⟩
    have hmx : max ((nZ : Int) - 1) 0 = (nZ : Int) - 1 := by omega
    clear hc4 hF4 hDs hDl hlD hvb hvf HR HR2
    go_wp2_with (first | (go_at_call 188; with_reducible refine HE.mono ?_; rintro e w5 ⟨v', rfl, hO5⟩))
    go_ret
    exact ⟨_, rfl, HC.out _ _ hO5⟩
  · have f4 : bits .or .u64 (F : Int) 4503599627370496 = (M : Int) := by
      rw [show (4503599627370496 : Int) = ((4503599627370496 : Nat) : Int) from rfl, u64_or_nat _ _ (by omega) (by omega)]
      congr 1
      rw [Nat.or_comm]
      have := Nat.two_pow_add_eq_or_of_lt (i := 52) (b := F) (by omega) 1
      rw [show (2 : Nat) ^ 52 * 1 = 4503599627370496 by decide] at this
      rw [← this, ← hM]
      unfold mantOf
      rw [hE, if_neg hE0, hF]
      omega
    have f8 : (E : Int) + -1023 - (sh : Int) - 52 = NE := by rw [HNE.out]; unfold expOf; rw [hE, if_neg hE0]; omega
    have hE1 : ¬ (E : Int) = 0 := by omega
    have hE3 : ¬ (E : Int) = 2047 := by omega
    clear hE hF hM HNE
    go_enter Tryz.func151, Tryz.ntmps151
    go_wp2_with fail
    go_quiet (fail)
    go_wp2_with fail
    rw [zeros32_eq]
    obtain ⟨W1, hW1⟩ : ∃ W1, (w.drewN nq).alloc (.cells zeros32 186 (0, 0)) = W1 := ⟨_, rfl⟩
    obtain ⟨B, hB⟩ : ∃ B, w.heap.size = B := ⟨_, rfl⟩
    have hB1 : W1.heap[B]? = some (.cells zeros32 186 (0, 0)) := by rw [← hW1, ← hB]; exact heap_alloc_new (w.drewN nq) _
    have hF1 : Fr noB w W1 := by rw [← hW1]; exact ((Fr.refl noB w).drewN nq).alloc _
    rw [hW1, hB]
    have HL := len64_any M (by omega) W1
    rw [HLb.out] at HL
    have HS := HSH.out W1 (HTP.out.fr hF1)
    have HF1 : Hid (Fr noB w W1) := hF1
    have HB1 : Hid _ := hB1
    have HWB : Hid _ := hB
    clear hW1 hB hF1 hB1
    go_wp2_with (first | (go_at_call 189; with_reducible refine HL.mono ?_; rintro e w2 ⟨rfl, rfl⟩) | (go_at_call 197; with_reducible refine HS.mono ?_; rintro e w3 ⟨rfl, hF3⟩))
    have hB3 : w3.heap[B]? = some (.cells zeros32 186 (0, 0)) := hF3.obj HB1.out id
    have HF3 : Hid (Fr noB w w3) := HF1.out.trans hF3
    have HND : Hid (∀ W', W'.heap = w3.heap → Calls Tryz.prog 158 #[.int .u64 (SD : Int)] W' fun e w' => e = .returned (.int .i64 ((Lib.nDigits SD : Nat) : Int)) ∧ w' = W') := fun W' hW' => numDigits_any SD sd1 (by omega) W' (by
      have h := (HTU.out.fr HF3.out).2
      unfold Lib.TabIs World.var? at h ⊢
      rw [hW']
      exact h)
    have HSD : Hid (∀ W', W'.heap = w3.heap → Calls Tryz.prog 191 #[.slice (some ⟨B, 0, none⟩) 32 32, .int .u64 (SD : Int), .int .i64 SP, .int .i64 ((Lib.nDigits SD : Nat) : Int)] W' fun e w' => e = .returned (.tuple #[.int .i64 ((Lib.nDigits SD : Nat) + SP), .int .i64 ((nzF (Lib.decDigits SD) (Lib.nDigits SD) : Nat) : Int)]) ∧ (∀ j (hj : j < (Lib.decDigits SD).length), w'.cell? ⟨B, j, none⟩ = some (.int .u8 ((Lib.decDigits SD)[j].toNat : Int))) ∧ Fr (oneB B) W' w') := fun W' hW' => setDigits_any B SD SP W' sd1 sd2 (by omega) (by omega) (by rw [hW']; exact hB3)
    have hnd1 := nDigits_le18 SD sd1 sd2
    have hnz1 := nzF_le (Lib.decDigits SD) (Lib.nDigits SD)
    have HHH : Hid _ := And.intro hB3 hF3
    clear hB3 hF3 HS HL
    generalize hnD : Lib.nDigits SD = nD at *
    generalize hnZ : nzF (Lib.decDigits SD) nD = nZ at *
    have HNZ : Hid _ := And.intro hnD hnZ
    clear hnD hnZ
    go_wp2_with fail
    go_region_law (first | (go_simp; go_at_call 158; refine (HND.out w3.drew rfl).mono ?_; rintro e w9 ⟨rfl, rfl⟩) | (go_simp; go_at_call 191; refine (HSD.out w3.drew rfl).mono ?_; rintro e w4 ⟨rfl, hc4, hF4⟩))
    obtain ⟨Ds, hDs⟩ : ∃ Ds, ((Lib.decDigits SD).take nZ).map UInt8.toNat = Ds := ⟨_, rfl⟩
    have hlD : (Lib.decDigits SD).length = nD := by rw [Lib.decDigits_length, HNZ.out.1]
    have hDl : Ds.length = nZ := by rw [← hDs, List.length_map, List.length_take, hlD]; omega
    have hD1 : 1 ≤ nZ := by exact HPOS.out
    have hvb := HV.out.1
    have hvf := hvb.2
    have HE := efg_any B base (.slice so 0 sc) Ds ((nD : Int) + SP) w4 (by omega) (by omega) (by
        intro y hy
        rw [← hDs] at hy
        obtain ⟨b, _, rfl⟩ := List.mem_map.1 hy
        exact b.toNat_lt) (by omega) (by omega)
      (by
        have hFA : Fr (oneB B) w w4 := (HF3.out.weak).trans (((Fr.refl (oneB B) w3).drew).trans hF4)
        refine ⟨rfl, ?_⟩
        rcases hvf with hvf | ⟨g, cap, cur, q1, q2, q3, q4, q5, q6, q7⟩
        · exact Or.inl hvf
        · exact Or.inr ⟨g, cap, cur, q1, q2, hFA.obj q3 (fun h => by have h' : g = B := h; have := lt_of_block q3; have := HWB.out; omega), q4, q5, q6, q7⟩)
      (by have h1 := HV.out.2; have h2 := HF3.out.size; have h3 := hF4.size; have h4 : w3.drew.heap.size = w3.heap.size := rfl; omega)
      (by
        intro j hj
        have hj2 : j < (Lib.decDigits SD).length := by omega
        rw [hc4 j hj2]
        have : Ds[j] = (Lib.decDigits SD)[j].toNat := by
          subst hDs
          simp
        rw [this])
      (by have h1 := lt_of_block HHH.out.1; have h3 := hF4.size; have h4 : w3.drew.heap.size = w3.heap.size := rfl; omega)
      (by
        intro k hk hkB
        rcases hvf with ⟨hvf, _⟩ | ⟨g, cap, cur, q1, q2, q3, _⟩
        · rw [hvf] at hk; cases hk
        · rw [q1] at hk
          simp [Value.ownBlock] at hk
          have := lt_of_block q3
          have := HWB.out
          omega)
    rw [hDl] at HE
    have HR2 : Hid (eText (digF x) (dpF x) = eText Ds ((nD : Int) + SP)) := by
      show _ = _
      rw [HR.out, hDs]
    have HC : Hid (∀ w5 v', Own w4 base (.slice so 0 sc) (eText Ds ((nD : Int) + SP)) w5 v' → Own w base (.slice so 0 sc) (eText (digF x) (dpF x)) w5 v') := by
      intro w5 v' h
      rw [HR2.out]
      have hFA : Fr (fun k => (Value.slice so 0 sc).ownBlock = some k) w w4 := ((HF3.out.weak).trans ((Fr.refl _ w3).drew)).then hF4 (fun k hk => Or.inr (by have hk' : k = B := hk; have := HWB.out; omega))
      refine ⟨h.row, hFA.trans h.fr, ?_, h.bs⟩
      rcases h.at_ with e | ⟨k, e, hk⟩
      · exact Or.inl e
      · exact Or.inr ⟨k, e, Nat.le_trans hFA.size hk⟩
    have hmx : max ((nZ : Int) - 1) 0 = (nZ : Int) - 1 := by omega
    clear hc4 hF4 hDs hDl hlD hvb hvf HR HR2
    go_wp2_with (first | (go_at_call 188; with_reducible refine HE.mono ?_; rintro e w5 ⟨v', rfl, hO5⟩))
    go_ret
    exact ⟨_, rfl, HC.out _ _ hO5⟩
#print axioms ftoa_any
end Go.Proofs.YtdmjbhbiehjelaaGreatDoor
