/- The walk of BitioWrites. -/
import Derived.Test.YtokgolmioonbfaaWritesM
import Derived.Deep.CutRange
import Derived.Deep.CutBlock
namespace Go.Proofs.Ytokgolmioonbfaa
open Go.RowKit

set_option maxRecDepth 100000 in
set_option maxHeartbeats 6400000 in
theorem writes_walk (s : Value) (X : List OpD) (w : World) (hs : OpsL w s X) (hT : (X.map fun o => o.data.length + 1).sum ≤ 1048576) :
    Calls Try.prog 4 #[s] w fun e w' => e = .returned (.bool true) ∧ Below w.heap.size w w' := by
  obtain ⟨so, cap, rfl, hLc, hcap, hops⟩ := hs
  obtain ⟨L, hL⟩ : ∃ L, L = X.length := ⟨_, rfl⟩
  unfold maxLen at hcap
  rw [← hL] at hLc ⊢
  have HL : Hid (L = X.length) := hL
  clear hL
  go_enter Try.func4, Try.ntmps4
  go_wp2_with fail
  refine (newWriter_any _).mono ?_
  rintro e w1 ⟨rfl, ⟨sv1, hW1⟩, hF1, hsz1⟩
  have hs1 : w.heap.size + 1 ≤ w1.heap.size := by omega
  clear hsz1
  go_wp2_with fail
  refine (live_any _).mono ?_
  rintro e w2 ⟨rfl, hF2⟩
  have hinv : WInv w w2 w.heap.size w1.heap.size sv1 (.slice none 0 0) [] := by
    have hFa : Fr noB w1 w2 := ((Fr.refl noB w1).alloc _).then hF2 (fun _ hk => hk.elim)
    refine ⟨⟨hFa.obj hW1.1 id, own_at hW1.2 hFa (fun _ _ hk => hk)⟩, ⟨hF2.obj (heap_alloc_new _ _) id, by simpa [byteVals, ones] using World.ownsRow_nil w2 (w1.heap.size + 1) 5 1⟩, by simp [Value.ownBlock], (hF1.then hFa (fun _ hk => hk.elim)).below (Nat.le_refl _) (fun _ hk => hk.elim)⟩
  clear hF1 hF2 hW1
  go_wp2_with fail
  obtain ⟨wb, hwb⟩ : ∃ wb, wb = w.heap.size := ⟨_, rfl⟩
  obtain ⟨xb, hxb⟩ : ∃ xb, xb = w1.heap.size := ⟨_, rfl⟩
  rw [← hwb, ← hxb] at hinv
  rw [← hwb, ← hxb]
  have hw1 : w.heap.size ≤ wb := by omega
  have hx1 : wb < xb := by omega
  clear hwb hxb hs1
  go_loopw [16] (fun i wr => ∃ (k : Nat) (sv lv : Value) (l : List Bool), k ≤ L ∧ i = .int .i64 (k : Int) ∧ WInv w wr wb xb sv lv l ∧ l.length ≤ 40 * cost X k) (fun i _ => L - (intOf i).toNat)
  case atStart => exact ⟨0, sv1, _, [], Nat.zero_le _, rfl, hinv, by simp⟩
  case round =>
    clear hinv
    obtain ⟨k, sv, lv, l, hk, rfl, hI, hlen⟩ := hrel
    have hck := cost_le X k
    have hl40 : l.length ≤ 41943040 := by omega
    by_cases hlt : k < L
    · obtain ⟨b, off, rfl, hb, hop⟩ : ∃ b off, so = some ⟨b, off, none⟩ ∧ b < w.heap.size ∧ ∀ k (h : k < X.length), OpIs w b (off + k * 4) X[k] := by
        rcases hops with h0 | h0
        · have := HL.out; subst h0; simp at this; omega
        · exact h0
      have hkX : k < X.length := by have := HL.out; omega
      obtain ⟨da, dl, dc, ⟨o0, o1, o2, o3⟩, hdb, hdd, hvv, hn1, hn2⟩ := hop k hkX
      have hcs := cost_succ X k hkX
      have hcl := cost_le X (k + 1)
      clear hop hops
      have e0 := (hI.below.cell (p := ⟨b, off + k * 4, none⟩) hb).trans o0
      have e1 := (hI.below.cell (p := ⟨b, off + k * 4 + 1, none⟩) hb).trans o1
      have e2 := (hI.below.cell (p := ⟨b, off + k * 4 + 2, none⟩) hb).trans o2
      have e3 := (hI.below.cell (p := ⟨b, off + k * 4 + 3, none⟩) hb).trans o3
      have hdx : ∀ (D : List Nat), Bs w (.slice da dl dc) D → D ≠ [] → ∀ ao len cap b off, Value.slice da dl dc = .slice ao len cap → ao = some ⟨b, off, none⟩ → b < xb := by
        rintro D ⟨ao', c', h1, _, _, _, h3⟩ hD ao len cap b' off' h4 h5
        rcases h3 with h3 | ⟨b2, o2, h6, h7, _⟩
        · exact absurd h3 hD
        · simp at h1 h4
          have : some (⟨b', off', none⟩ : Addr) = some ⟨b2, o2, none⟩ := by rw [← h5, ← h4.1, h1.1, h6]
          simp at this
          omega
      have hdx' := hdx _ hdb
      have HCS : Hid (cost X (k + 1) = cost X k + (X[k].data.length + 1)) := hcs
      generalize X[k].kind = kd at *
      generalize X[k].n = n at *
      generalize X[k].v = v at *
      generalize X[k].data = D at *
      have hlD : l.length + 40 * (D.length + 1) ≤ 41943040 := by omega
      clear o0 o1 o2 o3 hdx hcs
      go_upto_block 2 with fail
      obtain ⟨ob, hob⟩ : ∃ ob, ob = wr.heap.size := ⟨_, rfl⟩
      obtain ⟨W0, hW0⟩ : ∃ W0, W0 = wr.alloc (.cells #[.int .i64 kd, .int .i64 n, .int .u32 (v : Int), .slice da dl dc] 31 (0, 0)) := ⟨_, rfl⟩
      have hO : W0.heap[ob]? = some (.cells #[.int .i64 kd, .int .i64 n, .int .u32 (v : Int), .slice da dl dc] 31 (0, 0)) := by rw [hW0, hob]; exact heap_alloc_new _ _
      have m1 : ob ≠ wb := by have := lt_of_block hI.a.1; omega
      have m2 : ob ≠ xb := by have := lt_of_block hI.b.1; omega
      have hI0 : WInv w W0 wb xb sv lv l := by rw [hW0]; exact hI.same ((Fr.refl _ _).alloc _)
      rw [← hW0, ← hob]
      clear hW0 hob e0 e1 e2 e3 hI
      have q1 := cellOf (o := 1) hO rfl
      have q2 := cellOf (o := 2) hO rfl
      have q3 := cellOf (o := 3) hO rfl
      have HO : Hid (W0.heap[ob]? = some (.cells #[.int .i64 kd, .int .i64 n, .int .u32 (v : Int), .slice da dl dc] 31 (0, 0))) := hO
      clear hO
      go_cut [] from 22 to 57 (fun wx => ∃ (sv' lv' : Value) (l' : List Bool), WInv w wx wb xb sv' lv' l' ∧ l'.length ≤ 40 * cost X (k + 1))
      case first =>
        by_cases k0 : kd = 0
        · subst k0
          by_cases hbad : n < 0 ∨ 32 < n
          · go_wp2_with fail
            go_region_held3 (fun w' => w'.cell? ⟨ob, 1, none⟩ = some (.int .i64 n) ∧ w'.cell? ⟨ob, 2, none⟩ = some (.int .u32 (v : Int)))
              (go_keep)
              (first
                | (go_at_call 25; refine (wbits_bad wb l.length sv _ _ _ ?_ hbad).mono ?_; exact hI0.a.1; rintro e w' ⟨rfl, rfl⟩)
                | (go_at_call 26; refine (refwbits_bad xb _ _ _ hbad).mono ?_; rintro e w' ⟨rfl, rfl⟩))
            go_wp2_with fail
            go_meet
            exact ⟨sv, lv, l, hI0.same ((Fr.refl noB W0).drew), by have := HCS.out; omega⟩
          · obtain ⟨N, rfl⟩ := Int.eq_ofNat_of_zero_le (show 0 ≤ n by omega)
            have hN : N ≤ 32 := by omega
            clear hbad
            by_cases hmuch : 2 ^ N ≤ v
            · have HM : Hid (2 ^ N ≤ v) := hmuch
              clear hmuch
              go_wp2_with fail
              go_region_held3 (fun w' => w'.cell? ⟨ob, 1, none⟩ = some (.int .i64 (N : Int)) ∧ w'.cell? ⟨ob, 2, none⟩ = some (.int .u32 (v : Int)))
                (go_keep)
                (first
                  | (go_at_call 25; refine (wbits_much wb l.length v N sv _ ?_ hN hvv HM.out).mono ?_; exact hI0.a.1; rintro e w' ⟨rfl, rfl⟩)
                  | (go_at_call 26; refine (refwbits_much xb v N _ hN hvv HM.out).mono ?_; rintro e w' ⟨rfl, rfl⟩))
              go_wp2_with fail
              go_meet
              exact ⟨sv, lv, l, hI0.same ((Fr.refl noB W0).drew), by have := HCS.out; omega⟩
            · have HM : Hid (v < 2 ^ N) := by show v < 2 ^ N; omega
              have hId := hI0.same ((Fr.refl noB W0).drew)
              have HOd : Hid (W0.drew.heap[ob]? = some (.cells #[.int .i64 0, .int .i64 (N : Int), .int .u32 (v : Int), .slice da dl dc] 31 (0, 0))) := HO.out
              clear hmuch
              go_wp2_with fail
              go_region_held3 (fun w' => w'.cell? ⟨ob, 1, none⟩ = some (.int .i64 (N : Int)) ∧ w'.cell? ⟨ob, 2, none⟩ = some (.int .u32 (v : Int)))
                (first | exact ⟨y1, y2⟩ | exact ⟨z1, z2⟩ | go_keep)
                (first
                  | (go_at_call 25; refine (wbits_x wb v N sv l _ hId.a hN HM.out (by omega)).mono ?_; rintro e w5 ⟨rfl, sv5, h5, hs5⟩; obtain ⟨hb5, hd5, hbl5⟩ := hId.one hw1 hx1 hs5; have hO5 := ob_one HOd.out m1 hId.a.2 hs5; have z1 := cellOf (o := 1) hO5 rfl; have z2 := cellOf (o := 2) hO5 rfl)
                  | (go_at_call 26; refine (refwbits_good xb v N lv l _ hb5 hN HM.out (by omega)).mono ?_; rintro e w6 ⟨rfl, lv6, h6, hs6⟩; have hO6 := ob_one hO5 m2 hb5.2 hs6; have y1 := cellOf (o := 1) hO6 rfl; have y2 := cellOf (o := 2) hO6 rfl))
              go_wp2_with fail
              go_meet
              exact ⟨sv5, lv6, l ++ bitsN v N, WInv.two h5 hb5 hd5 hbl5 hw1 hx1 h6 hs6, by have := HCS.out; simp; omega⟩
        have k0b : (kd == 0) = false := by simpa using k0
        by_cases k2 : kd = 2
        · subst k2
          go_wp2_with fail
          refine (walign_x wb sv l _ hI0.a (by omega)).mono ?_
          rintro e w5 ⟨rfl, sv5, h5, hs5⟩
          obtain ⟨hb5, hd5, hbl5⟩ := hI0.one hw1 hx1 hs5
          go_wp2_with fail
          refine (refwalign xb lv l _ hb5 (by omega)).mono ?_
          rintro e w6 ⟨rfl, lv6, h6, hs6⟩
          go_wp2_with fail
          go_meet
          exact ⟨sv5, lv6, alignB l, WInv.two h5 hb5 hd5 hbl5 hw1 hx1 h6 hs6, by have := alignB_le l; have := HCS.out; omega⟩
        have k2b : (kd == 2) = false := by simpa using k2
        by_cases k3 : kd = 3
        · subst k3
          go_wp2_with fail
          refine (wbytes_x wb sv l _ D _ hI0.a (hdb.old' hI0.below) hdd (by simp; omega)).mono ?_
          rintro e w5 ⟨rfl, sv5, h5, hs5⟩
          obtain ⟨hb5, hd5, hbl5⟩ := hI0.one hw1 hx1 hs5
          have q5 := cellOf (o := 3) (ob_one HO.out m1 hI0.a.2 hs5) rfl
          go_wp2_with fail
          refine (refwbytes xb lv _ l D _ hb5 (hdb.old' hbl5) hdd (by omega) hdx').mono ?_
          rintro e w6 ⟨rfl, lv6, h6, hs6⟩
          go_wp2_with fail
          go_meet
          exact ⟨sv5, lv6, alignB l ++ bitsOf D, WInv.two h5 hb5 hd5 hbl5 hw1 hx1 h6 hs6, by have := alignB_le l; have := HCS.out; simp; omega⟩
        have k3b : (kd == 3) = false := by simpa using k3
        by_cases k4 : kd = 4
        · subst k4
          go_wp2_with fail
          refine (wout_any wb l _ hI0.a.is (by omega)).mono ?_
          rintro e w5 ⟨y1, rfl, hy1, hf5⟩
          have hI5 := hI0.same hf5
          go_wp2_with fail
          refine (refwout xb lv l _ hI5.b (by omega)).mono ?_
          rintro e w6 ⟨y2, rfl, hy2, hf6⟩
          have hI6 := hI5.same hf6
          have hy1' := own_at hy1 hf6 (fun _ _ hk => hk)
          go_wp2_with fail
          refine (equal_same _ _ (packB l) _ (Bs.ofOwn hy1') (Bs.ofOwn hy2) (packB_lt l)).mono ?_
          rintro e w7 ⟨rfl, rfl⟩
          go_wp2_with fail
          go_meet
          exact ⟨sv, lv, l, hI6, by have := HCS.out; omega⟩
        have k4b : (kd == 4) = false := by simpa using k4
        go_wp2_with fail
        go_meet
        exact ⟨sv, lv, l, hI0, by have := HCS.out; omega⟩
      case rest =>
        obtain ⟨sv', lv', l', hI2, hlen2⟩ := hcut
        clear hI0 q1 q2 q3
        obtain ⟨lo, lc, hlv, t1, t2, t3, t4, t5⟩ := own_slice hI2.b.2
        rw [hlv] at hI2
        have c0 := cellOf (o := 0) hI2.b.1 rfl
        have HW := fun (q : Nat) => wlen_any wb l'.length sv' (wc.drewN q) hI2.a.1
        have hl9 : l'.length ≤ 41943040 := by omega
        have hne9 : ((l'.length : Int) != (l'.length : Int)) = false := by simp
        clear t3 t4 t5 hlv
        go_wp2_with fail
        go_quiet ((go_at_call 33; exact Calls.quiet_of_same (HW _)))
        go_wp2_with fail
        go_roundw
        case rel => exact ⟨k + 1, sv', _, l', by omega, by go_num, hI2.same ((Fr.refl noB wc).drewN _), hlen2⟩
        case measure => simp [intOf]; omega
    · go_wp2_with fail
      refine (wout_any wb l _ hI.a.is (by omega)).mono ?_
      rintro e w5 ⟨y1, rfl, hy1, hf5⟩
      have hI5 := hI.same hf5
      go_wp2_with fail
      refine (refwout xb lv l _ hI5.b (by omega)).mono ?_
      rintro e w6 ⟨y2, rfl, hy2, hf6⟩
      have hI6 := hI5.same hf6
      have hy1' := own_at hy1 hf6 (fun _ _ hk => hk)
      go_wp2_with fail
      refine (equal_same _ _ (packB l) _ (Bs.ofOwn hy1') (Bs.ofOwn hy2) (packB_lt l)).mono ?_
      rintro e w7 ⟨rfl, rfl⟩
      go_wp2_with fail
      go_ret
      exact ⟨rfl, hI6.below⟩
end Go.Proofs.Ytokgolmioonbfaa
