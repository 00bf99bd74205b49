/- ZipNames: the law's walk. -/
import Derived.Test.YtlhikoomghbnjaaGreatDoorZBeg
import Derived.Test.YtlhikoomghbnjaaGreatDoorZNmR
import Derived.Test.YtlhikoomghbnjaaGreatDoorZFnd
namespace Go.Proofs.YtlhikoomghbnjaaGreatDoor
open Go.RowKit
attribute [local go_sem ↓] Go.wp_at_zero Go.wp_at_succ

/-- What the loop from the back has found among the entries from k on: nothing, or the first of them. -/
def Got (E : List Ent) (s : ByteArray) (k : Nat) (isV : Bool) (nm : ByteArray) (da : Option Addr) (dl dc : Nat) (st : Bool) : Prop :=
  (isV = false ∧ nm = ⟨#[]⟩ ∧ da = none ∧ dl = 0 ∧ dc = 0 ∧ st = false ∧ ∀ j (h : j < E.length), k ≤ j → (E[j].nm.toList == s.toList) = false) ∨
  (isV = true ∧ ∃ m, ∃ (hm : m < E.length), k ≤ m ∧ E[m] = ⟨nm, da, dl, dc, st⟩ ∧ (E[m].nm.toList == s.toList) = true ∧ ∀ j (h : j < E.length), k ≤ j → j < m → (E[j].nm.toList == s.toList) = false)
theorem bs_nil (w : World) : Bs w (.slice none ([] : List Nat).length 0) [] := ⟨none, 0, rfl, Nat.le_refl _, by unfold maxLen; omega, fun _ => rfl, Or.inl rfl⟩
theorem bs_of_block {w : World} {g : Nat} {B : List Nat} (h : w.heap[g]? = some (.cells (byteVals B).toArray 5 (0, 0))) (hl : B.length ≤ 140737488355328) : Bs w (.slice (some ⟨g, 0, none⟩) B.length B.length) B :=
  ⟨_, B.length, rfl, Nat.le_refl _, by unfold maxLen; omega, by simp, Or.inr ⟨g, 0, rfl, lt_of_block h, fun i hi => by
    rw [Nat.zero_add]
    exact cellOf h (by rw [List.getElem?_toArray]; exact byteVals_get B i hi)⟩⟩
set_option maxRecDepth 100000 in
set_option maxHeartbeats 4000000 in
theorem names_walk (s : ByteArray) (ao : Option Addr) (cap : Nat) (E : List Ent) (w : World) (hs : s.size ≤ 140737488355328) (hE : EsAt w ao E) (hl : E.length ≤ 140737488355328)
    (hD : ∀ i (hi : i < E.length), ∃ B, Bs w (.slice E[i].ao E[i].len E[i].cap) B ∧ (∀ y ∈ B, y < 256) ∧ B.length ≤ 140737488355328) (hT : Tabs w) :
    Calls Tryz.prog 4 #[.string s, .slice ao E.length cap] w fun e w' => e = .returned (.bool true) ∧ Below w.heap.size w w' := by
  have HE : Hid (EsAt w ao E) := hE
  have HD : Hid (∀ i (hi : i < E.length), ∃ B, Bs w (.slice E[i].ao E[i].len E[i].cap) B ∧ (∀ y ∈ B, y < 256) ∧ B.length ≤ 140737488355328) := hD
  have HT : Hid (Tabs w) := hT
  have a0 := heap_alloc_new w (.cells #[.string ⟨#[]⟩, .slice none 0 0, .bool false] 29 (0, 0))
  have hF0 : Fr noB w (w.alloc (.cells #[.string ⟨#[]⟩, .slice none 0 0, .bool false] 29 (0, 0))) := (Fr.refl noB w).alloc _
  clear hE hD hT
  obtain ⟨n, hn⟩ : ∃ n, E.length = n := ⟨_, rfl⟩
  have HN : Hid (E.length = n) := hn
  rw [hn] at hl
  rw [hn]
  clear hn
  go_enter Tryz.func4, Tryz.ntmps4
  go_wp2_with fail
  go_loopw [6, 7] (fun bv iv wr => ∃ (k : Nat) (z : Int) (isV : Bool) (nm : ByteArray) (da : Option Addr) (dl dc : Nat) (st : Bool), k ≤ n ∧ z + 1 = (k : Int) ∧ iv = .int .i64 z ∧ bv = .bool isV ∧ Fr noB w wr ∧ wr.heap[w.heap.size]? = some (.cells #[.string nm, .slice da dl dc, .bool st] 29 (0, 0)) ∧ Hid (Got E s k isV nm da dl dc st)) (fun _ iv _ => (intOf iv + 1).toNat)
  case atStart => exact ⟨n, (n : Int) - 1, false, ⟨#[]⟩, none, 0, 0, false, Nat.le_refl _, by omega, by go_num, rfl, hF0, a0, Or.inl ⟨rfl, rfl, rfl, rfl, rfl, rfl, fun j h1 h2 => by have := HN.out; omega⟩⟩
  case round =>
    clear a0 hF0
    obtain ⟨k, z, isV, nm, da, dl, dc, st, hk, hz, rfl, rfl, hF, hblk, HG⟩ := hrel
    cases k with
    | zero =>
      obtain rfl : z = -1 := by omega
      have HFD : ∃ B : List Nat, dl = B.length ∧ Bs wr (.slice da B.length dc) B ∧ (∀ y ∈ B, y < 256) ∧ Calls Tryz.prog 8 #[.slice ao n cap, .string s] wr fun e w' => ∃ xa xc, e = .returned (.tuple #[.agg #[.string nm, .slice xa B.length xc, .bool st], .bool isV]) ∧ Bs w' (.slice xa B.length xc) B ∧ Fr noB wr w' := by
        have hlE : E.length ≤ 140737488355328 := by rw [HN.out]; exact hl
        rcases HG.out with ⟨rfl, rfl, rfl, rfl, rfl, rfl, q7⟩ | ⟨rfl, m, hm, -, q3, q4, q5⟩
        · refine ⟨[], rfl, bs_nil wr, by simp, ?_⟩
          have := find_none ao cap E s wr (HE.out.keep hF) hlE (firstE_none E s (fun j hj => q7 j hj (Nat.zero_le _)))
          rw [HN.out] at this
          refine this.mono ?_
          rintro e w' ⟨rfl, hf⟩
          exact ⟨none, 0, rfl, bs_nil w', hf⟩
        · obtain ⟨B, hB1, hB2, hB3⟩ := HD.out m hm
          rw [q3] at hB1
          simp only at hB1
          have hdl : dl = B.length := by
            obtain ⟨_, _, he, _⟩ := hB1
            injection he
          subst hdl
          have hBw : Bs wr (.slice da B.length dc) B := hB1.fr hF (fun _ _ _ _ _ _ _ h => h)
          refine ⟨B, rfl, hBw, hB2, ?_⟩
          have := find_some ao cap E s wr (HE.out.keep hF) hlE m hm (firstE_hit E s m hm (fun j hj h => q5 j hj (Nat.zero_le _) h) q4) nm da B.length dc st q3 B hBw hB3
          rw [HN.out] at this
          refine this.mono ?_
          rintro e w' ⟨g, rfl, hrow, hf⟩
          exact ⟨some ⟨g, 0, none⟩, B.length, rfl, bs_of_block hrow hB3, hf⟩
      obtain ⟨B, rfl, hBd, hB256, C1⟩ := HFD
      have HBD : Hid (Bs wr (.slice da B.length dc) B) := hBd
      have HB2 : Hid (∀ y ∈ B, y < 256) := hB256
      have H1 : Hid (∀ w', Fr noB w w' → Calls Tryz.prog 5 #[] w' fun e w'' => e = .returned (.bool true) ∧ Fr noB w' w'') := fun w' h => begun_true w' (HT.out.keep h)
      have H2 : Hid (∀ w', Fr noB w w' → Calls Tryz.prog 9 #[.string s] w' fun e w'' => e = .returned (.bool (nameF s)) ∧ Fr noB w' w'') := fun w' h => name_any s w' hs (HT.out.keep h)
      have H3 : Hid (∀ w', Calls Tryz.prog 10 #[.string s] w' fun e w'' => e = .returned (.bool (nameF s)) ∧ Fr noB w' w'') := fun w' => rname_any s w' hs
      have HBK : Hid (wr.heap[w.heap.size]? = some (.cells #[.string nm, .slice da B.length dc, .bool st] 29 (0, 0))) := hblk
      have HSM : Hid (∀ (w' : World) (l1 l2 : Nat) (xa : Option Addr) (xc : Nat), EntC w' l1 nm xa B.length xc st → EntC w' l2 nm da B.length dc st → Bs w' (.slice xa B.length xc) B → Bs w' (.slice da B.length dc) B → Calls Tryz.prog 11 #[.slice (some ⟨l1, 0, none⟩) 1 1, .slice (some ⟨l2, 0, none⟩) 1 1] w' fun e w'' => e = .returned (.bool true) ∧ Fr noB w' w'') := fun w' l1 l2 xa xc h1 h2 h3 h4 => same_one l1 l2 1 1 nm st xa da B.length xc dc B w' h1 h2 h3 h4 HB2.out
      clear HG HE HD hblk hBd hB256 HN
      generalize nameF s = nf at *
      generalize B.length = bl at *
      go_wp2_with (first
        | (go_at_call 8; refine C1.mono ?_; rintro e w1 ⟨xa, xc, rfl, hBx, hF1⟩; have hG1 : Fr noB w (w1.alloc (.cells #[.string nm, .slice xa bl xc, .bool st] 29 (0, 0))) := (hF.trans hF1).alloc _; have x0 := heap_alloc_new w1 (.cells #[.string nm, .slice xa bl xc, .bool st] 29 (0, 0)))
        | (go_at_call 5; refine (H1.out _ hG1).mono ?_; rintro e w2 ⟨rfl, hF2⟩; have hG2 := hG1.trans hF2)
        | (go_at_call 9; refine (H2.out _ hG2).mono ?_; rintro e w3 ⟨rfl, hF3⟩; have hG3 := hG2.trans hF3)
        | (go_at_call 10; refine (H3.out _).mono ?_; rintro e w4 ⟨rfl, hF4⟩; have hG4 := hG3.trans hF4; have x4 := ((hF2.trans hF3).trans hF4).obj x0 id; have y4 := ((((hF1.alloc (.cells #[.string nm, .slice xa bl xc, .bool st] 29 (0, 0))).trans hF2).trans hF3).trans hF4).obj HBK.out id; have d0 := cellOf (o := 0) x4 rfl; have d1 := cellOf (o := 1) x4 rfl; have d2 := cellOf (o := 2) x4 rfl; have y5 := ((Fr.refl noB w4).alloc (.cells #[.string nm, .slice xa bl xc, .bool st] 29 (0, 0))).obj y4 id; have e0 := cellOf (o := 0) y5 rfl; have e1 := cellOf (o := 1) y5 rfl; have e2 := cellOf (o := 2) y5 rfl)
        | (go_at_call 11; fail))
      have hFa : Fr noB w4 ((w4.alloc (.cells #[.string nm, .slice xa bl xc, .bool st] 29 (0, 0))).alloc (.cells #[.string nm, .slice da bl dc, .bool st] 29 (0, 0))) := ((Fr.refl noB w4).alloc _).alloc _
      have k1 : ((w4.alloc (.cells #[.string nm, .slice xa bl xc, .bool st] 29 (0, 0))).alloc (.cells #[.string nm, .slice da bl dc, .bool st] 29 (0, 0))).heap[w4.heap.size]? = some (.cells #[.string nm, .slice xa bl xc, .bool st] 29 (0, 0)) := (Below.heap_alloc _ _ _ (by simp)).trans (heap_alloc_new w4 _)
      have k2 : ((w4.alloc (.cells #[.string nm, .slice xa bl xc, .bool st] 29 (0, 0))).alloc (.cells #[.string nm, .slice da bl dc, .bool st] 29 (0, 0))).heap[w4.heap.size + 1]? = some (.cells #[.string nm, .slice da bl dc, .bool st] 29 (0, 0)) := by
        have e := heap_alloc_new (w4.alloc (.cells #[.string nm, .slice xa bl xc, .bool st] 29 (0, 0))) (.cells #[.string nm, .slice da bl dc, .bool st] 29 (0, 0))
        rwa [World.size_alloc] at e
      have hB4 : Fr noB w1 ((w4.alloc (.cells #[.string nm, .slice xa bl xc, .bool st] 29 (0, 0))).alloc (.cells #[.string nm, .slice da bl dc, .bool st] 29 (0, 0))) := (((((Fr.refl noB w1).alloc (.cells #[.string nm, .slice xa bl xc, .bool st] 29 (0, 0))).trans hF2).trans hF3).trans hF4).trans hFa
      have C5 := HSM.out _ w4.heap.size (w4.heap.size + 1) xa xc ⟨cellOf k1 rfl, cellOf k1 rfl, cellOf k1 rfl⟩ ⟨cellOf k2 rfl, cellOf k2 rfl, cellOf k2 rfl⟩ (hBx.fr hB4 (fun _ _ _ _ _ _ _ h => h)) (HBD.out.fr (hF1.trans hB4) (fun _ _ _ _ _ _ _ h => h))
      have hGf := hG4.trans hFa
      generalize ((w4.alloc (.cells #[.string nm, .slice xa bl xc, .bool st] 29 (0, 0))).alloc (.cells #[.string nm, .slice da bl dc, .bool st] 29 (0, 0))) = w5 at *
      generalize w4.heap.size = l1 at *
      clear d0 d1 d2 e0 e1 e2 x4 y4 y5 k1 k2 hFa hB4
      refine C5.mono ?_
      rintro e w6 ⟨rfl, hF6⟩
      go_wp2_with fail
      go_ret
      exact ⟨rfl, (hGf.trans hF6).below (Nat.le_refl _) (fun _ h => h.elim)⟩
    | succ j =>
      obtain rfl : z = (j : Int) := by omega
      have hjn : j < E.length := by have := HN.out; omega
      obtain ⟨b, off, hao, hbl, g1, g2, g3⟩ := (HE.out.keep hF).get j hjn
      obtain ⟨⟨nm2, da2, dl2, dc2, st2⟩, hej⟩ : ∃ e, E[j] = e := ⟨_, rfl⟩
      rw [hej] at g1 g2 g3
      simp only at g1 g2 g3
      have hjI : (j : Int) < (n : Int) := by omega
      have hjN : j < n := by omega
      have c0 := cellOf (o := 0) hblk rfl
      have c1 := cellOf (o := 1) hblk rfl
      have c2 := cellOf (o := 2) hblk rfl
      have f0 := freeOf 0 hblk
      have f1 := freeOf 1 hblk
      have f2 := freeOf 2 hblk
      have hbN : b < wr.heap.size := hbl
      have HB : Hid (wr.heap[w.heap.size]? = some (.cells #[.string nm, .slice da dl dc, .bool st] 29 (0, 0))) := hblk
      cases he : (nm2.toList == s.toList) with
      | true =>
        have HG2 : Hid (Got E s j true nm2 da2 dl2 dc2 st2) := Or.inr ⟨rfl, j, hjn, Nat.le_refl _, hej, by rw [hej]; exact he, fun i h1 h2 h3 => by omega⟩
        clear HG hej hblk
        subst hao
        go_wp2_with fail
        go_roundw
        case rel => exact ⟨j, (j : Int) - 1, true, nm2, da2, dl2, dc2, st2, by omega, by omega, by go_num, rfl, ((hF.setCell ⟨w.heap.size, 0, none⟩ (Or.inr (Nat.le_refl _)) _).setCell ⟨w.heap.size, 1, none⟩ (Or.inr (Nat.le_refl _)) _).setCell ⟨w.heap.size, 2, none⟩ (Or.inr (Nat.le_refl _)) _, setOf 2 _ (setOf 1 _ (setOf 0 _ HB.out)), HG2⟩
        case measure => simp [intOf] <;> omega
      | false =>
        have HG2 : Hid (Got E s j isV nm da dl dc st) := by
          rcases HG.out with ⟨q1, q2, q3, q4, q5, q6, q7⟩ | ⟨q1, m, hm, q2, q3, q4, q5⟩
          · refine Or.inl ⟨q1, q2, q3, q4, q5, q6, fun i h1 h2 => ?_⟩
            rcases Nat.lt_or_ge j i with h | h
            · exact q7 i h1 (by omega)
            · obtain rfl : i = j := by omega
              rw [hej]
              exact he
          · refine Or.inr ⟨q1, m, hm, by omega, q3, q4, fun i h1 h2 h3 => ?_⟩
            rcases Nat.lt_or_ge j i with h | h
            · exact q5 i h1 (by omega) h3
            · obtain rfl : i = j := by omega
              rw [hej]
              exact he
        clear HG hej hblk
        subst hao
        go_wp2_with fail
        go_roundw
        case rel => exact ⟨j, (j : Int) - 1, isV, nm, da, dl, dc, st, by omega, by omega, by go_num, rfl, hF, HB.out, HG2⟩
        case measure => simp [intOf] <;> omega
#print axioms names_walk
end Go.Proofs.YtlhikoomghbnjaaGreatDoor
