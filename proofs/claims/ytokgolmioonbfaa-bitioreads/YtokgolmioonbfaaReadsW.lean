/- The walk of BitioReads. -/
import Derived.Test.YtokgolmioonbfaaRf2
import Derived.Test.YtokgolmioonbfaaEq
import Derived.Test.YtokgolmioonbfaaLive
import Derived.Test.YtokgolmioonbfaaOpen
import Derived.Deep.CutRange
import Derived.Deep.CutBlock
namespace Go.Proofs.Ytokgolmioonbfaa
open Go.RowKit

/-- s is a slice of L operations. -/
def Ops (w : World) (s : Value) (L : Nat) : Prop :=
  ∃ so cap, s = .slice so L cap ∧ L ≤ cap ∧ cap ≤ maxLen ∧ (L = 0 ∨ ∃ b off, so = some ⟨b, off, none⟩ ∧ b < w.heap.size ∧ ∀ k, k < L → ∃ kd n v da dl dc, OpAt w b (off + k * 4) kd n v (.slice da dl dc))

theorem OpsL.ops {w : World} {s : Value} {X : List OpD} (h : OpsL w s X) : Ops w s X.length := by
  obtain ⟨so, cap, rfl, h1, h2, h3⟩ := h
  refine ⟨so, cap, rfl, h1, h2, ?_⟩
  rcases h3 with rfl | ⟨b, off, rfl, hb, hx⟩
  · exact Or.inl rfl
  · refine Or.inr ⟨b, off, rfl, hb, fun k hk => ?_⟩
    obtain ⟨da, dl, dc, ho, _⟩ := hx k hk
    exact ⟨_, _, _, da, dl, dc, ho⟩

theorem numAt_min (B : List Nat) (p n : Nat) : numAt B p (min n (8 * B.length - p)) = numAt B p n := by
  unfold numAt
  rw [ofB_more (fun k => bitAt B (p + k)) (min n (8 * B.length - p)) n (Nat.min_le_left _ _)]
  intro k h1 h2
  have h3 : ¬ (p + k) / 8 < B.length := by omega
  simp [bitAt, h3]

/-- What stands at each round's head: both readers over the same bytes, at the same bit; nothing old has turned. -/
structure Inv (w wr : World) (rb g ib : Nat) (v : Value) (B : List Nat) (p : Nat) : Prop where
  rd : RdAt wr rb g B.length p
  row : RowAt wr g B
  rf : RfAt wr ib v p
  le : p ≤ 8 * B.length
  below : Below w.heap.size w wr

theorem Inv.next {w wr wn : World} {rb g ib : Nat} {v : Value} {B : List Nat} {p : Nat} (h : Inv w wr rb g ib v B p) (hf : Fr noB wr wn) : Inv w wn rb g ib v B p :=
  ⟨hf.obj h.rd id, hf.obj h.row id, hf.obj h.rf id, h.le, h.below.trans (hf.below (h.below.size) (fun _ hk => hk.elim))⟩

theorem Bs.below {w wr : World} {v : Value} {B : List Nat} (h : Bs w v B) (hb : Below w.heap.size w wr) : Bs wr v B :=
  h.fr (Fr.ofBelow (S := noB) hb) (fun _ _ _ _ _ _ _ hk => hk.elim)

theorem own_fr {S : Nat → Prop} {w w' : World} {base n : Nat} {v : Value} {xs : List Value} (h : w.ownsRow base 5 1 v n xs) (hf : Fr S w w') (hs : ∀ k, S k → k < base) : w'.ownsRow base 5 1 v n xs := by
  obtain ⟨h1, h2⟩ := h
  refine ⟨h1, ?_⟩
  rcases h2 with h2 | ⟨g, cap, cur, hv, hg, hh, r⟩
  · exact Or.inl h2
  · exact Or.inr ⟨g, cap, cur, hv, hg, hf.obj hh (fun hk => by have := hs g hk; omega), r⟩

theorem below_one {w W0 W1 : World} {rb : Nat} (hb : Below w.heap.size w W0) (hrb : w.heap.size ≤ rb) (f : Fr (oneB rb) W0 W1) : Below w.heap.size w W1 :=
  hb.trans (f.below hb.size (fun k hk => by rw [show k = rb from hk]; exact hrb))

theorem Inv.moved {w W0 W1 W2 : World} {rb g ib : Nat} {v : Value} {B : List Nat} {p q : Nat} (h : Inv w W0 rb g ib v B p) (hrb : w.heap.size ≤ rb) (hib : w.heap.size ≤ ib) (n1 : rb ≠ g) (n2 : ib ≠ rb) (n3 : ib ≠ g)
    (h1 : RdAt W1 rb g B.length q) (f1 : Fr (oneB rb) W0 W1) (h2 : RfAt W2 ib v q) (f2 : Fr (oneB ib) W1 W2) (hq : q ≤ 8 * B.length) : Inv w W2 rb g ib v B q :=
  ⟨f2.obj h1 (fun hk => n2 hk.symm), f2.obj (f1.obj h.row (fun hk => n1 hk.symm)) (fun hk => n3 hk.symm), h2, hq, below_one (below_one h.below hrb f1) hib f2⟩

set_option maxRecDepth 100000 in
set_option maxHeartbeats 3200000 in
theorem reads_walk (v s : Value) (B : List Nat) (L : Nat) (w : World) (hv : Bs w v B) (hB : ∀ x ∈ B, x < 256) (hl : B.length ≤ 140737488355328) (hs : Ops w s L) :
    Calls Try.prog 3 #[v, s] w fun e w' => e = .returned (.bool true) ∧ Below w.heap.size w w' := by
  obtain ⟨so, cap, rfl, hL, hcap, hops⟩ := hs
  unfold maxLen at hcap
  obtain ⟨ao, vcap, rfl⟩ : ∃ ao vcap, v = .slice ao B.length vcap := by obtain ⟨ao, c, h, _⟩ := hv; exact ⟨ao, c, h⟩
  go_enter Try.func3, Try.ntmps3
  go_wp2_with fail
  refine (newReader_any _ _ _ hv hl).mono ?_
  rintro e w1 ⟨rb, g, rfl, hrb, hg, hne, hR, hr, hF⟩
  go_wp2_with fail
  refine (live_any _).mono ?_
  rintro e w2 ⟨rfl, hF2⟩
  obtain ⟨ib, hib⟩ : ∃ ib, ib = w1.heap.size := ⟨_, rfl⟩
  rw [← hib]
  have hrf : RfAt (w1.alloc (.cells #[.slice ao B.length vcap, .int .i64 0] 27 (0, 0))) ib (.slice ao B.length vcap) 0 := by rw [hib]; exact heap_alloc_new _ _
  have hF3 : Fr noB w1 w2 := ((Fr.refl noB w1).alloc _).then hF2 (fun _ hk => hk.elim)
  have hinv : Inv w w2 rb g ib (.slice ao B.length vcap) B 0 :=
    ⟨hF3.obj hR id, hF3.obj hr id, hF2.obj hrf id, Nat.zero_le _, (hF.then hF3 (fun _ hk => hk.elim)).below (Nat.le_refl _) (fun _ hk => hk.elim)⟩
  have n2 : ib ≠ rb := by have := lt_of_block hR; omega
  have n3 : ib ≠ g := by have := lt_of_block hr; omega
  have hibw : w.heap.size ≤ ib := by have := hF.size; omega
  clear hF hF2 hF3 hrf hR hr hib
  go_wp2_with fail
  go_loopw [27] (fun i wr => ∃ k p : Nat, k ≤ L ∧ i = .int .i64 (k : Int) ∧ Inv w wr rb g ib (.slice ao B.length vcap) B p) (fun i _ => L - (intOf i).toNat)
  case atStart => exact ⟨0, 0, Nat.zero_le _, rfl, hinv⟩
  case round =>
    clear hinv
    obtain ⟨k, p, hk, rfl, hI⟩ := hrel
    by_cases hlt : k < L
    · obtain ⟨b, off, rfl, hb, hop⟩ : ∃ b off, so = some ⟨b, off, none⟩ ∧ b < w.heap.size ∧ ∀ k, k < L → ∃ kd n v da dl dc, OpAt w b (off + k * 4) kd n v (.slice da dl dc) := by
        rcases hops with h0 | h0
        · omega
        · exact h0
      obtain ⟨kd, n, vv, da, dl, dc, o0, o1, o2, o3⟩ := hop k hlt
      clear hop hops
      have e0 := (hI.below.cell (p := ⟨b, off + k * 4, none⟩) hb).trans o0
      have e1 := (hI.below.cell (p := ⟨b, off + k * 4 + 1, none⟩) hb).trans o1
      have e2 := (hI.below.cell (p := ⟨b, off + k * 4 + 2, none⟩) hb).trans o2
      have e3 := (hI.below.cell (p := ⟨b, off + k * 4 + 3, none⟩) hb).trans o3
      clear o0 o1 o2 o3
      go_upto_block 2 with fail
      obtain ⟨ob, hob⟩ : ∃ ob, ob = wr.heap.size := ⟨_, rfl⟩
      obtain ⟨W0, hW0⟩ : ∃ W0, W0 = wr.alloc (.cells #[.int .i64 kd, .int .i64 n, .int .u32 vv, .slice da dl dc] 31 (0, 0)) := ⟨_, rfl⟩
      have hO : W0.heap[ob]? = some (.cells #[.int .i64 kd, .int .i64 n, .int .u32 vv, .slice da dl dc] 31 (0, 0)) := by rw [hW0, hob]; exact heap_alloc_new _ _
      have m1 : ob ≠ rb := by have := lt_of_block hI.rd; omega
      have m2 : ob ≠ ib := by have := lt_of_block hI.rf; omega
      have hI1 : Inv w W0 rb g ib (.slice ao B.length vcap) B p := by rw [hW0]; exact hI.next ((Fr.refl _ _).alloc _)
      rw [← hW0, ← hob]
      clear hW0 hob e0 e1 e2 e3 hI
      have q1 := cellOf (o := 1) hO rfl
      have hvW := hv.below hI1.below
      have HO : Hid (W0.heap[ob]? = some (.cells #[.int .i64 kd, .int .i64 n, .int .u32 vv, .slice da dl dc] 31 (0, 0))) := hO
      clear hO
      go_cut [9, 10, 11, 12, 13, 14] from 33 to 82 (fun s9 s10 s11 s12 s13 s14 wx => ∃ (p' : Nat) (X : List Nat) (a e : Int), s9 = .int .u32 a ∧ s10 = .int .u32 a ∧ s11 = .int .i64 e ∧ s12 = .int .i64 e ∧ Bs wx s13 X ∧ Bs wx s14 X ∧ (∀ x ∈ X, x < 256) ∧ Inv w wx rb g ib (.slice ao B.length vcap) B p')
      case first =>
        have hz : ∀ x ∈ ([] : List Nat), x < 256 := by simp
        by_cases k0 : kd = 0
        · subst k0
          by_cases hbad : n < 0 ∨ 32 < n
          · go_wp2_with fail
            refine (bits_bad rb g B.length p n _ hI1.rd hbad).mono ?_
            rintro e w5 ⟨rfl, rfl⟩
            go_wp2_with fail
            refine (refbits_bad ib n _ hbad).mono ?_
            rintro e w6 ⟨rfl, rfl⟩
            go_wp2_with fail
            go_meet
            exact ⟨p, [], _, _, rfl, rfl, rfl, rfl, Bs.nil _, Bs.nil _, hz, hI1⟩
          · obtain ⟨N, rfl⟩ := Int.eq_ofNat_of_zero_le (show 0 ≤ n by omega)
            have hN : N ≤ 32 := by omega
            clear hbad
            by_cases hend : 8 * B.length < p + N
            · go_wp2_with fail
              refine (bits_ends rb g B.length p N _ hI1.rd hI1.le hl hN hend).mono ?_
              rintro e w5 ⟨rfl, j1, rfl⟩
              go_wp2_with fail
              have hI3 := hI1.next ((Fr.refl noB W0).drewN j1)
              refine (refbits_ends ib _ B p N _ hI3.rf (hv.below hI3.below) hI3.le hl hN hend).mono ?_
              rintro e w6 ⟨rfl, j2, rfl⟩
              go_wp2_with fail
              go_meet
              exact ⟨p, [], _, _, rfl, rfl, rfl, rfl, Bs.nil _, Bs.nil _, hz, hI1.next ((Fr.refl noB W0).drewN _)⟩
            · have hfit : p + N ≤ 8 * B.length := by omega
              go_wp2_with fail
              refine (bits_good rb g p N B _ hI1.rd hI1.row hB hl hN hfit).mono ?_
              rintro e w5 ⟨rfl, hR5, hF5⟩
              have q5 := cellOf (o := 1) (hF5.obj HO.out m1) rfl
              go_wp2_with fail
              refine (refbits_good ib _ B p N _ (hF5.obj hI1.rf n2) (hv.below (below_one hI1.below hrb hF5)) hB hl hN hfit).mono ?_
              rintro e w6 ⟨rfl, hR6, hF6⟩
              go_wp2_with fail
              go_meet
              exact ⟨_, [], _, _, rfl, rfl, rfl, rfl, Bs.nil _, Bs.nil _, hz, hI1.moved hrb hibw hne n2 n3 hR5 hF5 hR6 hF6 hfit⟩
        have k0b : (kd == 0) = false := by simpa using k0
        by_cases k1 : kd = 1
        · subst k1
          by_cases hbad : n < 0 ∨ 32 < n
          · go_wp2_with fail
            refine (peek_bad rb g B.length p n _ hI1.rd hbad).mono ?_
            rintro e w5 ⟨rfl, rfl⟩
            go_wp2_with fail
            refine (refpeek_bad ib n _ hbad).mono ?_
            rintro e w6 ⟨rfl, rfl⟩
            go_wp2_with fail
            go_meet
            exact ⟨p, [], _, _, rfl, rfl, rfl, rfl, Bs.nil _, Bs.nil _, hz, hI1⟩
          · obtain ⟨N, rfl⟩ := Int.eq_ofNat_of_zero_le (show 0 ≤ n by omega)
            have hN : N ≤ 32 := by omega
            clear hbad
            go_wp2_with fail
            refine (peek_good rb g p N B _ hI1.rd hI1.row hB hl hN hI1.le).mono ?_
            rintro e w5 ⟨rfl, j1, rfl⟩
            rw [numAt_min B p N]
            go_wp2_with fail
            have hI3 := hI1.next ((Fr.refl noB W0).drewN j1)
            refine (refpeek_good ib _ B p N _ hI3.rf (hv.below hI3.below) hB hl hN hI3.le).mono ?_
            rintro e w6 ⟨rfl, j2, rfl⟩
            go_wp2_with fail
            go_meet
            exact ⟨p, [], _, _, rfl, rfl, rfl, rfl, Bs.nil _, Bs.nil _, hz, hI1.next ((Fr.refl noB W0).drewN _)⟩
        have k1b : (kd == 1) = false := by simpa using k1
        by_cases k2 : kd = 2
        · subst k2
          go_wp2_with fail
          refine (align_any rb g B.length p _ hI1.rd hI1.le hl).mono ?_
          rintro e w5 ⟨rfl, hR5, hF5⟩
          go_wp2_with fail
          refine (refalign_any ib _ p _ (hF5.obj hI1.rf n2) (by have := hI1.le; omega)).mono ?_
          rintro e w6 ⟨rfl, hR6, hF6⟩
          go_wp2_with fail
          go_meet
          exact ⟨_, [], _, _, rfl, rfl, rfl, rfl, Bs.nil _, Bs.nil _, hz, hI1.moved hrb hibw hne n2 n3 hR5 hF5 hR6 hF6 (by have := hI1.le; omega)⟩
        have k2b : (kd == 2) = false := by simpa using k2
        by_cases k3 : kd = 3
        · subst k3
          by_cases hbad : n < 0
          · go_wp2_with fail
            refine (bytes_bad rb g B.length p n _ hI1.rd hbad).mono ?_
            rintro e w5 ⟨rfl, rfl⟩
            go_wp2_with fail
            refine (refbytes_bad ib n _ hbad).mono ?_
            rintro e w6 ⟨rfl, rfl⟩
            go_wp2_with fail
            go_meet
            exact ⟨p, [], _, _, rfl, rfl, rfl, rfl, Bs.nil _, Bs.nil _, hz, hI1⟩
          · obtain ⟨N, rfl⟩ := Int.eq_ofNat_of_zero_le (show 0 ≤ n by omega)
            clear hbad
            by_cases hend : B.length < (p + 7) / 8 + N
            · go_wp2_with fail
              refine (bytes_ends rb g B.length p N _ hI1.rd hI1.le hl hend).mono ?_
              rintro e w5 ⟨rfl, rfl⟩
              go_wp2_with fail
              refine (refbytes_ends ib _ B p N _ hI1.rf (hv.below hI1.below) hI1.le hl hend).mono ?_
              rintro e w6 ⟨rfl, rfl⟩
              go_wp2_with fail
              go_meet
              exact ⟨p, [], _, _, rfl, rfl, rfl, rfl, Bs.nil _, Bs.nil _, hz, hI1⟩
            · obtain ⟨f, hf⟩ : ∃ f, f = (p + 7) / 8 := ⟨_, rfl⟩
              have hfit : f + N ≤ B.length := by omega
              have hbyt : ∀ x ∈ (B.drop f).take N, x < 256 := fun x hx => hB x (List.mem_of_mem_drop (List.mem_of_mem_take hx))
              clear hend
              go_wp2_with fail
              refine (bytes_good rb g p N f B _ hI1.rd hI1.row hI1.le hl hf hfit).mono ?_
              rintro e w5 ⟨x, rfl, hx, hR5, hF5⟩
              have q5 := cellOf (o := 1) (hF5.obj HO.out m1) rfl
              go_wp2_with fail
              refine (refbytes_good ib _ B p N f _ (hF5.obj hI1.rf n2) (hv.below (below_one hI1.below hrb hF5)) hI1.le hl hf hfit).mono ?_
              rintro e w6 ⟨y, rfl, hy, hR6, hF6⟩
              have hx6 := own_fr hx hF6 (fun k hk => by rw [show k = ib from hk]; exact lt_of_block hI1.rf)
              go_wp2_with fail
              go_meet
              exact ⟨_, (B.drop f).take N, _, _, rfl, rfl, rfl, rfl, Bs.ofOwn hx6, Bs.ofOwn hy, hbyt, hI1.moved hrb hibw hne n2 n3 hR5 hF5 hR6 hF6 (by omega)⟩
        have k3b : (kd == 3) = false := by simpa using k3
        go_wp2_with fail
        go_meet
        exact ⟨p, [], _, _, rfl, rfl, rfl, rfl, Bs.nil _, Bs.nil _, hz, hI1⟩
      case rest =>
        obtain ⟨p', X, a, e, rfl, rfl, rfl, rfl, hx, hy, hX, hI2⟩ := hcut
        go_wp2_with fail
        refine (equal_same _ _ X _ hx hy hX).mono ?_
        rintro e' w5 ⟨rfl, rfl⟩
        go_wp2_with fail
        refine (left_any rb g B.length p' _ hI2.rd hI2.le hl).mono ?_
        rintro e' w6 ⟨rfl, j1, rfl⟩
        go_wp2_with fail
        have hI3 := hI2.next ((Fr.refl noB w5).drewN j1)
        refine (refleft_any ib _ B p' _ hI3.rf (hv.below hI3.below) hI3.le hl).mono ?_
        rintro e' w6 ⟨rfl, j2, rfl⟩
        go_wp2_with fail
        have hI4 := hI2.next ((Fr.refl noB w5).drewN (j1 + j2))
        refine (used_any rb g B.length p' _ hI4.rd hI4.le hl).mono ?_
        rintro e' w6 ⟨rfl, rfl⟩
        go_wp2_with fail
        refine (refused_any ib _ p' _ hI4.rf (by have := hI4.le; omega)).mono ?_
        rintro e' w6 ⟨rfl, rfl⟩
        go_wp2_with fail
        go_roundw
        case rel => exact ⟨k + 1, p', by omega, by go_num, hI4⟩
        case measure => simp [intOf]; omega
    · go_wp2_with fail
      go_ret
      exact ⟨rfl, hI.below⟩
end Go.Proofs.Ytokgolmioonbfaa
