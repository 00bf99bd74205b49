/- The walk of BitioOwn. -/
import Derived.Test.YtokgolmioonbfaaOwnM
import Derived.Deep.CutRange
namespace Go.Proofs.Ytokgolmioonbfaa
open Go.RowKit

theorem own_empty (w : World) : (w.alloc (.cells #[] 5 (0, 0))).ownsRow w.heap.size 5 1 (.slice (some ⟨w.heap.size, 0, none⟩) 0 0) 0 [] :=
  ⟨rfl, Or.inr ⟨w.heap.size, 0, #[], rfl, Nat.le_refl _, heap_alloc_new _ _, Nat.le_refl _, by unfold maxLen; omega, rfl, rfl⟩⟩

/-- What stays through all of the law: a reader over B at bit p, a writer that has B, old memory. -/
structure OInv (w wr : World) (rb g wb M : Nat) (B : List Nat) (p : Nat) : Prop where
  rd : RdAt wr rb g B.length p
  row : RowAt wr g B
  wi : WrIn wr wb (alignB [] ++ bitsOf B) M
  below : Below w.heap.size w wr

theorem OInv.fr {S : Nat → Prop} {w wr wn : World} {rb g wb M : Nat} {B : List Nat} {p : Nat} (h : OInv w wr rb g wb M B p) (hf : Fr S wr wn) (hM : wb < M) (hrM : rb < M) (hgM : g < M) (hs : ∀ k, S k → w.heap.size ≤ k ∧ (M ≤ k ∨ (k < wb ∧ k ≠ rb ∧ k ≠ g))) : OInv w wn rb g wb M B p := by
  refine ⟨hf.obj h.rd (fun hk => ?_), hf.obj h.row (fun hk => ?_), h.wi.fr hf (fun hk => ?_) (fun k cs fr hk h1 h2 => ?_), h.below.trans (hf.below h.below.size (fun k hk => (hs k hk).1))⟩
  · have := hs rb hk; omega
  · have := hs g hk; omega
  · have := hs wb hk; omega
  · have := hs k hk; omega

theorem OInv.moved {w wr wn : World} {rb g wb M : Nat} {B : List Nat} {p q : Nat} (h : OInv w wr rb g wb M B p) (hR : RdAt wn rb g B.length q) (hf : Fr (oneB rb) wr wn) (hne : rb ≠ g) (hrw : rb < wb) (hrb : w.heap.size ≤ rb) : OInv w wn rb g wb M B q := by
  refine ⟨hR, hf.obj h.row (fun hk => hne hk.symm), h.wi.fr hf (fun hk => ?_) (fun k cs fr hk h1 h2 => ?_), h.below.trans (hf.below h.below.size (fun k hk => ?_))⟩
  · rw [show wb = rb from hk] at hrw; omega
  · rw [show k = rb from hk] at h2; omega
  · rw [show k = rb from hk]; exact hrb

set_option maxRecDepth 100000 in
set_option maxHeartbeats 3200000 in
theorem own_walk (v : Value) (B : List Nat) (nn : Nat) (w : World) (hv : Bs w v B) (hB : ∀ x ∈ B, x < 256) (hl : B.length ≤ 140737488351232) (hnn : nn < 256) :
    Calls Try.prog 7 #[v, .int .u8 (nn : Int)] w fun e w' => e = .returned (.bool true) ∧ Below w.heap.size w w' := by
  obtain ⟨i0, hi, hz0, hz1, hz2⟩ := info_parts Try.info5
  have hv0 := hv
  obtain ⟨ao, vcap, rfl, h1, h2, h4, h3⟩ : ∃ ao cap, v = .slice ao B.length cap ∧ B.length ≤ cap ∧ cap ≤ maxLen ∧ (ao = none → cap = 0) ∧ (B = [] ∨ ∃ b off, ao = some ⟨b, off, none⟩ ∧ b < w.heap.size ∧ ∀ i (h : i < B.length), w.cell? ⟨b, off + i, none⟩ = some (.int .u8 ((B[i] : Nat) : Int))) := hv
  have hsrc : Src (w.alloc (.cells #[] 5 (0, 0))) ao (byteVals B) := Src.of (by
    rcases h3 with h3 | ⟨b, off, rfl, hb, hc⟩
    · exact Or.inl h3
    · exact Or.inr ⟨b, off, rfl, fun i hi => ((((Fr.refl noB w).alloc (.cells #[] 5 (0, 0))).cell (a := ⟨b, off + i, none⟩) hb id)).trans (hc i hi)⟩)
  have hmx : 0 + B.length ≤ maxLen := by unfold maxLen; omega
  obtain ⟨m, hm⟩ : ∃ m, m = min nn B.length := ⟨_, rfl⟩
  have hm1 : m ≤ B.length := by omega
  have hmin : ∀ ts t W, (Builtin.min_ ts t #[Value.int .i64 (nn : Int), Value.int .i64 (B.length : Int)]).run Try.prog W = .ok (Value.int .i64 (m : Int)) W := by
    intro ts t W
    have e : (m : Int) = if (B.length : Int) < (nn : Int) then (B.length : Int) else (nn : Int) := by split <;> omega
    rw [e]
    simp [Builtin.min_, Builtin.min2]
  have HV : Hid (Bs w (.slice ao B.length vcap) B) := hv0
  clear h3 hm hv0
  go_enter Try.func7, Try.ntmps7
  go_wp2_with (at_builtin; refine wpList_append_src rfl (.tmp 15) (.tmp 16) 22 rfl w.heap.size 5 i0 (.int .u8 0) 1 Try.underlying22 hi hz0 hz1 hz2 rfl _ 0 [] rfl (own_empty w) ao B.length vcap rfl h4 h1 (byteVals B) (by simp) hsrc (byteVals_one B) hmx (by omega) (by simp) ?_)
  intro mv w1 hown1 hg1
  obtain ⟨mo, mcap, hmv, k1, k2, k3, k4, k5⟩ := own_slice hown1
  have hF1 : Fr noB w w1 := ((Fr.refl noB w).alloc _).grown hg1 (by simp [Value.ownBlock])
  rw [hmv] at hown1 k5 ⊢
  clear hg1 hsrc k4
  go_wp2_with fail
  refine (newReader_any _ B _ (Bs.ofOwn hown1) (by omega)).mono ?_
  rintro e w2 ⟨rb, g, rfl, hrb, hg, hne, hR2, hr2, hF2⟩
  go_wp2_with fail
  refine (newWriter_any _).mono ?_
  rintro e w3 ⟨rfl, hW3, hF3, hs3⟩
  go_wp2_with fail
  refine (live_any _).mono ?_
  rintro e w4 ⟨rfl, hF4⟩
  obtain ⟨wb, hwb⟩ : ∃ wb, wb = w2.heap.size := ⟨_, rfl⟩
  have hrw : rb < wb := by have := lt_of_block hR2; omega
  have hgw : g < wb := by have := lt_of_block hr2; omega
  have hwb1 : w1.heap.size ≤ wb := by have := hF2.size; omega
  have hw1 := hF1.size
  have hwr : w.heap.size ≤ rb := by omega
  rw [← hwb] at hW3 ⊢
  clear hwb hs3
  have hF24 : Fr noB w2 w4 := hF3.then hF4 (fun _ hk => hk.elim)
  have hF14 : Fr noB w1 w4 := hF2.then hF24 (fun _ hk => hk.elim)
  have hR4 := hF24.obj hR2 id
  have hr4 := hF24.obj hr2 id
  have hW4 := hW3.same hF4
  have hown4 := own_frE hown1 hF14 (fun _ _ _ hk => hk.elim)
  have hbl4 : Below w.heap.size w w4 := (hF1.then hF14 (fun _ hk => hk.elim)).below (Nat.le_refl _) (fun _ hk => hk.elim)
  have hmo : ∀ k, atB mo k → w.heap.size ≤ k ∧ k < w1.heap.size := by
    rintro k ⟨o, ho⟩
    obtain ⟨h1, cur, h2⟩ := k5 k (by rw [ho]; rfl)
    exact ⟨h1, lt_of_block h2⟩
  clear hF1 hF2 hF3 hF4 hF24 hF14 hR2 hr2 hW3 hown1 k5
  go_wp2_with fail
  refine (wbytes_any wb [] _ B _ hW4 (Bs.ofOwn hown4) hB (by simp [packB]; omega)).mono ?_
  rintro e w5 ⟨rfl, hW5, hF5⟩
  have hown5 : w5.ownsRow w.heap.size 5 1 (.slice mo B.length mcap) B.length (byteVals B) := by
    obtain ⟨x1, x2⟩ := hown4
    refine ⟨x1, ?_⟩
    rcases x2 with x2 | ⟨gm, c, cur, e1, e2, e3, r⟩
    · exact Or.inl x2
    · refine Or.inr ⟨gm, c, cur, e1, e2, hF5.obj e3 (fun hk => ?_), r⟩
      have hgm := hmo gm ⟨0, by simp at e1; exact e1.1⟩
      rcases hk with hk | ⟨hk, _⟩ <;> omega
  have hI5 : OInv w w5 rb g wb w5.heap.size B 0 := by
    refine ⟨hF5.obj hR4 (fun hk => ?_), hF5.obj hr4 (fun hk => ?_), hW5.inn, hbl4.trans (hF5.below hbl4.size (fun k hk => ?_))⟩
    · rcases hk with hk | ⟨hk, _⟩ <;> omega
    · rcases hk with hk | ⟨hk, _⟩ <;> omega
    · rcases hk with hk | ⟨hk, _⟩ <;> omega
  obtain ⟨M, hM⟩ : ∃ M, M = w5.heap.size := ⟨_, rfl⟩
  have hwM : wb < M := by obtain ⟨sv, hsv, _⟩ := hW5; have := lt_of_block hsv; omega
  have hM5 : M ≤ w5.heap.size := by omega
  rw [← hM] at hI5
  have hfl := Flip.start hown5
  clear hM hW5 hF5 hW4 hR4 hr4 hown4 hbl4 hown5
  go_wp2_with fail
  go_loopw [36] (fun i wr => ∃ k : Nat, k ≤ B.length ∧ i = .int .i64 (k : Int) ∧ Flip w5 wr mo B.length) (fun i _ => B.length - (intOf i).toNat)
  case atStart => exact ⟨0, Nat.zero_le _, rfl, hfl⟩
  case round =>
    clear hfl
    obtain ⟨k, hk, rfl, hfl⟩ := hrel
    by_cases hlt : k < B.length
    · obtain ⟨gm, x, rfl, hc, hfz, hfn⟩ := hfl.get k hlt
      have HF : Hid (∀ y, Flip w5 (wr.setCell ⟨gm, k, none⟩ (.int .u8 y)) (some ⟨gm, 0, none⟩) B.length) := hfn
      clear hfn hfl hmo
      go_wp2_with fail
      go_roundw
      case rel => exact ⟨k + 1, by omega, by go_num, HF.out _⟩
      case measure => simp [intOf]; omega
    · have hI6 : OInv w wr rb g wb M B 0 := hI5.fr hfl.fr hwM (by omega) (by omega) (fun k hk => by have := hmo k hk; omega)
      have hM6 : M ≤ wr.heap.size := by have := hfl.fr.size; omega
      clear hfl hI5 hmo
      go_wp2_with fail
      refine (bytes_good rb g 0 m 0 B _ hI6.rd hI6.row (by omega) (by omega) rfl (by omega)).mono ?_
      rintro e w7 ⟨x, rfl, hx, hR7, hF7⟩
      have hI7 := hI6.moved hR7 hF7 hne hrw hwr
      rw [List.drop_zero] at hx
      have hM7 : M ≤ w7.heap.size := by have := hF7.size; omega
      have hsx7 := hF7.size
      clear hR7 hF7
      obtain ⟨xo, xcap, hxe, hx1, hx2, hx3, hx4, hx5⟩ := own_slice hx
      rw [hxe] at hx hx5 ⊢
      have hBt : ∀ y ∈ B.take m, y < 256 := fun y hy => hB y (List.mem_of_mem_take hy)
      have hve : Bs w7 (.slice ao m vcap) (B.take m) := (HV.out.old hI7.below).head m hm1
      have hxS : ∀ k, (Value.slice xo m xcap).ownBlock = some k → M ≤ k := fun k hk => by have := (hx5 k hk).1; omega
      clear hx4 hx5 hxe
      go_wp2_with fail
      refine (equal_same _ _ (B.take m) _ (Bs.ofOwn hx) hve hBt).mono ?_
      rintro e w8 ⟨rfl, rfl⟩
      have hs7 : Src (w8.alloc (.cells #[.int .u8 7] 5 (0, 0))) (some ⟨w8.heap.size, 0, none⟩) [.int .u8 7] :=
        ⟨fun _ => ⟨_, rfl, fun j v hj => by
          match j, hj with
          | 0, hj => simp at hj; subst hj; simp [Addr.add]⟩⟩
      have ho7 : ∀ u ∈ [Value.int .u8 7], u.oneCell' = true := by intro u hu; simp at hu; subst hu; rfl
      have hm63 : m + 1 ≤ maxLen := by unfold maxLen; omega
      have hbase7 : wr.heap.size ≤ w8.heap.size + 1 := by omega
      clear hve
      go_wp2_with (at_builtin; refine wpList_append_src rfl (.tmp 70) (.tmp 71) 22 rfl wr.heap.size 5 i0 (.int .u8 0) 1 Try.underlying22 hi hz0 hz1 hz2 rfl _ m (byteVals (B.take m)) rfl (hx.alloc _) _ 1 1 rfl (by simp) (by omega) [.int .u8 7] rfl hs7 ho7 hm63 (by omega) (by simpa using hbase7) ?_)
      intro x' w9 hown9 hg9
      rw [show byteVals (B.take m) ++ [Value.int .u8 7] = byteVals (B.take m ++ [7]) from by simp [byteVals]] at hown9
      have hI9 : OInv w w9 rb g wb M B (8 * (0 + m)) := hI7.fr (((Fr.refl _ w8).alloc _).grown hg9 (fun k hk => Or.inl hk)) hwM (by omega) (by omega) (fun k hk => by have := hxS k hk; omega)
      have hM9 : M ≤ w9.heap.size := by have := hg9.size; simp at this; omega
      obtain ⟨yo, ycap, hye, hy1, hy2, hy3, hy4, hy5⟩ := own_slice hown9
      rw [hye] at hown9 hy5 ⊢
      have hmo : ∀ k, atB yo k → M ≤ k := by
        rintro k ⟨o, ho⟩
        have := (hy5 k (by rw [ho]; rfl)).1
        omega
      have hfl := Flip.start hown9
      obtain ⟨wp, hwp⟩ : ∃ wp, wp = wr := ⟨_, rfl⟩
      clear hy4 hy5 hye hg9 hown9 hI7 hx hs7 ho7 hxS hI6
      go_wp2_with fail
      go_loopw [75] (fun i wz => ∃ k : Nat, k ≤ m + 1 ∧ i = .int .i64 (k : Int) ∧ Flip w9 wz yo (m + 1)) (fun i _ => m + 1 - (intOf i).toNat)
      case atStart => exact ⟨0, Nat.zero_le _, rfl, hfl⟩
      case round =>
        clear hfl
        obtain ⟨k, hk, rfl, hfl⟩ := hrel
        by_cases hlt : k < m + 1
        · obtain ⟨gm, z, rfl, hc, hfz, hfn⟩ := hfl.get k hlt
          have HF : Hid (∀ y, Flip w9 (wr.setCell ⟨gm, k, none⟩ (.int .u8 y)) (some ⟨gm, 0, none⟩) (m + 1)) := hfn
          clear hfn hfl hmo
          go_wp2_with fail
          go_roundw
          case rel => exact ⟨k + 1, by omega, by go_num, HF.out _⟩
          case measure => simp [intOf]; omega
        · have hIa : OInv w wr rb g wb M B (8 * (0 + m)) := hI9.fr hfl.fr hwM (by omega) (by omega) (fun k hk => by have := hmo k hk; omega)
          have hMa : M ≤ wr.heap.size := by have := hfl.fr.size; omega
          clear hfl hI9 hmo hwp
          go_wp2_with fail
          refine (wout_any wb _ _ hIa.wi.is (by simp [alignB]; omega)).mono ?_
          rintro e wc ⟨y, rfl, hy, hFc⟩
          rw [out_bytes B hB] at hy
          have hIc := hIa.fr hFc hwM (by omega) (by omega) (fun k hk => hk.elim)
          have hMc := hFc.size
          obtain ⟨po, pcap, hpe, hp1, hp2, hp3, hp4, hp5⟩ := own_slice hy
          rw [hpe] at hy hp5 ⊢
          have hve : Bs wc (.slice ao B.length vcap) B := HV.out.old hIc.below
          have hxS : ∀ k, (Value.slice po B.length pcap).ownBlock = some k → M ≤ k := fun k hk => by have := (hp5 k hk).1; omega
          clear hp4 hp5 hpe hIa hFc
          go_wp2_with fail
          refine (equal_same _ _ B _ (Bs.ofOwn hy) hve hB).mono ?_
          rintro e wd ⟨rfl, rfl⟩
          have hs9 : Src (wd.alloc (.cells #[.int .u8 9] 5 (0, 0))) (some ⟨wd.heap.size, 0, none⟩) [.int .u8 9] :=
            ⟨fun _ => ⟨_, rfl, fun j v hj => by
              match j, hj with
              | 0, hj => simp at hj; subst hj; simp [Addr.add]⟩⟩
          have ho9 : ∀ u ∈ [Value.int .u8 9], u.oneCell' = true := by intro u hu; simp at hu; subst hu; rfl
          have hm63 : B.length + 1 ≤ maxLen := by unfold maxLen; omega
          have hbase9 : wr.heap.size ≤ wd.heap.size + 1 := by omega
          clear hve
          go_wp2_with (at_builtin; refine wpList_append_src rfl (.tmp 91) (.tmp 92) 22 rfl wr.heap.size 5 i0 (.int .u8 0) 1 Try.underlying22 hi hz0 hz1 hz2 rfl _ B.length (byteVals B) rfl (hy.alloc _) _ 1 1 rfl (by simp) (by omega) [.int .u8 9] rfl hs9 ho9 hm63 (by omega) (by simpa using hbase9) ?_)
          intro y' we hown9 hg9
          rw [show byteVals B ++ [Value.int .u8 9] = byteVals (B ++ [9]) from by simp [byteVals]] at hown9
          have hIe : OInv w we rb g wb M B (8 * (0 + m)) := hIc.fr (((Fr.refl _ wd).alloc _).grown hg9 (fun k hk => Or.inl hk)) hwM (by omega) (by omega) (fun k hk => by have := hxS k hk; omega)
          have hMe : M ≤ we.heap.size := by have := hg9.size; simp at this; omega
          obtain ⟨zo, zcap, hze, hz1', hz2', hz3', hz4', hz5'⟩ := own_slice hown9
          rw [hze] at hown9 hz5' ⊢
          have hmo : ∀ k, atB zo k → M ≤ k := by
            rintro k ⟨o, ho⟩
            have := (hz5' k (by rw [ho]; rfl)).1
            omega
          have hfl := Flip.start hown9
          clear hz4' hz5' hze hg9 hown9 hIc hy hs9 ho9 hxS
          go_wp2_with fail
          go_loopw [96] (fun i wz => ∃ k : Nat, k ≤ B.length + 1 ∧ i = .int .i64 (k : Int) ∧ Flip we wz zo (B.length + 1)) (fun i _ => B.length + 1 - (intOf i).toNat)
          case atStart => exact ⟨0, Nat.zero_le _, rfl, hfl⟩
          case round =>
            clear hfl
            obtain ⟨k, hk, rfl, hfl⟩ := hrel
            by_cases hlt : k < B.length + 1
            · obtain ⟨gm, z, rfl, hc, hfz, hfn⟩ := hfl.get k hlt
              have HF : Hid (∀ y, Flip we (wr.setCell ⟨gm, k, none⟩ (.int .u8 y)) (some ⟨gm, 0, none⟩) (B.length + 1)) := hfn
              clear hfn hfl hmo
              go_wp2_with fail
              go_roundw
              case rel => exact ⟨k + 1, by omega, by go_num, HF.out _⟩
              case measure => simp [intOf]; omega
            · have hIf : OInv w wr rb g wb M B (8 * (0 + m)) := hIe.fr hfl.fr hwM (by omega) (by omega) (fun k hk => by have := hmo k hk; omega)
              have hMf : M ≤ wr.heap.size := by have := hfl.fr.size; omega
              clear hfl hIe hmo
              go_wp2_with fail
              refine (left_any rb g B.length _ _ hIf.rd (by omega) (by omega)).mono ?_
              rintro e wg ⟨rfl, j, rfl⟩
              have hleft : ((8 * B.length - 8 * (0 + m) : Nat) : Int) = 8 * (B.length : Int) - 8 * (m : Int) := by omega
              rw [hleft]
              clear hleft
              have hIg := hIf.fr ((Fr.refl noB wr).drewN j) hwM (by omega) (by omega) (fun k hk => hk.elim)
              go_wp2_with fail
              rw [show (8 * (B.length : Int) - 8 * (m : Int)) / 8 = ((B.length - m : Nat) : Int) from by omega]
              refine (bytes_good rb g _ (B.length - m) m B _ hIg.rd hIg.row (by omega) (by omega) (by omega) (by omega)).mono ?_
              rintro e wh ⟨x, rfl, hx, hRh, hFh⟩
              have hIh := hIg.moved hRh hFh hne hrw hwr
              have hMh : M ≤ wh.heap.size := by have := hFh.size; simp at this; omega
              rw [show (B.drop m).take (B.length - m) = B.drop m from List.take_of_length_le (by simp)] at hx
              have hBd : ∀ y ∈ B.drop m, y < 256 := fun y hy => hB y (List.mem_of_mem_drop hy)
              have hvh := HV.out.old hIh.below
              clear hRh hFh hIg hIf
              by_cases hvm : vcap = m
              · obtain rfl : m = B.length := by omega
                subst hvm
                go_wp2_with fail
                refine (equal_same _ _ (B.drop B.length) _ (Bs.ofOwn hx) ?_ hBd).mono ?_
                · rw [List.drop_length]
                  exact Bs.empty _ _ (fun _ => rfl) (by unfold maxLen; omega)
                · rintro e wi ⟨rfl, rfl⟩
                  go_wp2_with fail
                  refine (wout_any wb _ _ hIh.wi.is (by simp [alignB]; omega)).mono ?_
                  rintro e wj ⟨y, rfl, hy, hFj⟩
                  rw [out_bytes B hB] at hy
                  have hIj := hIh.fr hFj hwM (by omega) (by omega) (fun k hk => hk.elim)
                  go_wp2_with fail
                  refine (equal_same _ _ B _ (Bs.ofOwn hy) (HV.out.old hIj.below) hB).mono ?_
                  rintro e wk ⟨rfl, rfl⟩
                  go_wp2_with fail
                  go_ret
                  exact ⟨rfl, hIj.below⟩
              · have hvm' : m < vcap := by omega
                obtain ⟨x0, rfl⟩ : ∃ x0, ao = some x0 := by
                  cases ao with
                  | none => have := h4 rfl; omega
                  | some x0 => exact ⟨x0, rfl⟩
                go_wp2_with fail
                refine (equal_same _ _ (B.drop m) _ (Bs.ofOwn hx) ?_ hBd).mono ?_
                · exact hvh.cut m hm1
                · rintro e wi ⟨rfl, rfl⟩
                  go_wp2_with fail
                  refine (wout_any wb _ _ hIh.wi.is (by simp [alignB]; omega)).mono ?_
                  rintro e wj ⟨y, rfl, hy, hFj⟩
                  rw [out_bytes B hB] at hy
                  have hIj := hIh.fr hFj hwM (by omega) (by omega) (fun k hk => hk.elim)
                  go_wp2_with fail
                  refine (equal_same _ _ B _ (Bs.ofOwn hy) (HV.out.old hIj.below) hB).mono ?_
                  rintro e wk ⟨rfl, rfl⟩
                  go_wp2_with fail
                  go_ret
                  exact ⟨rfl, hIj.below⟩
end Go.Proofs.Ytokgolmioonbfaa
