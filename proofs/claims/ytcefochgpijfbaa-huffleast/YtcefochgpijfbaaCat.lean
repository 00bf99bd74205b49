/- The contracts of slices.Grow at nil and of slices.Concat of two. -/
import Derived.Test.YtcefochgpijfbaaSgl
import Derived.Lib.AppendZerosOnto
import Derived.Lib.Walk
import Derived.Lib.SliceRun
namespace Go.Proofs.Ytcefochgpijfbaa
open Go.RowKit

theorem Try.infoI : (Try.prog.info? 3).map (fun i => (i.zero, i.size, i.bytes)) = some (some (.int .i64 0), 1, 8) := by kernel_rfl
theorem Try.undI : Try.prog.underlying 3 = some (.int .i64) := by kernel_rfl

set_option maxRecDepth 100000 in
set_option maxHeartbeats 1600000 in
theorem grow_nil (n : Nat) (w : World) (h0 : 0 < n) (hn : n ≤ 1048576) :
    Calls Try.prog 33 #[.slice none 0 0, .int .i64 (n : Int)] w fun e w' => ∃ v, e = .returned v ∧ w'.ownsRow w.heap.size 3 1 v 0 [] ∧ Fr noB w w' := by
  obtain ⟨i0, hi, hz0, hz1, hz2⟩ := info_parts Try.infoI
  have hrz : ∀ ty, (Builtin.append_ #[22, 3] ty #[.slice none 0 0, .int .i64 (n : Int)]).run Try.prog w = _ := fun ty => Lib.run_append_nil_zeros w 22 3 ty 3 i0 (.int .i64 0) .i64 .i64 Try.underlying22 Try.undI hi hz0 n h0 (by omega) (by omega) (by rw [hz2]; omega)
  have hG := grownCap_ge w n 0 3
  have hG2 := grownCap_le_maxLen w n 0 3 (by unfold maxLen; omega)
  have HG : Hid (grownCap w n 0 3 ≤ maxLen) := hG2
  have h1 : ¬ ((n : Int) < 0) := by omega
  have h4 : (n : Int) > 0 := by omega
  obtain ⟨G, hGe⟩ : ∃ G, G = grownCap w n 0 3 := ⟨_, rfl⟩
  rw [← hGe] at hrz hG hG2
  have HG2 : Hid (n ≤ G ∧ G ≤ maxLen) := ⟨hG, hG2⟩
  unfold maxLen at hG2
  clear HG hGe
  go_enter Try.func33, Try.ntmps33
  go_wp2_with (at_builtin; refine Lib.wpList_append_run _ rfl _ _ _ _ rfl _ _ rfl rfl _ _ (hrz _) ?_)
  go_ret
  refine ⟨_, rfl, ⟨rfl, Or.inr ⟨w.heap.size, G, _, rfl, Nat.le_refl _, heap_alloc_new _ _, by omega, HG2.out.2, ?_, by simp⟩⟩, ((Fr.refl _ _).drew).alloc _⟩
  have := HG2.out.1
  simp [Builtin.zeroCells]
  omega

theorem Sy.slice {w : World} {v : Value} {s : List Nat} (h : Sy w v s) : ∃ ao cap, v = .slice ao s.length cap ∧ 0 < s.length ∧ s.length ≤ cap ∧ (ao = none → cap = 0) ∧ Src w ao (nVals .i64 s) := by
  obtain ⟨b, cap, cs, h1, h2, h3, h4, h5, h6⟩ := h
  refine ⟨_, cap, h1, h2, h3, by simp, ⟨fun _ => ⟨_, rfl, fun j v hj => ?_⟩⟩⟩
  have hjl : j < s.length := by
    rcases Nat.lt_or_ge j s.length with h' | h'
    · exact h'
    · rw [List.getElem?_eq_none (by simpa using h')] at hj; cases hj
  rw [nVals_get _ _ _ hjl] at hj
  cases hj
  rw [add_none, Nat.zero_add]
  exact cellOf h5 (h6 j hjl)
theorem Sy.ofOwn {base : Nat} {w : World} {v : Value} {s : List Nat} (h : w.ownsRow base 3 1 v s.length (nVals .i64 s)) (h0 : 0 < s.length) : Sy w v s := by
  obtain ⟨_, h2⟩ := h
  rcases h2 with ⟨_, h2⟩ | ⟨g, cap, cur, hv, hg, hh, ha, hb, hc, hd⟩
  · omega
  · refine ⟨g, cap, cur, hv, h0, ha, hb, hh, fun i hi => ?_⟩
    have h1 := nVals_get .i64 s i hi
    rw [← hd, List.getElem?_take_of_lt (by omega)] at h1
    simpa using h1
theorem own_slice {base : Nat} {w : World} {v : Value} {A : List Nat} (h : w.ownsRow base 3 1 v A.length (nVals .i64 A)) : ∃ so sc, v = .slice so A.length sc := by
  obtain ⟨_, h2⟩ := h
  rcases h2 with ⟨h2, h3⟩ | ⟨g, cap, cur, hv, _⟩
  · exact ⟨_, _, by rw [h2, h3]⟩
  · exact ⟨_, _, hv⟩
theorem own_base {base n : Nat} {w : World} {v : Value} {xs : List Value} {t : TypeId} {sz : Nat} (h : w.ownsRow base t sz v n xs) : ∀ b, v.ownBlock = some b → base ≤ b := by
  intro b e
  obtain ⟨_, h2⟩ := h
  rcases h2 with ⟨h2, _⟩ | ⟨g, cap, cur, hv, hg, hh, _⟩
  · rw [h2] at e; simp [Value.ownBlock] at e
  · rw [hv] at e
    simp [Value.ownBlock] at e
    omega
theorem nVals_append (k : IntKind) (A B : List Nat) : nVals k (A ++ B) = nVals k A ++ nVals k B := by simp [nVals]

set_option maxRecDepth 100000 in
set_option maxHeartbeats 1600000 in
theorem concat_any (hb : Nat) (v1 v2 : Value) (s1 s2 : List Nat) (w : World) (hh : w.heap[hb]? = some (.cells #[v1, v2] 22 (0, 0))) (h1 : Sy w v1 s1) (h2 : Sy w v2 s2) (hl : s1.length + s2.length ≤ 1048576) :
    Calls Try.prog 29 #[.slice (some ⟨hb, 0, none⟩) 2 2] w fun e w' => ∃ v, e = .returned v ∧ Sy w' v (s1 ++ s2) ∧ (∀ b, v.ownBlock = some b → w.heap.size ≤ b) ∧ Fr noB w w' := by
  obtain ⟨i0, hi, hz0, hz1, hz2⟩ := info_parts Try.infoI
  have HS1 : Hid (Sy w v1 s1) := h1
  have HS2 : Hid (Sy w v2 s2) := h2
  obtain ⟨ao1, q1, rfl, p1, r1, n1, c1⟩ := h1.slice
  obtain ⟨ao2, q2, rfl, p2, r2, n2, c2⟩ := h2.slice
  have d1 : w.cell? ⟨hb, 0, none⟩ = some (.slice ao1 s1.length q1) := cellOf hh rfl
  have d2 : w.cell? ⟨hb, 1, none⟩ = some (.slice ao2 s2.length q2) := cellOf hh rfl
  have HD : Hid (∀ w', Fr noB w w' → w'.cell? ⟨hb, 0, none⟩ = some (.slice ao1 s1.length q1) ∧ w'.cell? ⟨hb, 1, none⟩ = some (.slice ao2 s2.length q2)) := fun w' hF =>
    ⟨(hF.cell (a := ⟨hb, 0, none⟩) (lt_of_block hh) id).trans d1, (hF.cell (a := ⟨hb, 1, none⟩) (lt_of_block hh) id).trans d2⟩
  have HC : Hid (∀ w', Fr noB w w' → Src w' ao1 (nVals .i64 s1) ∧ Src w' ao2 (nVals .i64 s2)) := fun w' hF => by
    have e1 := (HS1.out.keep hF (fun _ _ _ h => h)).slice
    have e2 := (HS2.out.keep hF (fun _ _ _ h => h)).slice
    obtain ⟨_, _, e1, _, _, _, k1⟩ := e1
    obtain ⟨_, _, e2, _, _, _, k2⟩ := e2
    cases e1
    cases e2
    exact ⟨k1, k2⟩
  have HG : Hid (∀ w' n, 0 < n → n ≤ 1048576 → Calls Try.prog 33 #[.slice none 0 0, .int .i64 ((n : Nat) : Int)] w' fun e w'' => ∃ v, e = .returned v ∧ w''.ownsRow w'.heap.size 3 1 v 0 [] ∧ Fr noB w' w'') := fun w' n a b => grow_nil n w' a b
  obtain ⟨m1, hm1⟩ : ∃ m1, s1.length = m1 := ⟨_, rfl⟩
  obtain ⟨m2, hm2⟩ : ∃ m2, s2.length = m2 := ⟨_, rfl⟩
  have HM : Hid (s1.length = m1 ∧ s2.length = m2) := ⟨hm1, hm2⟩
  rw [hm1] at hl p1 r1 d1 HD
  rw [hm2] at hl p2 r2 d2 HD
  clear h1 h2 c1 c2 hh HS1 HS2 hm1 hm2
  go_enter Try.func29, Try.ntmps29
  go_wp2_with fail
  go_loopg [3, 11] 2 (fun gh sv iv wr => w = wr ∧ ((gh = 2 ∧ sv = .int .i64 0 ∧ iv = .int .i64 0) ∨ (gh = 1 ∧ sv = .int .i64 (m1 : Int) ∧ iv = .int .i64 1) ∨ (gh = 0 ∧ sv = .int .i64 ((m1 : Int) + (m2 : Int)) ∧ iv = .int .i64 2)))
  case atStart => exact ⟨rfl, Or.inl ⟨rfl, rfl, rfl⟩⟩
  case round =>
    obtain ⟨rfl, ⟨rfl, rfl, rfl⟩ | ⟨rfl, rfl, rfl⟩ | ⟨rfl, rfl, rfl⟩⟩ := hrel
    · have hz : ¬ (m1 : Int) < 0 := by omega
      go_wp2_with fail
      go_roundg 1
      case measure => omega
      case rel => exact ⟨rfl, Or.inr (Or.inl ⟨rfl, by go_num, by go_num⟩)⟩
    · have hz : ¬ (m1 : Int) + (m2 : Int) < 0 := by omega
      go_wp2_with fail
      go_roundg 0
      case measure => omega
      case rel => exact ⟨rfl, Or.inr (Or.inr ⟨rfl, by go_num, by go_num⟩)⟩
    · have hc := HG.out w (m1 + m2) (by omega) (by omega)
      rw [Int.natCast_add] at hc
      go_wp2_with (go_at_call 33; refine hc.mono ?_; rintro e w2 ⟨v, rfl, hO, hF⟩)
      obtain ⟨so, sc, rfl⟩ : ∃ so sc, v = .slice so 0 sc := own_slice (A := []) hO
      have HO : Hid _ := hO
      clear hO hc
      go_loopg [6, 27] 2 (fun gh vv iv wr => ∃ (A : List Nat), ((gh = 2 ∧ iv = .int .i64 0 ∧ A = []) ∨ (gh = 1 ∧ iv = .int .i64 1 ∧ A = s1) ∨ (gh = 0 ∧ iv = .int .i64 2 ∧ A = s1 ++ s2)) ∧ wr.ownsRow w.heap.size 3 1 vv A.length (nVals .i64 A) ∧ Fr noB w wr)
      case atStart => exact ⟨[], Or.inl ⟨rfl, rfl, rfl⟩, HO.out, hF⟩
      case round =>
        clear hF HO
        obtain ⟨A, ⟨rfl, rfl, rfl⟩ | ⟨rfl, rfl, rfl⟩ | ⟨rfl, rfl, rfl⟩, hO, hF⟩ := hrel
        · have hcc := (HD.out wr hF).1
          have hsrc := (HC.out wr hF).1
          obtain ⟨so, sc, rfl⟩ := own_slice hO
          have HO : Hid _ := hO
          have hsz := hF.size
          have hAl : ([] : List Nat).length ≤ 1048576 := by have := HM.out; simp
          clear hO
          go_wp2_with (at_builtin; refine wpList_append_src rfl (.tmp 31) (.tmp 32) 22 rfl w.heap.size 3 i0 (.int .i64 0) 8 Try.underlying22 hi hz0 hz1 hz2 rfl _ ([] : List Nat).length (nVals .i64 ([] : List Nat)) rfl HO.out ao1 m1 q1 rfl n1 (by omega) (nVals .i64 s1) (by simp; exact HM.out.1) hsrc (nVals_one _ _) (by unfold maxLen; omega) (by omega) hsz ?_)
          intro v' w1 hown1 hg1
          have hF1 : Fr noB w w1 := hF.grown hg1 (fun b hb' => Or.inr (own_base HO.out b hb'))
          have hO1 : w1.ownsRow w.heap.size 3 1 v' (s1).length (nVals .i64 (s1)) := by
            have hM := HM.out
            rw [← hM.1] at hown1; simpa [nVals] using hown1
          obtain ⟨so', sc', rfl⟩ : ∃ so sc, v' = .slice so (s1).length sc := own_slice hO1
          have HO1 : Hid _ := hO1
          clear hO1 hown1 hg1 HO
          go_wp2_with fail
          go_roundg 1
          case measure => omega
          case rel => exact ⟨_, Or.inr (Or.inl ⟨rfl, by go_num, rfl⟩), HO1.out, hF1⟩
        · have hcc := (HD.out wr hF).2
          have hsrc := (HC.out wr hF).2
          obtain ⟨so, sc, rfl⟩ := own_slice hO
          have HO : Hid _ := hO
          have hsz := hF.size
          have hAl : A.length ≤ 1048576 := by have := HM.out; omega
          clear hO
          go_wp2_with (at_builtin; refine wpList_append_src rfl (.tmp 31) (.tmp 32) 22 rfl w.heap.size 3 i0 (.int .i64 0) 8 Try.underlying22 hi hz0 hz1 hz2 rfl _ A.length (nVals .i64 A) rfl HO.out ao2 m2 q2 rfl n2 (by omega) (nVals .i64 s2) (by simp; exact HM.out.2) hsrc (nVals_one _ _) (by unfold maxLen; omega) (by omega) hsz ?_)
          intro v' w1 hown1 hg1
          have hF1 : Fr noB w w1 := hF.grown hg1 (fun b hb' => Or.inr (own_base HO.out b hb'))
          have hO1 : w1.ownsRow w.heap.size 3 1 v' (A ++ s2).length (nVals .i64 (A ++ s2)) := by
            have hM := HM.out
            rw [← hM.2] at hown1; rw [nVals_append, List.length_append]; exact hown1
          obtain ⟨so', sc', rfl⟩ : ∃ so sc, v' = .slice so (A ++ s2).length sc := own_slice hO1
          have HO1 : Hid _ := hO1
          clear hO1 hown1 hg1 HO
          go_wp2_with fail
          go_roundg 0
          case measure => omega
          case rel => exact ⟨_, Or.inr (Or.inr ⟨rfl, by go_num, rfl⟩), HO1.out, hF1⟩
        · obtain ⟨so, sc, rfl⟩ := own_slice hO
          have HO : Hid _ := hO
          clear hO
          go_wp2_with fail
          go_ret
          exact ⟨_, rfl, Sy.ofOwn HO.out (by have := HM.out; rw [List.length_append]; omega), own_base HO.out, hF⟩
#print axioms concat_any
end Go.Proofs.Ytcefochgpijfbaa
