/- Proved: for every n, v and b the law BitioNone answers true: readers and writers that no call made (nil, or zero values) answer zero values and ErrMade. No condition. -/
import Derived.Test.YtokgolmioonbfaaRows
import Derived.Test.YtokgolmioonbfaaLive
import Derived.Test.YtokgolmioonbfaaNoneW
import Derived.ProofKit
import Derived.OpenShut
import Derived.ChangeOld
import Derived.Deep.CutRange
namespace Go.Proofs.Ytokgolmioonbfaa.bitioNone
open Go.ChangeShapes Go.WideShapes Go.ChangeAt Go.RowKit

theorem own : ownKnob Try.prog.godebug = none := by kernel_rfl
theorem laidOut : laidOutB Try.prog = true := by kernel_rfl

/-- The two pointers lie at block a: nil, and one to a struct that no call made. -/
def Two (w : World) (a : Nat) : Prop := w.cell? ⟨a, 0, none⟩ = some (.pointer none) ∧ ∃ b, w.cell? ⟨a, 1, none⟩ = some (.pointer (some ⟨b, 0, none⟩)) ∧ w.cell? ⟨b, 0, none⟩ = some (.bool false)

theorem Two.get {w : World} {a : Nat} (h : Two w a) (k : Nat) (hk : k < 2) : ∃ p, w.cell? ⟨a, k, none⟩ = some (.pointer p) ∧ NotMade w p := by
  obtain ⟨h0, b, h1, h2⟩ := h
  match k, hk with
  | 0, _ => exact ⟨_, h0, Or.inl rfl⟩
  | 1, _ => exact ⟨_, h1, Or.inr ⟨b, rfl, h2⟩⟩

theorem two_new (w : World) (c : Array Value) (t u : TypeId) (hc : c[0]? = some (.bool false)) :
    Two ((w.alloc (.cells c t (0, 0))).alloc (.cells #[.pointer none, .pointer (some ⟨w.heap.size, 0, none⟩)] u (0, 0))) (w.heap.size + 1) := by
  have h1 := heap_alloc_new (w.alloc (.cells c t (0, 0))) (.cells #[.pointer none, .pointer (some ⟨w.heap.size, 0, none⟩)] u (0, 0))
  have h2 := heap_alloc_new w (.cells c t (0, 0))
  have e : (w.alloc (.cells c t (0, 0))).heap.size = w.heap.size + 1 := by simp
  rw [e] at h1
  refine ⟨cellOf h1 rfl, w.heap.size, cellOf h1 rfl, ?_⟩
  refine cellOf ((Below.heap_alloc _ _ _ (by simp)).trans h2) hc

set_option maxRecDepth 100000 in
set_option maxHeartbeats 1600000 in
theorem walk (n v : Int) (b : Value) (w : World) :
    Calls Try.prog 8 #[.int .i64 n, .int .u32 v, b] w fun e w' => e = .returned (.bool true) ∧ Below w.heap.size w w' := by
  go_enter Try.func8, Try.ntmps8
  go_wp2_with fail
  have hTwo := two_new w #[Value.bool false, Value.slice none 0 0, Value.int IntKind.i64 0] 53 24 rfl
  have hF : Fr noB w _ := ((Fr.refl noB w).alloc (.cells #[Value.bool false, Value.slice none 0 0, Value.int IntKind.i64 0] 53 (0, 0))).alloc (.cells #[Value.pointer none, Value.pointer (some ⟨w.heap.size, 0, none⟩)] 24 (0, 0))
  obtain ⟨A, hA⟩ : ∃ A, A = w.heap.size + 1 := ⟨_, rfl⟩
  rw [← hA] at hTwo ⊢
  obtain ⟨W, hW⟩ : ∃ W, W = ((w.alloc (.cells #[Value.bool false, Value.slice none 0 0, Value.int IntKind.i64 0] 53 (0, 0))).alloc (.cells #[Value.pointer none, Value.pointer (some ⟨w.heap.size, 0, none⟩)] 24 (0, 0))) := ⟨_, rfl⟩
  rw [← hW] at hTwo hF ⊢
  clear hW hA
  go_loop [21] (fun i => ∃ k : Nat, k ≤ 2 ∧ i = .int .i64 (k : Int)) (fun i => 2 - (intOf i).toNat)
  case atStart => exact ⟨0, by omega, rfl⟩
  case round =>
    obtain ⟨k, hk, rfl⟩ := hrel
    by_cases hk2 : k < 2
    · obtain ⟨p, hp, hN⟩ := hTwo.get k hk2
      go_wp2_with (first | (go_at_call 11; refine (rno_bits _ _ _ hN).mono ?_; rintro e w' ⟨rfl, rfl⟩) | (go_at_call 13; refine (rno_peek _ _ _ hN).mono ?_; rintro e w' ⟨rfl, rfl⟩) | (go_at_call 17; refine (rno_bytes _ _ _ hN).mono ?_; rintro e w' ⟨rfl, rfl⟩) | (go_at_call 15; refine (rno_align _ _ hN).mono ?_; rintro e w' ⟨rfl, rfl⟩) | (go_at_call 20; refine (rno_left _ _ hN).mono ?_; rintro e w' ⟨rfl, rfl⟩) | (go_at_call 22; refine (rno_used _ _ hN).mono ?_; rintro e w' ⟨rfl, rfl⟩))
      go_round
      case rel => exact ⟨k + 1, by omega, by go_num⟩
      case measure => simp [intOf]; omega
    · go_wp2_with fail
      have hTwo2 := two_new W #[Value.bool false, Value.slice none 0 0, Value.int IntKind.i64 0] 56 40 rfl
      have hF2 : Fr noB w _ := (hF.alloc (.cells #[Value.bool false, Value.slice none 0 0, Value.int IntKind.i64 0] 56 (0, 0))).alloc (.cells #[Value.pointer none, Value.pointer (some ⟨W.heap.size, 0, none⟩)] 40 (0, 0))
      obtain ⟨A2, hA2⟩ : ∃ A, A = W.heap.size + 1 := ⟨_, rfl⟩
      rw [← hA2] at hTwo2 ⊢
      obtain ⟨W2, hW2⟩ : ∃ W2, W2 = ((W.alloc (.cells #[Value.bool false, Value.slice none 0 0, Value.int IntKind.i64 0] 56 (0, 0))).alloc (.cells #[Value.pointer none, Value.pointer (some ⟨W.heap.size, 0, none⟩)] 40 (0, 0))) := ⟨_, rfl⟩
      rw [← hW2] at hTwo2 hF2 ⊢
      clear hW2 hA2
      go_loop [83] (fun i => ∃ k : Nat, k ≤ 2 ∧ i = .int .i64 (k : Int)) (fun i => 2 - (intOf i).toNat)
      case atStart => exact ⟨0, by omega, rfl⟩
      case round =>
        obtain ⟨j, hj, rfl⟩ := hrel
        by_cases hj2 : j < 2
        · obtain ⟨p, hp, hN⟩ := hTwo2.get j hj2
          go_wp2_with (first | (go_at_call 27; refine (wno_align _ _ hN).mono ?_; rintro e w' ⟨rfl, rfl⟩) | (go_at_call 25; refine (wno_bits _ _ _ _ hN).mono ?_; rintro e w' ⟨rfl, rfl⟩) | (go_at_call 29; refine (wno_bytes _ _ _ hN).mono ?_; rintro e w' ⟨rfl, rfl⟩) | (go_at_call 33; refine (wno_len _ _ hN).mono ?_; rintro e w' ⟨rfl, rfl⟩) | (go_at_call 31; refine (wno_out _ _ hN).mono ?_; rintro e w' ⟨rfl, rfl⟩))
          go_round
          case rel => exact ⟨j + 1, by omega, by go_num⟩
          case measure => simp [intOf]; omega
        · go_wp2_with fail
          refine (live_any _).mono ?_
          rintro e w1 ⟨rfl, hF3⟩
          go_wp2
          go_ret
          exact ⟨rfl, (hF2.then hF3 (fun i hi => hi.elim)).below (Nat.le_refl _) (fun k hk => hk.elim)⟩

set_option maxRecDepth 100000 in
theorem lifted (os : Os) (started : os.Started) (H : Type) (enc : TypeId × Value → H) :
    ReturnsInHanded {} Try.checked os 8 .any (Rows.bitioNoneSpec.pre6 enc Try.prog Try.f8 Rows.bitioNoneRow.domain false) (Rows.bitioNoneSpec.post enc Try.prog Try.f8 false true false false) := by
  refine returnsInHanded_of_change (C := Try.checked) own started (by kernel_rfl) Try.func8
    (ChangeSpec.witness6 (enc := enc) (C := Try.checked) false ⟨#[], #[.int .i64 0, .int .u32 0, .slice none 0 0], []⟩ 8 (by kernel_rfl) (by kernel_rfl) (by kernel_rfl) (by kernel_rfl)) ?_
  intro W base args ds gs before hval0 hW hcnd _
  have hval : ∀ (j : Nat) t v, Try.f8.params[j]? = some t → args[j]? = some v → Value.okWide Try.prog W .any base t v := hval0
  have hW' := hW
  obtain ⟨p, q, hA0, hV, rfl, hfz, hnd⟩ := hW
  have hA : DataW.TrodAll enc Try.prog W 0 (fun _ => true) true Try.f8.params.toList args.toList ds p := hA0
  rw [Try.params8] at hA hval
  obtain ⟨v0, vs0, d0, ds0, p0, q0, hargs, rfl, rfl, h0, r0⟩ := trodAll_cons hA
  obtain ⟨v1, vs1, d1, ds1, p1, q1, rfl, rfl, rfl, h1, r1⟩ := trodAll_cons r0
  obtain ⟨v2, vs2, d2, ds2, p2, q2, rfl, rfl, rfl, h2, r2⟩ := trodAll_cons r1
  obtain ⟨rfl, rfl, rfl⟩ := trodAll_nil r2
  obtain rfl : args = #[v0, v1, v2] := by cases args; simp_all
  obtain ⟨rfl, rfl⟩ := trodVars_none hV
  obtain ⟨a0, rfl, rfl, rfl, w0⟩ := open_int Try.underlying3 (hval 0 3 v0 rfl rfl) h0
  obtain ⟨a1, rfl, rfl, rfl, w1⟩ := open_int Try.underlying29 (hval 1 29 v1 rfl rfl) h1
  obtain ⟨a2, len2, cap2, rfl⟩ := okWide_slice Try.underlying22 (hval 2 22 v2 rfl rfl)
  have k2 := h2
  have lt2 : ∀ x ∈ p2, x.block < W.heap.size := by obtain ⟨m, hm⟩ := k2; exact DataW.trod_lt m _ _ _ hm
  clear hA0 hval0
  refine (walk a0 a1 (.slice a2 len2 cap2) W).mono fun e W' ⟨he, bel⟩ => ?_
  subst he
  exact ⟨_, rfl, _, _, _, [], _, [], hW', trodAll_mk1 (shut_bool Try.underlying4 _), (trodAll_cons_mk (shut_int Try.underlying3 w0) (trodAll_cons_mk (shut_int Try.underlying29 w1) (trodAll_cons_mk (Below.trod laidOut (by kernel_rfl) (of_decide_eq_true (by kernel_rfl)) k2 bel lt2) trodAll_mk0))), rfl, bel.frame _, fun h => by cases h⟩

theorem over : Rows.bitioNoneRow.holds Try.pinned (OpenSpec.ofChange Rows.bitioNoneSpec) :=
  OpenClaim.holds_of_wide 8 Try.f8 rfl rfl rfl rfl rfl rfl rfl ⟨rfl, rfl, rfl, rfl, rfl⟩ rfl rfl rfl rfl rfl (by kernel_rfl) Try.func8 (by kernel_rfl)
    (of_decide_eq_true (by kernel_rfl)) (by unfold Func.isWrapper; first | (rw [if_pos (by decide +kernel)]; kernel_rfl) | (rw [if_neg (by decide +kernel)]; exact ⟨rfl, rfl⟩))
    (fun os started H enc _ => lifted os started H enc)

end Go.Proofs.Ytokgolmioonbfaa.bitioNone
namespace Go.Proofs.Ytokgolmioonbfaa
theorem none_holds : Rows.BitioNoneSaid := bitioNone.over
#print axioms none_holds
end Go.Proofs.Ytokgolmioonbfaa
