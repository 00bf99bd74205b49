/- The walk of the law HuffNone. -/
import Derived.Test.YtdggaphhamaelabNoneD
import Derived.Test.YtdggaphhamaelabSame
import Derived.Test.YtdggaphhamaelabLater
namespace Go.Proofs.Ytdggaphhamaelab
open Go.RowKit

/-- The two pointers lie at block a: nil, and one to a struct that no call made. -/
def Two (w : World) (a : Nat) : Prop := w.cell? ⟨a, 0, none⟩ = some (.pointer none) ∧ ∃ b, w.cell? ⟨a, 1, none⟩ = some (.pointer (some ⟨b, 0, none⟩)) ∧ w.cell? ⟨b, 0, none⟩ = some (.bool false)

theorem Two.get {w : World} {a : Nat} (h : Two w a) (k : Nat) (hk : k < 2) : ∃ p, w.cell? ⟨a, k, none⟩ = some (.pointer p) ∧ NotMade w p := by
  obtain ⟨h0, b, h1, h2⟩ := h
  match k, hk with
  | 0, _ => exact ⟨_, h0, Or.inl rfl⟩
  | 1, _ => exact ⟨_, h1, Or.inr ⟨b, rfl, h2⟩⟩
theorem Two.keep {w w' : World} {a : Nat} (h : Two w a) (hF : Fr noB w w') : Two w' a := by
  obtain ⟨h0, b, h1, h2⟩ := h
  have ha := lt_of_cellAt h0
  have hb := lt_of_cellAt h2
  exact ⟨(hF.cell (a := ⟨a, 0, none⟩) ha id).trans h0, b, (hF.cell (a := ⟨a, 1, none⟩) ha id).trans h1, (hF.cell (a := ⟨b, 0, none⟩) hb id).trans h2⟩
theorem NotMade.keep {w w' : World} {p : Option Addr} (h : NotMade w p) (hF : Fr noB w w') : NotMade w' p := by
  rcases h with rfl | ⟨b, rfl, hc⟩
  · exact Or.inl rfl
  · exact Or.inr ⟨b, rfl, (hF.cell (a := ⟨b, 0, none⟩) (lt_of_cellAt hc) id).trans hc⟩
theorem two_new (w : World) (c : Array Value) (t u : TypeId) (hc : c[0]? = some (.bool false)) :
    Two ((w.alloc (.cells c t (0, 0))).alloc (.cells #[.pointer none, .pointer (some ⟨w.heap.size, 0, none⟩)] u (0, 0))) (w.heap.size + 1) := by
  have h1 := heap_alloc_new (w.alloc (.cells c t (0, 0))) (.cells #[.pointer none, .pointer (some ⟨w.heap.size, 0, none⟩)] u (0, 0))
  have h2 := heap_alloc_new w (.cells c t (0, 0))
  have e : (w.alloc (.cells c t (0, 0))).heap.size = w.heap.size + 1 := by simp
  rw [e] at h1
  refine ⟨cellOf h1 rfl, w.heap.size, cellOf h1 rfl, ?_⟩
  refine cellOf ((Below.heap_alloc _ _ _ (by simp)).trans h2) hc

set_option maxRecDepth 100000 in
set_option maxHeartbeats 3200000 in
theorem none_walk (bv : Value) (B : List Nat) (w : World) (hbv : Bs w bv B) (hl : B.length ≤ 140737488355328) :
    Calls Try.prog 5 #[bv] w fun e w' => e = .returned (.bool true) ∧ Below w.heap.size w w' := by
  have HR := fun w1 (hF : Fr noB w w1) => newReader_any bv B w1 (hbv.keep hF) hl
  obtain ⟨bo, bcap, rfl, b1, b2, b4, b3⟩ := hbv
  clear b3
  go_enter Try.func5, Try.ntmps5
  go_wp2_with fail
  refine (begun_any _).mono ?_
  rintro e w1 ⟨rfl, hF1⟩
  go_wp2_with fail
  refine (newDec_good _ [1, 1] _ (ns_alloc w1 3 .i64 [1, 1] (by decide)) code_11).mono ?_
  rintro e w2 ⟨db, sb, rfl, g1, g2, g3, hD, hF2⟩
  have hF : Fr noB w w2 := (hF1.alloc _).trans hF2
  have hmade := hD.dec.made
  clear hF1 hF2 hD g1 g2 g3
  go_wp2_with fail
  have hTwo := two_new w2 #[Value.bool false, Value.int IntKind.i64 0, Value.int IntKind.i64 0, Value.int IntKind.i64 0, Value.int IntKind.i64 0, Value.int IntKind.i64 0, Value.int IntKind.i64 0, Value.int IntKind.i64 0, Value.int IntKind.i64 0, Value.int IntKind.i64 0, Value.int IntKind.i64 0, Value.int IntKind.i64 0, Value.int IntKind.i64 0, Value.int IntKind.i64 0, Value.int IntKind.i64 0, Value.int IntKind.i64 0, Value.int IntKind.i64 0, Value.int IntKind.i64 0, Value.slice none 0 0] 47 32 rfl
  have hF3 := ((Fr.refl noB w2).alloc (.cells #[Value.bool false, Value.int IntKind.i64 0, Value.int IntKind.i64 0, Value.int IntKind.i64 0, Value.int IntKind.i64 0, Value.int IntKind.i64 0, Value.int IntKind.i64 0, Value.int IntKind.i64 0, Value.int IntKind.i64 0, Value.int IntKind.i64 0, Value.int IntKind.i64 0, Value.int IntKind.i64 0, Value.int IntKind.i64 0, Value.int IntKind.i64 0, Value.int IntKind.i64 0, Value.int IntKind.i64 0, Value.int IntKind.i64 0, Value.int IntKind.i64 0, Value.slice none 0 0] 47 (0, 0))).alloc (.cells #[Value.pointer none, Value.pointer (some ⟨w2.heap.size, 0, none⟩)] 32 (0, 0))
  obtain ⟨A, hA⟩ : ∃ A, A = w2.heap.size + 1 := ⟨_, rfl⟩
  rw [← hA] at hTwo ⊢
  obtain ⟨W, hW⟩ : ∃ W, W = ((w2.alloc (.cells #[Value.bool false, Value.int IntKind.i64 0, Value.int IntKind.i64 0, Value.int IntKind.i64 0, Value.int IntKind.i64 0, Value.int IntKind.i64 0, Value.int IntKind.i64 0, Value.int IntKind.i64 0, Value.int IntKind.i64 0, Value.int IntKind.i64 0, Value.int IntKind.i64 0, Value.int IntKind.i64 0, Value.int IntKind.i64 0, Value.int IntKind.i64 0, Value.int IntKind.i64 0, Value.int IntKind.i64 0, Value.int IntKind.i64 0, Value.int IntKind.i64 0, Value.slice none 0 0] 47 (0, 0))).alloc (.cells #[Value.pointer none, Value.pointer (some ⟨w2.heap.size, 0, none⟩)] 32 (0, 0))) := ⟨_, rfl⟩
  rw [← hW] at hTwo hF3 ⊢
  have hmW : W.cell? ⟨db, 0, none⟩ = some (.bool true) := (hF3.cell (a := ⟨db, 0, none⟩) (lt_of_cellAt hmade) id).trans hmade
  have hFW := hF.trans hF3
  clear hW hA hF hF3 hmade
  go_loopw [26] (fun i wr => ∃ k : Nat, k ≤ 2 ∧ i = .int .i64 (k : Int) ∧ Fr noB W wr) (fun i _ => 2 - (intOf i).toNat)
  case atStart => exact ⟨0, by omega, rfl, Fr.refl _ _⟩
  case round =>
    obtain ⟨k, hk, rfl, hFr⟩ := hrel
    by_cases hk2 : k < 2
    · obtain ⟨p, hp, hN⟩ := (hTwo.keep hFr).get k hk2
      go_wp2_with fail
      refine (HR _ (hFW.trans hFr)).mono ?_
      rintro e w3 ⟨rb, g, rfl, _, _, _, _, _, hF3⟩
      go_wp2_with fail
      refine (dno_read p _ w3 (hN.keep hF3)).mono ?_
      rintro e w4 ⟨rfl, rfl⟩
      go_wp2_with fail
      go_roundw
      case rel => exact ⟨k + 1, by omega, by go_num, hFr.trans hF3⟩
      case measure => simp [intOf]; omega
    · have hmr : wr.cell? ⟨db, 0, none⟩ = some (.bool true) := (hFr.cell (a := ⟨db, 0, none⟩) (lt_of_cellAt hmW) id).trans hmW
      have hF := hFW.trans hFr
      clear hTwo hFr hFW hmW HR
      go_wp2_with fail
      have hTwo := two_new wr #[Value.bool false, Value.slice none 0 0, Value.int IntKind.i64 0] 50 36 rfl
      have hF3 := ((Fr.refl noB wr).alloc (.cells #[Value.bool false, Value.slice none 0 0, Value.int IntKind.i64 0] 50 (0, 0))).alloc (.cells #[Value.pointer none, Value.pointer (some ⟨wr.heap.size, 0, none⟩)] 36 (0, 0))
      obtain ⟨A2, hA2⟩ : ∃ A, A = wr.heap.size + 1 := ⟨_, rfl⟩
      rw [← hA2] at hTwo ⊢
      obtain ⟨W2, hW2⟩ : ∃ W, W = ((wr.alloc (.cells #[Value.bool false, Value.slice none 0 0, Value.int IntKind.i64 0] 50 (0, 0))).alloc (.cells #[Value.pointer none, Value.pointer (some ⟨wr.heap.size, 0, none⟩)] 36 (0, 0))) := ⟨_, rfl⟩
      rw [← hW2] at hTwo hF3 ⊢
      have hmW2 : W2.cell? ⟨db, 0, none⟩ = some (.bool true) := (hF3.cell (a := ⟨db, 0, none⟩) (lt_of_cellAt hmr) id).trans hmr
      have hFW2 := hF.trans hF3
      clear hW2 hA2 hF hF3 hmr
      go_loop [48] (fun i => ∃ k : Nat, k ≤ 2 ∧ i = .int .i64 (k : Int)) (fun i => 2 - (intOf i).toNat)
      case atStart => exact ⟨0, by omega, rfl⟩
      case round =>
        obtain ⟨j, hj, rfl⟩ := hrel
        by_cases hj2 : j < 2
        · obtain ⟨p, hp, hN⟩ := hTwo.get j hj2
          go_wp2_with fail
          refine (rno_read db p W2 hmW2 hN).mono ?_
          rintro e w4 ⟨rfl, rfl⟩
          go_wp2_with fail
          go_round
          case rel => exact ⟨j + 1, by omega, by go_num⟩
          case measure => simp [intOf]; omega
        · clear hTwo
          go_wp2_with fail
          have hTwo := two_new W2 #[Value.bool false, Value.slice none 0 0, Value.int IntKind.i64 0] 54 52 rfl
          have hF3 := ((Fr.refl noB W2).alloc (.cells #[Value.bool false, Value.slice none 0 0, Value.int IntKind.i64 0] 54 (0, 0))).alloc (.cells #[Value.pointer none, Value.pointer (some ⟨W2.heap.size, 0, none⟩)] 52 (0, 0))
          obtain ⟨A3, hA3⟩ : ∃ A, A = W2.heap.size + 1 := ⟨_, rfl⟩
          rw [← hA3] at hTwo ⊢
          obtain ⟨W3, hW3⟩ : ∃ W, W = ((W2.alloc (.cells #[Value.bool false, Value.slice none 0 0, Value.int IntKind.i64 0] 54 (0, 0))).alloc (.cells #[Value.pointer none, Value.pointer (some ⟨W2.heap.size, 0, none⟩)] 52 (0, 0))) := ⟨_, rfl⟩
          rw [← hW3] at hTwo hF3 ⊢
          have hFW3 := hFW2.trans hF3
          clear hW3 hA3 hF3 hFW2 hmW2
          go_loopw [69] (fun i wx => ∃ k : Nat, k ≤ 2 ∧ i = .int .i64 (k : Int) ∧ Fr noB W3 wx) (fun i _ => 2 - (intOf i).toNat)
          case atStart => exact ⟨0, by omega, rfl, Fr.refl _ _⟩
          case round =>
            obtain ⟨q, hq, rfl, hFr⟩ := hrel
            by_cases hq2 : q < 2
            · obtain ⟨p, hp, hN⟩ := (hTwo.keep hFr).get q hq2
              go_wp2_with fail
              refine (wno_put p _ _ _ _ (hN.keep (((Fr.refl noB _).alloc _).alloc _))).mono ?_
              rintro e w4 ⟨rfl, rfl⟩
              go_wp2_with fail
              go_roundw
              case rel => exact ⟨q + 1, by omega, by go_num, (hFr.alloc _).alloc _⟩
              case measure => simp [intOf]; omega
            · go_wp2_with fail
              go_ret
              exact ⟨rfl, (hFW3.trans hFr).below (Nat.le_refl _) (fun k hk => hk.elim)⟩
#print axioms none_walk
end Go.Proofs.Ytdggaphhamaelab
