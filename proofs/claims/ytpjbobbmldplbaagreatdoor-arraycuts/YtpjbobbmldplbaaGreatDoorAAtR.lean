/- The value at a place of an array that may be: the document's At. -/
import Derived.Test.YtpjbobbmldplbaaGreatDoorK17
namespace Go.Proofs.YtpjbobbmldplbaaGreatDoor
open Go.RowKit Ieee Go.Shelf
attribute [local go_sem] run_store_float

set_option maxRecDepth 100000 in
set_option maxHeartbeats 1000000 in
theorem rat_ok (r c row col : Int) (ao : Option Addr) (cap : Nat) (L : List Vv) (w : World) (hA : VsAt w ao L) (h1 : 1 ≤ r) (h2 : 1 ≤ c) (h3 : (L.length : Int) = r * c) (h4 : r * c ≤ 4096) (h5 : 0 ≤ row) (h6 : row < r) (h7 : 0 ≤ col) (h8 : col < c) (i : Nat) (hi : (i : Int) = row * c + col) (hiL : i < L.length) (v : Vv) (hv : L[i] = v) :
    Calls Tryz.prog 40 #[.agg #[.int .i64 r, .int .i64 c, .slice ao L.length cap], .int .i64 row, .int .i64 col] w fun e w' => e = .returned (.agg #[.int .i64 v.k, .float .f64 v.n, .string v.s, .bool v.y, .int .i64 v.e]) ∧ Fr noB w w' := by
  have e1 : (L.length : Int) % c = 0 := by rw [h3]; exact Int.mul_emod_left r c
  have e2 : (L.length : Int) / c = r := by rw [h3]; exact Int.mul_ediv_cancel r (by omega)
  have hc0 : ¬ c = 0 := by omega
  have hr : r ≤ 4096 := by
    have := Int.mul_le_mul_of_nonneg_left (show 1 ≤ c by omega) (show 0 ≤ r by omega)
    omega
  have hc : c ≤ 4096 := by
    have := Int.mul_le_mul_of_nonneg_right (show 1 ≤ r by omega) (show 0 ≤ c by omega)
    omega
  obtain ⟨q, hq⟩ : ∃ q, row * c = q := ⟨_, rfl⟩
  have hq0 : 0 ≤ q := by rw [← hq]; exact Int.mul_nonneg h5 (by omega)
  have hq1 : q + col < 4096 := by rw [hq] at hi; omega
  obtain ⟨b, off, rfl, hb, c0, c1, c2, c3, c4⟩ := hA.get i hiL
  rw [hv] at c0 c1 c2 c3 c4
  have HG : Hid (∀ W, Fr noB w W → W.cell? ⟨b, off + i * 5, none⟩ = some (.int .i64 v.k) ∧ W.cell? ⟨b, off + i * 5 + 1, none⟩ = some (.float .f64 v.n) ∧ W.cell? ⟨b, off + i * 5 + 2, none⟩ = some (.string v.s) ∧ W.cell? ⟨b, off + i * 5 + 3, none⟩ = some (.bool v.y) ∧ W.cell? ⟨b, off + i * 5 + 4, none⟩ = some (.int .i64 v.e)) := fun W h => ⟨(h.cell (a := ⟨b, off + i * 5, none⟩) hb id).trans c0, (h.cell (a := ⟨b, off + i * 5 + 1, none⟩) hb id).trans c1, (h.cell (a := ⟨b, off + i * 5 + 2, none⟩) hb id).trans c2, (h.cell (a := ⟨b, off + i * 5 + 3, none⟩) hb id).trans c3, (h.cell (a := ⟨b, off + i * 5 + 4, none⟩) hb id).trans c4⟩
  clear c0 c1 c2 c3 c4 hb
  have hA0 : AAt ((w.alloc (.cells #[.int .i64 r, .int .i64 c, .slice (some ⟨b, off, none⟩) L.length cap] 27 (0, 0))).alloc (.cells #[.int .i64 0, .float .f64 0, .string ⟨#[]⟩, .bool false, .int .i64 0] 37 (0, 0))) w.heap.size r c (some ⟨b, off, none⟩) L.length cap := ⟨old1 (new1 _ _ _ rfl)⟩
  have hO : VAt ((w.alloc (.cells #[.int .i64 r, .int .i64 c, .slice (some ⟨b, off, none⟩) L.length cap] 27 (0, 0))).alloc (.cells #[.int .i64 0, .float .f64 0, .string ⟨#[]⟩, .bool false, .int .i64 0] 37 (0, 0))) (w.heap.size + 1) 0 0 ⟨#[]⟩ false 0 := ⟨new1 _ _ _ (by simp)⟩
  have HF0 : Hid (Fr noB w ((w.alloc (.cells #[.int .i64 r, .int .i64 c, .slice (some ⟨b, off, none⟩) L.length cap] 27 (0, 0))).alloc (.cells #[.int .i64 0, .float .f64 0, .string ⟨#[]⟩, .bool false, .int .i64 0] 37 (0, 0)))) := ((Fr.refl noB w).alloc _).alloc _
  have HB : Hid (∀ W, Fr noB ((w.alloc (.cells #[.int .i64 r, .int .i64 c, .slice (some ⟨b, off, none⟩) L.length cap] 27 (0, 0))).alloc (.cells #[.int .i64 0, .float .f64 0, .string ⟨#[]⟩, .bool false, .int .i64 0] 37 (0, 0))) W → AAt W w.heap.size r c (some ⟨b, off, none⟩) L.length cap ∧ VAt W (w.heap.size + 1) 0 0 ⟨#[]⟩ false 0) := fun W h => ⟨hA0.fr h id, hO.fr h id⟩
  obtain ⟨n, hn⟩ : ∃ n, L.length = n := ⟨_, rfl⟩
  have hn4 : n ≤ 4096 := by omega
  rw [hn] at e1 e2 HB HF0 hiL ⊢
  clear hA0 hO
  rw [hq] at hi
  obtain rfl : i = (q + col).toNat := by omega
  clear hA hv hn h3
  by_cases a1 : r = 1
  · subst a1
    obtain rfl : row = 0 := by omega
    obtain rfl : q = 0 := by omega
    by_cases a2 : c = 1
    · subst a2
      obtain rfl : col = 0 := by omega
      rw [show ((0 : Int) + 0).toNat = 0 from rfl, Nat.zero_mul, Nat.add_zero] at HG
      clear hq
      go_enter Tryz.func40, Tryz.ntmps40
      go_wp2_with fail
      generalize hW0 : (w.alloc _).alloc _ = W0 at HB HF0 ⊢
      have gA := (HB.out _ (Fr.refl noB W0)).1
      have g0 := gA.d0; have g1 := gA.d1; have g2 := gA.d2
      obtain ⟨c0, c1, c2, c3, c4⟩ := HG.out _ HF0.out
      obtain rfl : n = 1 := by omega
      have p6 : (IntKind.i64.wrap ((1 : Nat) : Int) != 1) = false := by rw [IntKind.wrap_i64]; decide
      go_quiet (fail)
      go_wp2_with (first
        | (refine wpList_store_val rfl (.tmp 6) (.tmp 61) rfl (w.heap.size + 1) v.k v.n v.s v.y v.e rfl rfl (HB.out _ ((Fr.refl noB W0).drewN _)).2 ?_; intro W hW hFW))

      exact bodyPost_ret (vret Tryz.results40 _ _ _ rfl hW) rfl ⟨rfl, (HF0.out.drewN _).new hFW (by omega)⟩
    have a2b : (c == 1) = false := by simpa using a2
    rw [Int.zero_add] at HG
    clear hq
    go_enter Tryz.func40, Tryz.ntmps40
    go_wp2_with fail
    generalize hW0 : (w.alloc _).alloc _ = W0 at HB HF0 ⊢
    have gA := (HB.out _ (Fr.refl noB W0)).1
    have g0 := gA.d0; have g1 := gA.d1; have g2 := gA.d2
    obtain ⟨c0, c1, c2, c3, c4⟩ := HG.out _ HF0.out
    have p3 : decide (col < 0) = false := by simp; omega
    have p4 : decide (c ≤ col) = false := by simp; omega
    go_quiet (fail)
    go_wp2_with (first
      | (refine wpList_store_val rfl (.tmp 6) (.tmp 61) rfl (w.heap.size + 1) v.k v.n v.s v.y v.e rfl rfl (HB.out _ ((Fr.refl noB W0).drewN _)).2 ?_; intro W hW hFW))

    exact bodyPost_ret (vret Tryz.results40 _ _ _ rfl hW) rfl ⟨rfl, (HF0.out.drewN _).new hFW (by omega)⟩
  have a1b : (r == 1) = false := by simpa using a1
  by_cases a2 : c = 1
  · subst a2
    obtain rfl : col = 0 := by omega
    obtain rfl : row = q := by omega
    rw [Int.add_zero] at HG
    clear hq
    go_enter Tryz.func40, Tryz.ntmps40
    go_wp2_with fail
    generalize hW0 : (w.alloc _).alloc _ = W0 at HB HF0 ⊢
    have gA := (HB.out _ (Fr.refl noB W0)).1
    have g0 := gA.d0; have g1 := gA.d1; have g2 := gA.d2
    obtain ⟨c0, c1, c2, c3, c4⟩ := HG.out _ HF0.out
    have p1 : decide (row < 0) = false := by simp; omega
    have p2 : decide (r ≤ row) = false := by simp; omega
    have p5 : IntKind.i64.wrap (n : Int) = r := by rw [IntKind.wrap_i64]; omega
    have p6 : (IntKind.i64.wrap (n : Int) != r) = false := by rw [p5]; simp
    go_quiet (fail)
    go_wp2_with (first
      | (refine wpList_store_val rfl (.tmp 6) (.tmp 61) rfl (w.heap.size + 1) v.k v.n v.s v.y v.e rfl rfl (HB.out _ ((Fr.refl noB W0).drewN _)).2 ?_; intro W hW hFW))

    exact bodyPost_ret (vret Tryz.results40 _ _ _ rfl hW) rfl ⟨rfl, (HF0.out.drewN _).new hFW (by omega)⟩
  have a2b : (c == 1) = false := by simpa using a2
  go_enter Tryz.func40, Tryz.ntmps40
  go_wp2_with fail
  generalize hW0 : (w.alloc _).alloc _ = W0 at HB HF0 ⊢
  have gA := (HB.out _ (Fr.refl noB W0)).1
  have g0 := gA.d0; have g1 := gA.d1; have g2 := gA.d2
  obtain ⟨c0, c1, c2, c3, c4⟩ := HG.out _ HF0.out
  have p1 : decide (row < 0) = false := by simp; omega
  have p2 : decide (r ≤ row) = false := by simp; omega
  have p3 : decide (col < 0) = false := by simp; omega
  have p4 : decide (c ≤ col) = false := by simp; omega
  have p5 : IntKind.i64.wrap r = r := by rw [IntKind.wrap_i64]; omega
  have p6 : (IntKind.i64.wrap r != r) = false := by rw [p5]; simp
  go_quiet (fail)
  go_wp2_with (first
    | (refine wpList_store_val rfl (.tmp 6) (.tmp 61) rfl (w.heap.size + 1) v.k v.n v.s v.y v.e rfl rfl (HB.out _ ((Fr.refl noB W0).drewN _)).2 ?_; intro W hW hFW))

  exact bodyPost_ret (vret Tryz.results40 _ _ _ rfl hW) rfl ⟨rfl, (HF0.out.drewN _).new hFW (by omega)⟩
#print axioms rat_ok
end Go.Proofs.YtpjbobbmldplbaaGreatDoor
