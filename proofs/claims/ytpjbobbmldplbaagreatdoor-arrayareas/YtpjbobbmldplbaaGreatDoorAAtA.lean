/- The value at a place of an array that may be, its text in memory of its own: At of the code. -/
import Derived.Test.YtpjbobbmldplbaaGreatDoorK16
namespace Go.Proofs.YtpjbobbmldplbaaGreatDoor
open Go.RowKit Ieee Go.Shelf
attribute [local go_sem] run_store_float

set_option maxRecDepth 100000 in
set_option maxHeartbeats 400000 in
theorem pat_ok (r c row col : Int) (ao : Option Addr) (cap : Nat) (L : List Vv) (w : World) (hA : VsAt w ao L) (h1 : 1 ≤ r) (h2 : 1 ≤ c) (h3 : (L.length : Int) = r * c) (h4 : r * c ≤ 4096) (h5 : 0 ≤ row) (h6 : row < r) (h7 : 0 ≤ col) (h8 : col < c) (i : Nat) (hi : (i : Int) = row * c + col) (hiL : i < L.length) (v : Vv) (hv : L[i] = v) (hs : v.s.size ≤ 140737488355328) :
    Calls Tryz.prog 28 #[.agg #[.int .i64 r, .int .i64 c, .slice ao L.length cap], .int .i64 row, .int .i64 col] w fun e w' => e = .returned (.agg #[.int .i64 v.k, .float .f64 v.n, .string v.s, .bool v.y, .int .i64 v.e]) ∧ Fr noB w w' := by
  have HA : Hid (∀ W, Fr noB w W → Calls Tryz.prog 46 #[.agg #[.int .i64 r, .int .i64 c, .slice ao L.length cap], .int .i64 row, .int .i64 col] W fun e w' => e = .returned (.agg #[.int .i64 v.k, .float .f64 v.n, .string v.s, .bool v.y, .int .i64 v.e]) ∧ Fr noB W w') := fun W h => at_ok r c row col ao cap L W (hA.keep h) h1 h2 h3 h4 h5 h6 h7 h8 i hi hiL v hv
  have HO : ∀ W, _ := own_any v.k v.n v.s v.y v.e hs
  have hO : VAt ((w.alloc (.cells #[.int .i64 r, .int .i64 c, .slice ao L.length cap] 27 (0, 0))).alloc (.cells #[.int .i64 0, .float .f64 0, .string ⟨#[]⟩, .bool false, .int .i64 0] 37 (0, 0))) (w.heap.size + 1) 0 0 ⟨#[]⟩ false 0 := ⟨new1 _ _ _ (by simp)⟩
  have HF0 : Hid (Fr noB w ((w.alloc (.cells #[.int .i64 r, .int .i64 c, .slice ao L.length cap] 27 (0, 0))).alloc (.cells #[.int .i64 0, .float .f64 0, .string ⟨#[]⟩, .bool false, .int .i64 0] 37 (0, 0)))) := ((Fr.refl noB w).alloc _).alloc _
  have HB : Hid (∀ W, Fr noB ((w.alloc (.cells #[.int .i64 r, .int .i64 c, .slice ao L.length cap] 27 (0, 0))).alloc (.cells #[.int .i64 0, .float .f64 0, .string ⟨#[]⟩, .bool false, .int .i64 0] 37 (0, 0))) W → VAt W (w.heap.size + 1) 0 0 ⟨#[]⟩ false 0) := fun W h => hO.fr h id
  clear hA hv hi h3 h4 hs hO
  go_enter Tryz.func28, Tryz.ntmps28
  go_wp2_with (first
    | (go_at_call 46; refine (HA.out _ HF0.out).mono ?_; rintro e w1 ⟨rfl, hF1⟩)
    | (go_at_call 20; refine (HO _).mono ?_; rintro e w2 ⟨rfl, hF2⟩; have hO2 := HB.out _ (hF1.trans hF2))
    | (refine wpList_store_val rfl (.tmp 6) (.tmp 11) rfl (w.heap.size + 1) v.k v.n v.s v.y v.e rfl rfl hO2 ?_; intro W hW hFW))
  exact bodyPost_ret (vret Tryz.results28 _ _ _ rfl hW) rfl ⟨rfl, (HF0.out.trans (hF1.trans hF2)).new hFW (by omega)⟩
#print axioms pat_ok
end Go.Proofs.YtpjbobbmldplbaaGreatDoor
