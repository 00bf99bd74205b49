/- Copies of values, arrays of one value. -/
import Derived.Test.YtpjbobbmldplbaaGreatDoorAVal
import Derived.Test.YtpjbobbmldplbaaGreatDoorK01
import Derived.Test.YtpjbobbmldplbaaGreatDoorACln
namespace Go.Proofs.YtpjbobbmldplbaaGreatDoor
open Go.RowKit Ieee Go.Shelf
attribute [local go_sem] run_store_float

set_option maxRecDepth 100000 in
set_option maxHeartbeats 1000000 in
theorem own_any (k : Int) (n : Nat) (s : ByteArray) (y : Bool) (e : Int) (hs : s.size ≤ 140737488355328) (w : World) :
    Calls Tryz.prog 20 #[(.agg #[.int .i64 k, .float .f64 n, .string s, .bool y, .int .i64 e])] w fun e' w' => e' = .returned (.agg #[.int .i64 k, .float .f64 n, .string s, .bool y, .int .i64 e]) ∧ Fr noB w w' := by
  have HC : ∀ W, _ := fun W => clone_any s W hs
  have hX : VAt ((w.alloc (.cells #[.int .i64 k, .float .f64 n, .string s, .bool y, .int .i64 e] 37 (0, 0))).alloc (.cells #[.int .i64 0, .float .f64 0, .string ⟨#[]⟩, .bool false, .int .i64 0] 37 (0, 0))) w.heap.size k n s y e := ⟨old1 (new1 _ _ _ rfl)⟩
  have hO : VAt ((w.alloc (.cells #[.int .i64 k, .float .f64 n, .string s, .bool y, .int .i64 e] 37 (0, 0))).alloc (.cells #[.int .i64 0, .float .f64 0, .string ⟨#[]⟩, .bool false, .int .i64 0] 37 (0, 0))) (w.heap.size + 1) 0 0 ⟨#[]⟩ false 0 := ⟨new1 _ _ _ (by simp)⟩
  have hF : Fr noB w ((w.alloc (.cells #[.int .i64 k, .float .f64 n, .string s, .bool y, .int .i64 e] 37 (0, 0))).alloc (.cells #[.int .i64 0, .float .f64 0, .string ⟨#[]⟩, .bool false, .int .i64 0] 37 (0, 0))) := ((Fr.refl noB w).alloc _).alloc _
  have HX : Hid _ := And.intro hX (And.intro hO hF)
  clear hX hO hF hs
  go_enter Tryz.func20, Tryz.ntmps20
  go_wp2_with (first
    | (go_at_call 43; refine (HC _).mono ?_; rintro e' w1 ⟨rfl, hF1⟩; have hX1 := HX.out.1.fr hF1 id; have x0 := hX1.c0; have x1 := hX1.c1; have x2 := hX1.c2; have x3 := hX1.c3; have x4 := hX1.c4; have xf := freeOf 2 hX1.o)
    | (refine wpList_store_val rfl (.tmp 2) (.tmp 7) rfl (w.heap.size + 1) k n s y e rfl rfl (VAt.fr (S := oneB w.heap.size) (HX.out.2.1.fr hF1 id) ((Fr.refl _ _).setOne 2 _) (by simp [oneB])) ?_; intro W hW hFW))
  exact bodyPost_ret (vret Tryz.results20 _ _ _ rfl hW) rfl ⟨rfl, ((HX.out.2.2.trans hF1).setCell ⟨w.heap.size, 2, none⟩ (Or.inr (Nat.le_refl _)) _).new hFW (by omega)⟩
#print axioms own_any
/-- An array's cells in a block. -/
structure AAt (w : World) (B : Nat) (r c : Int) (ao : Option Addr) (n cap : Nat) : Prop where
  o : w.heap[B]? = some (.cells #[.int .i64 r, .int .i64 c, .slice ao n cap] 27 (0, 0))
theorem info_arr : (Tryz.prog.info? 27).map (·.size) = some 3 := by kernel_rfl
theorem arr_one (r c : Int) (ao : Option Addr) (n cap : Nat) : (#[.int .i64 r, .int .i64 c, .slice ao n cap] : Array Value).all (·.oneCell') = true := by kernel_rfl
theorem AAt.fr {S : Nat → Prop} {w w' : World} {B : Nat} {r c : Int} {ao : Option Addr} {n cap : Nat} (h : AAt w B r c ao n cap) (hF : Fr S w w') (hB : ¬ S B) : AAt w' B r c ao n cap := ⟨hF.obj h.o hB⟩
theorem aret {fn : Func} {p : Tmp} (h : fn.results = #[.cell p 27]) (tmps : Array Value) (w : World) (g : Nat) {r c : Int} {ao : Option Addr} {n cap : Nat} (hp : tmps.getD p undef = .pointer (some ⟨g, 0, none⟩)) (hv : AAt w g r c ao n cap) :
    (results fn tmps).run Tryz.prog w = .ok (.agg #[.int .i64 r, .int .i64 c, .slice ao n cap]) w :=
  results_cell_row h tmps w g 27 _ (0, 0) _ hp hv.o Tryz.underlying27 rfl info_arr
theorem wpList_store_arr {ops : Array Oper} {rest : List Oper} {o : Oper} {a : Act} {w : World} {Q : Exit → Act → World → Prop} (hgd : o.guard = none) (x y : Operand) (ho : o.op = .store 27 x y)
    (g : Nat) (r c : Int) (ao : Option Addr) (n cap : Nat) (hx : a.eval x = .pointer (some ⟨g, 0, none⟩)) (hy : a.eval y = .agg #[.int .i64 r, .int .i64 c, .slice ao n cap])
    {r0 c0 : Int} {ao0 : Option Addr} {n0 cap0 : Nat} (hO : AAt w g r0 c0 ao0 n0 cap0)
    (h : ∀ W, AAt W g r c ao n cap → Fr (oneB g) w W → wpList Tryz.prog ops Q rest (a.put o.dst undef) W) : wpList Tryz.prog ops Q (o :: rest) a w :=
  wpList_store_row hgd 27 x y ho g #[.int .i64 r, .int .i64 c, .slice ao n cap] hx hy 27 _ hO.o info_arr rfl (arr_one _ _ _ _ _)
    (h _ ⟨setRow_heap _ _ _ _ _ _ hO.o⟩ ⟨rfl, rfl, rfl, by simp [World.setRow], fun k hk hs => setRow_other _ _ _ _ hs⟩)
theorem VsAt.one {w : World} {b : Nat} {t : TypeId} (v : Vv) (h : w.heap[b]? = some (.cells #[.int .i64 v.k, .float .f64 v.n, .string v.s, .bool v.y, .int .i64 v.e] t (0, 0))) : VsAt w (some ⟨b, 0, none⟩) [v] := by
  refine Or.inr ⟨b, 0, rfl, lt_of_block h, fun i hi => ?_⟩
  obtain rfl : i = 0 := by simpa using hi
  exact ⟨cellOf (o := 0) h rfl, cellOf (o := 1) h rfl, cellOf (o := 2) h rfl, cellOf (o := 3) h rfl, cellOf (o := 4) h rfl⟩
set_option maxRecDepth 100000 in
set_option maxHeartbeats 1000000 in
theorem rone_any (v : Vv) (w : World) :
    Calls Tryz.prog 25 #[(.agg #[.int .i64 v.k, .float .f64 v.n, .string v.s, .bool v.y, .int .i64 v.e])] w fun e' w' => ∃ b, e' = .returned (.agg #[.int .i64 1, .int .i64 1, .slice (some ⟨b, 0, none⟩) 1 1]) ∧ VsAt w' (some ⟨b, 0, none⟩) [v] ∧ Fr noB w w' := by
  obtain ⟨k, n, s, y, e⟩ := v
  go_enter Tryz.func25, Tryz.ntmps25
  go_wp2_with fail
  exact bodyPost_ret (aret Tryz.results25 _ _ (w.heap.size + 1) rfl ⟨old1 (new1 _ _ _ (by simp))⟩) rfl ⟨_, rfl, VsAt.one ⟨k, n, s, y, e⟩ (new1 _ _ _ (by simp)), (((Fr.refl noB w).alloc _).alloc _).alloc _⟩
set_option maxRecDepth 100000 in
set_option maxHeartbeats 1000000 in
theorem pone_any (v : Vv) (hs : v.s.size ≤ 140737488355328) (w : World) :
    Calls Tryz.prog 24 #[(.agg #[.int .i64 v.k, .float .f64 v.n, .string v.s, .bool v.y, .int .i64 v.e])] w fun e' w' => ∃ b, e' = .returned (.agg #[.int .i64 1, .int .i64 1, .slice (some ⟨b, 0, none⟩) 1 1]) ∧ VsAt w' (some ⟨b, 0, none⟩) [v] ∧ Fr noB w w' := by
  obtain ⟨k, n, s, y, e⟩ := v
  have HC : ∀ W, _ := own_any k n s y e hs
  have hO : AAt ((w.alloc (.cells #[.int .i64 k, .float .f64 n, .string s, .bool y, .int .i64 e] 37 (0, 0))).alloc (.cells #[.int .i64 0, .int .i64 0, .slice none 0 0] 27 (0, 0))) (w.heap.size + 1) 0 0 none 0 0 := ⟨new1 _ _ _ (by simp)⟩
  have hF : Fr noB w ((w.alloc (.cells #[.int .i64 k, .float .f64 n, .string s, .bool y, .int .i64 e] 37 (0, 0))).alloc (.cells #[.int .i64 0, .int .i64 0, .slice none 0 0] 27 (0, 0))) := ((Fr.refl noB w).alloc _).alloc _
  have HX : Hid _ := And.intro hO hF
  clear hO hF hs
  go_enter Tryz.func24, Tryz.ntmps24
  go_wp2_with (first
    | (go_at_call 20; refine (HC _).mono ?_; rintro e' w1 ⟨rfl, hF1⟩)
    | (refine wpList_store_arr rfl (.tmp 2) (.tmp 6) rfl (w.heap.size + 1) 1 1 (some ⟨w1.heap.size, 0, none⟩) 1 1 rfl rfl (AAt.fr (HX.out.1.fr hF1 id) ((Fr.refl noB w1).alloc _) id) ?_; intro W hW hFW))
  have hb : w.heap.size + 1 < w1.heap.size := lt_of_block (HX.out.1.fr hF1 id).o
  exact bodyPost_ret (aret Tryz.results24 _ _ _ rfl hW) rfl ⟨_, rfl, VsAt.one ⟨k, n, s, y, e⟩ (hFW.obj (new1 _ _ _ rfl) (show ¬ w1.heap.size = w.heap.size + 1 by omega)), ((HX.out.2.trans hF1).alloc _).new hFW (by omega)⟩
#print axioms pone_any
end Go.Proofs.YtpjbobbmldplbaaGreatDoor
