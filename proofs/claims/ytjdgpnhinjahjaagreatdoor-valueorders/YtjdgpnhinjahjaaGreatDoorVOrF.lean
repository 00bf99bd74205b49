/- Compare of the program: its first statement, a, b = filled(a, b.Kind), filled(b, a.Kind). -/
import Derived.Test.YtjdgpnhinjahjaaGreatDoorVOrd
import Derived.Test.YtjdgpnhinjahjaaGreatDoorVAny
namespace Go.Proofs.YtjdgpnhinjahjaaGreatDoor
open Go.RowKit Ieee Go.Shelf
attribute [local go_sem] run_store_float

theorem load_int (w : World) (b o : Nat) (v : Value) (h : w.cell? ⟨b, o, none⟩ = some v) : (Instr.loadAt 3 (.pointer (some ⟨b, o, none⟩))).run Tryz.prog w = .ok v w := by
  have hu := Tryz.underlying3
  simp [go_sem, h]
section
variable {ops : Array Oper} {S : World → Prop} {op : Oper} {a : Act}
theorem y_int (x : Operand) (b o : Nat) (v : Value) (hw : Region.wanted op (yielded ops a.tmps) = true) (ho : op.op = .load 3 x) (hx : a.eval x = .pointer (some ⟨b, o, none⟩)) (hS : ∀ w, S w → w.cell? ⟨b, o, none⟩ = some v) : YieldsIf Tryz.prog ops S op v a :=
  .inl ⟨hw, fun w hw' => by
    unfold execOp
    simp only [ho, hx, Sem.run_bind, Sem.run_pure, load_int w b o v (hS w hw'), Result.andThen_ok]⟩
theorem y_val (x : Operand) (B : Nat) (k : Int) (n : Nat) (s : ByteArray) (y : Bool) (c : Int) (hw : Region.wanted op (yielded ops a.tmps) = true) (ho : op.op = .load 28 x) (hx : a.eval x = .pointer (some ⟨B, 0, none⟩)) (hS : ∀ w, S w → VAt w B k n s y c) : YieldsIf Tryz.prog ops S op (.agg #[.int .i64 k, .float .f64 n, .string s, .bool y, .int .i64 c]) a :=
  .inl ⟨hw, fun w hw' => by
    unfold execOp
    simp only [ho, hx, Instr.loadAt, Instr.sureAddr, Sem.run_bind, Sem.run_pure, Result.andThen_ok, run_loadVar_row w B 28 28 _ (0, 0) _ (hS w hw').o Tryz.underlying28 rfl info_val]⟩
theorem wp_go {P : Program} {w : World} {next : Act → World → Prop} {Q : Exit → Act → World → Prop} (f : FuncId) (args : Array Value) (h : (execOp a.eval op).run P w = .ok (.enter f args) w)
    (hc : Calls P f args w fun e w'' => match e, w'' with
      | .returned v, w'' => next (a.put op.dst v) w''
      | .panicked chain, w'' => Q (.panic chain) a w''
      | .outgrown, _ => LetsOut Q) : Oper.wp P op a w next Q := by
  unfold Oper.wp
  rw [h]
  exact hc
end
theorem setRow_fr {S : Nat → Prop} {w W : World} (h : Fr S w W) (B : Nat) (hB : S B ∨ w.heap.size ≤ B) (cs : Array Value) : Fr S w (W.setRow B cs) :=
  ⟨h.os, h.tape, h.output, by simpa [World.setRow] using h.size, fun k hk hs => by
    have hne : B ≠ k := by rintro rfl; rcases hB with hB | hB; exact hs hB; omega
    rw [← h.block k hk hs]
    simp [World.setRow, Array.getElem?_modify, hne]⟩
theorem VAt.row {W : World} {B : Nat} {k : Int} {n : Nat} {s : ByteArray} {y : Bool} {e : Int} (h : VAt W B k n s y e) (k' : Int) (n' : Nat) (s' : ByteArray) (y' : Bool) (e' : Int) : VAt (W.setRow B #[.int .i64 k', .float .f64 n', .string s', .bool y', .int .i64 e']) B k' n' s' y' e' := ⟨setRow_heap _ _ _ _ _ _ h.o⟩
theorem VAt.other {W : World} {B C : Nat} {k : Int} {n : Nat} {s : ByteArray} {y : Bool} {e : Int} (h : VAt W B k n s y e) (hne : C ≠ B) (cs : Array Value) : VAt (W.setRow C cs) B k n s y e :=
  ⟨by rw [← h.o]; simp [World.setRow, Array.getElem?_modify, hne]⟩

/-- The order of two values that are filled. -/
def cmK (K1 : Int) (N1 : Nat) (S1 : ByteArray) (Y1 : Bool) (E1 : Int) (K2 : Int) (N2 : Nat) (S2 : ByteArray) (Y2 : Bool) (E2 : Int) : Int :=
  if ¬ rk1 K1 = rk1 K2 then cmpI (rk1 K1) (rk1 K2)
  else if K1 = 1 then numC N1 N2
  else if K1 = 2 then Lib.compareBytes (mvB 97 122 65 S1).data.toList (mvB 97 122 65 S2).data.toList
  else if K1 = 3 then trC Y1 Y2
  else if K1 = 4 then cmpI E1 E2
  else 0
set_option maxRecDepth 100000 in
set_option maxHeartbeats 4000000 in
theorem pcompare_fill (k1 : Int) (n1 : Nat) (s1 : ByteArray) (y1 : Bool) (c1 : Int) (k2 : Int) (n2 : Nat) (s2 : ByteArray) (y2 : Bool) (c2 : Int) (K1 : Int) (N1 : Nat) (S1 : ByteArray) (Y1 : Bool) (E1 : Int) (K2 : Int) (N2 : Nat) (S2 : ByteArray) (Y2 : Bool) (E2 : Int) (w : World)
    (F1 : ∀ W, Calls Tryz.prog 39 #[(.agg #[.int .i64 k1, .float .f64 n1, .string s1, .bool y1, .int .i64 c1]), .int .i64 k2] W fun e w' => e = .returned (.agg #[.int .i64 K1, .float .f64 N1, .string S1, .bool Y1, .int .i64 E1]) ∧ Fr noB W w')
    (F2 : ∀ W, Calls Tryz.prog 39 #[(.agg #[.int .i64 k2, .float .f64 n2, .string s2, .bool y2, .int .i64 c2]), .int .i64 k1] W fun e w' => e = .returned (.agg #[.int .i64 K2, .float .f64 N2, .string S2, .bool Y2, .int .i64 E2]) ∧ Fr noB W w') :
    Calls Tryz.prog 27 #[(.agg #[.int .i64 k1, .float .f64 n1, .string s1, .bool y1, .int .i64 c1]), (.agg #[.int .i64 k2, .float .f64 n2, .string s2, .bool y2, .int .i64 c2])] w fun e w' => e = .returned (.int .i64 (cmK K1 N1 S1 Y1 E1 K2 N2 S2 Y2 E2)) ∧ Fr noB w w' := by
  obtain ⟨R, hR⟩ : ∃ R, cmK K1 N1 S1 Y1 E1 K2 N2 S2 Y2 E2 = R := ⟨_, rfl⟩
  have HR : Hid _ := hR
  rw [hR]
  clear hR
  go_enter Tryz.func27, Tryz.ntmps27
  go_wp2_with fail
  obtain ⟨W1, hW1⟩ : ∃ W1, w.alloc (.cells #[.int .i64 k1, .float .f64 n1, .string s1, .bool y1, .int .i64 c1] 28 (0, 0)) = W1 := ⟨_, rfl⟩
  have hz1 : W1.heap.size = w.heap.size + 1 := by rw [← hW1]; simp
  have hA1 : VAt W1 w.heap.size k1 n1 s1 y1 c1 := ⟨by rw [← hW1]; exact heap_alloc_new w _⟩
  have hF1 : Fr noB w W1 := by rw [← hW1]; exact (Fr.refl noB w).alloc _
  obtain ⟨W0, hW0⟩ : ∃ W0, W1.alloc (.cells #[.int .i64 k2, .float .f64 n2, .string s2, .bool y2, .int .i64 c2] 28 (0, 0)) = W0 := ⟨_, rfl⟩
  have hO : VAt W0 (w.heap.size + 1) k2 n2 s2 y2 c2 := ⟨by rw [← hW0, ← hz1]; exact heap_alloc_new W1 _⟩
  have hF2 : Fr noB W1 W0 := by rw [← hW0]; exact (Fr.refl noB W1).alloc _
  have hQ : VAt W0 w.heap.size k1 n1 s1 y1 c1 := hA1.fr hF2 id
  have hF0 : Fr noB w W0 := hF1.trans hF2
  have HQ : Hid _ := And.intro hQ (And.intro hO hF0)
  rw [hW1, hW0]
  clear hW0 hW1 hF1 hF2 hA1 hz1 hQ hO hF0
  go_cut [] (fun wc => VAt wc w.heap.size K1 N1 S1 Y1 E1 ∧ VAt wc (w.heap.size + 1) K2 N2 S2 Y2 E2 ∧ Fr noB w wc)
  case first =>
    refine AnyU.begin (S0 := fun W => VAt W w.heap.size k1 n1 s1 y1 c1 ∧ VAt W (w.heap.size + 1) k2 n2 s2 y2 c2) (G := fun L => !(L.getD 2 true && L.getD 3 true && L.getD 6 true && L.getD 7 true)) (by kernel_rfl) ?_
    have hS : (fun W => VAt W w.heap.size k1 n1 s1 y1 c1 ∧ VAt W (w.heap.size + 1) k2 n2 s2 y2 c2) W0.drew := ⟨HQ.out.1.fr (Fr.refl noB W0).drew id, HQ.out.2.1.fr (Fr.refl noB W0).drew id⟩
    refine AnyU.take (i := 0) 3 (v := (.agg #[.int .i64 k1, .float .f64 n1, .string s1, .bool y1, .int .i64 c1])) rfl rfl (by kernel_rfl) (fun L h => by simp [h]) (by kernel_rfl) (by kernel_rfl) (by kernel_rfl) (by kernel_rfl) (fun _ _ _ h => h) (y_val (.tmp 2) w.heap.size k1 n1 s1 y1 c1 (by kernel_rfl) rfl (by kernel_rfl) (fun _ h => h.1)) hS ?_
    refine AnyU.take (i := 1) 2 (v := .pointer (some ⟨w.heap.size + 1, 0, none⟩)) rfl rfl (by kernel_rfl) (fun L h => by simp [h]) (by kernel_rfl) (by kernel_rfl) (by kernel_rfl) (by kernel_rfl) (fun _ _ _ h => h) (Or.inl ⟨by kernel_rfl, fun w hSw => by kernel_rfl⟩) hS ?_
    refine AnyU.take (i := 2) 3 (v := .int .i64 k2) rfl rfl (by kernel_rfl) (fun L h => by simp [h]) (by kernel_rfl) (by kernel_rfl) (by kernel_rfl) (by kernel_rfl) (fun _ _ _ h => h) (y_int (.tmp 6) (w.heap.size + 1) 0 _ (by kernel_rfl) rfl (by kernel_rfl) (fun _ h => h.2.c0)) hS ?_
    refine AnyU.to { tmps := #[(.agg #[.int .i64 k1, .float .f64 n1, .string s1, .bool y1, .int .i64 c1]), (.agg #[.int .i64 k2, .float .f64 n2, .string s2, .bool y2, .int .i64 c2]), .pointer (some ⟨w.heap.size, 0, none⟩), .pointer (some ⟨w.heap.size + 1, 0, none⟩), .int .i64 0, (.agg #[.int .i64 k1, .float .f64 n1, .string s1, .bool y1, .int .i64 c1]), .pointer (some ⟨w.heap.size + 1, 0, none⟩), .int .i64 k2, undef, undef, undef, undef, undef, undef, undef, undef, undef, undef, undef, undef, undef, undef, undef, undef, undef, undef, undef, undef, undef, undef, undef, undef, undef, undef, undef, undef, undef, undef, undef, undef, undef, undef, undef, undef, undef, undef, undef, undef, undef, undef, undef, undef, undef, undef, undef, undef, undef], defers := [] } (by kernel_rfl) ?_
    refine AnyU.take (i := 4) 7 (v := (.agg #[.int .i64 k2, .float .f64 n2, .string s2, .bool y2, .int .i64 c2])) rfl rfl (by kernel_rfl) (fun L h => by simp [h]) (by kernel_rfl) (by kernel_rfl) (by kernel_rfl) (by kernel_rfl) (fun _ _ _ h => h) (y_val (.tmp 3) (w.heap.size + 1) k2 n2 s2 y2 c2 (by kernel_rfl) rfl (by kernel_rfl) (fun _ h => h.2)) hS ?_
    refine AnyU.take (i := 5) 6 (v := .pointer (some ⟨w.heap.size, 0, none⟩)) rfl rfl (by kernel_rfl) (fun L h => by simp [h]) (by kernel_rfl) (by kernel_rfl) (by kernel_rfl) (by kernel_rfl) (fun _ _ _ h => h) (Or.inl ⟨by kernel_rfl, fun w hSw => by kernel_rfl⟩) hS ?_
    refine AnyU.take (i := 6) 7 (v := .int .i64 k1) rfl rfl (by kernel_rfl) (fun L h => by simp [h]) (by kernel_rfl) (by kernel_rfl) (by kernel_rfl) (by kernel_rfl) (fun _ _ _ h => h) (y_int (.tmp 10) w.heap.size 0 _ (by kernel_rfl) rfl (by kernel_rfl) (fun _ h => h.1.c0)) hS ?_
    refine AnyU.to { tmps := #[(.agg #[.int .i64 k1, .float .f64 n1, .string s1, .bool y1, .int .i64 c1]), (.agg #[.int .i64 k2, .float .f64 n2, .string s2, .bool y2, .int .i64 c2]), .pointer (some ⟨w.heap.size, 0, none⟩), .pointer (some ⟨w.heap.size + 1, 0, none⟩), .int .i64 0, (.agg #[.int .i64 k1, .float .f64 n1, .string s1, .bool y1, .int .i64 c1]), .pointer (some ⟨w.heap.size + 1, 0, none⟩), .int .i64 k2, undef, (.agg #[.int .i64 k2, .float .f64 n2, .string s2, .bool y2, .int .i64 c2]), .pointer (some ⟨w.heap.size, 0, none⟩), .int .i64 k1, undef, undef, undef, undef, undef, undef, undef, undef, undef, undef, undef, undef, undef, undef, undef, undef, undef, undef, undef, undef, undef, undef, undef, undef, undef, undef, undef, undef, undef, undef, undef, undef, undef, undef, undef, undef, undef, undef, undef, undef, undef, undef, undef, undef, undef], defers := [] } (by kernel_rfl) ?_
    refine AnyU.one (i := 3) (by kernel_rfl) rfl (fun K hK => ?_)
    rw [if_pos (by kernel_rfl)]
    refine wp_go 39 #[(.agg #[.int .i64 k1, .float .f64 n1, .string s1, .bool y1, .int .i64 c1]), .int .i64 k2] (by kernel_rfl) ?_
    refine (F1 _).mono ?_
    rintro e w1 ⟨rfl, hG1⟩
    have hS1 : VAt w1 w.heap.size k1 n1 s1 y1 c1 ∧ VAt w1 (w.heap.size + 1) k2 n2 s2 y2 c2 := ⟨hS.1.fr hG1 id, hS.2.fr hG1 id⟩
    refine hK _ _ (fun _ => hS1) ?_
    refine AnyU.to { tmps := #[(.agg #[.int .i64 k1, .float .f64 n1, .string s1, .bool y1, .int .i64 c1]), (.agg #[.int .i64 k2, .float .f64 n2, .string s2, .bool y2, .int .i64 c2]), .pointer (some ⟨w.heap.size, 0, none⟩), .pointer (some ⟨w.heap.size + 1, 0, none⟩), .int .i64 0, (.agg #[.int .i64 k1, .float .f64 n1, .string s1, .bool y1, .int .i64 c1]), .pointer (some ⟨w.heap.size + 1, 0, none⟩), .int .i64 k2, (.agg #[.int .i64 K1, .float .f64 N1, .string S1, .bool Y1, .int .i64 E1]), (.agg #[.int .i64 k2, .float .f64 n2, .string s2, .bool y2, .int .i64 c2]), .pointer (some ⟨w.heap.size, 0, none⟩), .int .i64 k1, undef, undef, undef, undef, undef, undef, undef, undef, undef, undef, undef, undef, undef, undef, undef, undef, undef, undef, undef, undef, undef, undef, undef, undef, undef, undef, undef, undef, undef, undef, undef, undef, undef, undef, undef, undef, undef, undef, undef, undef, undef, undef, undef, undef, undef], defers := [] } (by kernel_rfl) ?_
    refine AnyU.one (i := 7) (by kernel_rfl) rfl (fun K hK => ?_)
    rw [if_pos (by kernel_rfl)]
    refine wp_go 39 #[(.agg #[.int .i64 k2, .float .f64 n2, .string s2, .bool y2, .int .i64 c2]), .int .i64 k1] (by kernel_rfl) ?_
    refine (F2 _).mono ?_
    rintro e w2 ⟨rfl, hG2⟩
    have hS2 : VAt w2 w.heap.size k1 n1 s1 y1 c1 ∧ VAt w2 (w.heap.size + 1) k2 n2 s2 y2 c2 := ⟨hS1.1.fr hG2 id, hS1.2.fr hG2 id⟩
    refine hK _ _ (fun h => absurd h (by decide)) ?_
    refine AnyU.to { tmps := #[(.agg #[.int .i64 k1, .float .f64 n1, .string s1, .bool y1, .int .i64 c1]), (.agg #[.int .i64 k2, .float .f64 n2, .string s2, .bool y2, .int .i64 c2]), .pointer (some ⟨w.heap.size, 0, none⟩), .pointer (some ⟨w.heap.size + 1, 0, none⟩), .int .i64 0, (.agg #[.int .i64 k1, .float .f64 n1, .string s1, .bool y1, .int .i64 c1]), .pointer (some ⟨w.heap.size + 1, 0, none⟩), .int .i64 k2, (.agg #[.int .i64 K1, .float .f64 N1, .string S1, .bool Y1, .int .i64 E1]), (.agg #[.int .i64 k2, .float .f64 n2, .string s2, .bool y2, .int .i64 c2]), .pointer (some ⟨w.heap.size, 0, none⟩), .int .i64 k1, (.agg #[.int .i64 K2, .float .f64 N2, .string S2, .bool Y2, .int .i64 E2]), undef, undef, undef, undef, undef, undef, undef, undef, undef, undef, undef, undef, undef, undef, undef, undef, undef, undef, undef, undef, undef, undef, undef, undef, undef, undef, undef, undef, undef, undef, undef, undef, undef, undef, undef, undef, undef, undef, undef, undef, undef, undef, undef, undef], defers := [] } (by kernel_rfl) ?_
    refine AnyU.one (i := 8) (by kernel_rfl) rfl (fun K hK => ?_)
    rw [if_pos (by kernel_rfl)]
    refine wp_store_row 28 (.tmp 2) (.tmp 8) rfl w.heap.size #[.int .i64 K1, .float .f64 N1, .string S1, .bool Y1, .int .i64 E1] (by kernel_rfl) (by kernel_rfl) 28 _ hS2.1.o info_val rfl (by kernel_rfl) ?_
    refine hK _ _ (fun h => absurd h (by decide)) ?_
    refine AnyU.to { tmps := #[(.agg #[.int .i64 k1, .float .f64 n1, .string s1, .bool y1, .int .i64 c1]), (.agg #[.int .i64 k2, .float .f64 n2, .string s2, .bool y2, .int .i64 c2]), .pointer (some ⟨w.heap.size, 0, none⟩), .pointer (some ⟨w.heap.size + 1, 0, none⟩), .int .i64 0, (.agg #[.int .i64 k1, .float .f64 n1, .string s1, .bool y1, .int .i64 c1]), .pointer (some ⟨w.heap.size + 1, 0, none⟩), .int .i64 k2, (.agg #[.int .i64 K1, .float .f64 N1, .string S1, .bool Y1, .int .i64 E1]), (.agg #[.int .i64 k2, .float .f64 n2, .string s2, .bool y2, .int .i64 c2]), .pointer (some ⟨w.heap.size, 0, none⟩), .int .i64 k1, (.agg #[.int .i64 K2, .float .f64 N2, .string S2, .bool Y2, .int .i64 E2]), undef, undef, undef, undef, undef, undef, undef, undef, undef, undef, undef, undef, undef, undef, undef, undef, undef, undef, undef, undef, undef, undef, undef, undef, undef, undef, undef, undef, undef, undef, undef, undef, undef, undef, undef, undef, undef, undef, undef, undef, undef, undef, undef, undef], defers := [] } (by kernel_rfl) ?_
    refine AnyU.one (i := 9) (by kernel_rfl) rfl (fun K hK => ?_)
    rw [if_pos (by kernel_rfl)]
    refine wp_store_row 28 (.tmp 3) (.tmp 12) rfl (w.heap.size + 1) #[.int .i64 K2, .float .f64 N2, .string S2, .bool Y2, .int .i64 E2] (by kernel_rfl) (by kernel_rfl) 28 _ (hS2.2.other (by omega) _).o info_val rfl (by kernel_rfl) ?_
    refine hK _ _ (fun h => absurd h (by decide)) ?_
    refine AnyU.to { tmps := #[(.agg #[.int .i64 k1, .float .f64 n1, .string s1, .bool y1, .int .i64 c1]), (.agg #[.int .i64 k2, .float .f64 n2, .string s2, .bool y2, .int .i64 c2]), .pointer (some ⟨w.heap.size, 0, none⟩), .pointer (some ⟨w.heap.size + 1, 0, none⟩), .int .i64 0, (.agg #[.int .i64 k1, .float .f64 n1, .string s1, .bool y1, .int .i64 c1]), .pointer (some ⟨w.heap.size + 1, 0, none⟩), .int .i64 k2, (.agg #[.int .i64 K1, .float .f64 N1, .string S1, .bool Y1, .int .i64 E1]), (.agg #[.int .i64 k2, .float .f64 n2, .string s2, .bool y2, .int .i64 c2]), .pointer (some ⟨w.heap.size, 0, none⟩), .int .i64 k1, (.agg #[.int .i64 K2, .float .f64 N2, .string S2, .bool Y2, .int .i64 E2]), undef, undef, undef, undef, undef, undef, undef, undef, undef, undef, undef, undef, undef, undef, undef, undef, undef, undef, undef, undef, undef, undef, undef, undef, undef, undef, undef, undef, undef, undef, undef, undef, undef, undef, undef, undef, undef, undef, undef, undef, undef, undef, undef, undef], defers := [] } (by kernel_rfl) ?_
    refine AnyU.done (by kernel_rfl) ?_ _
    dsimp only
    go_wp2_with fail
    go_meet
    exact ⟨(hS2.1.row K1 N1 S1 Y1 E1).other (by omega) _, (hS2.2.other (by omega) _).row K2 N2 S2 Y2 E2, setRow_fr (setRow_fr (HQ.out.2.2.trans (((Fr.refl noB W0).drew.trans hG1).trans hG2)) _ (Or.inr (Nat.le_refl _)) _) _ (Or.inr (by omega)) _⟩
  case rest =>
    obtain ⟨hP, hO, hF⟩ := hcut
    have HP : Hid _ := And.intro hP (And.intro hO hF)
    have HK : Hid (∀ W, Fr noB wc W → W.cell? ⟨w.heap.size, 0, none⟩ = some (.int .i64 K1) ∧ W.cell? ⟨w.heap.size, 1, none⟩ = some (.float .f64 N1) ∧ W.cell? ⟨w.heap.size, 2, none⟩ = some (.string S1) ∧ W.cell? ⟨w.heap.size, 3, none⟩ = some (.bool Y1) ∧ W.cell? ⟨w.heap.size, 4, none⟩ = some (.int .i64 E1) ∧ W.cell? ⟨w.heap.size + 1, 0, none⟩ = some (.int .i64 K2) ∧ W.cell? ⟨w.heap.size + 1, 1, none⟩ = some (.float .f64 N2) ∧ W.cell? ⟨w.heap.size + 1, 2, none⟩ = some (.string S2) ∧ W.cell? ⟨w.heap.size + 1, 3, none⟩ = some (.bool Y2) ∧ W.cell? ⟨w.heap.size + 1, 4, none⟩ = some (.int .i64 E2)) := fun W h => ⟨(HP.out.1.fr h id).c0, (HP.out.1.fr h id).c1, (HP.out.1.fr h id).c2, (HP.out.1.fr h id).c3, (HP.out.1.fr h id).c4, (HP.out.2.1.fr h id).c0, (HP.out.2.1.fr h id).c1, (HP.out.2.1.fr h id).c2, (HP.out.2.1.fr h id).c3, (HP.out.2.1.fr h id).c4⟩
    have RA := rank_any K1 N1 S1 Y1 E1
    have RB := rank_any K2 N2 S2 Y2 E2
    clear hP hO hF
    by_cases hne : ¬ rk1 K1 = rk1 K2
    · have HB : Hid (cmpI (rk1 K1) (rk1 K2) = R) := show _ = _ by rw [← HR.out]; unfold cmK; rw [if_pos hne]
      clear HR
      generalize rk1 K1 = ra at *
      generalize rk1 K2 = rb at *
      have q : (ra != rb) = true := by simpa using hne
      clear hne
      go_wp2_with fail
      go_region_held3 (fun W => W.cell? ⟨w.heap.size, 0, none⟩ = some (.int .i64 K1) ∧ W.cell? ⟨w.heap.size, 1, none⟩ = some (.float .f64 N1) ∧ W.cell? ⟨w.heap.size, 2, none⟩ = some (.string S1) ∧ W.cell? ⟨w.heap.size, 3, none⟩ = some (.bool Y1) ∧ W.cell? ⟨w.heap.size, 4, none⟩ = some (.int .i64 E1) ∧ W.cell? ⟨w.heap.size + 1, 0, none⟩ = some (.int .i64 K2) ∧ W.cell? ⟨w.heap.size + 1, 1, none⟩ = some (.float .f64 N2) ∧ W.cell? ⟨w.heap.size + 1, 2, none⟩ = some (.string S2) ∧ W.cell? ⟨w.heap.size + 1, 3, none⟩ = some (.bool Y2) ∧ W.cell? ⟨w.heap.size + 1, 4, none⟩ = some (.int .i64 E2))
        (exact HK.out _ (by repeat first | assumption | exact Fr.refl _ _ | exact Fr.drew (by assumption) | exact (Fr.refl _ _).drew | refine Fr.trans ?_ (by assumption) | refine Fr.drew ?_))
        (first
          | (go_at_call 40; with_reducible refine (RA _).mono ?_; rintro e w1 ⟨rfl, hG1⟩)
          | (go_at_call 40; with_reducible refine (RB _).mono ?_; rintro e w2 ⟨rfl, hG2⟩))
      obtain ⟨g0, g1, g2, g3, g4, j0, j1, j2, j3, j4⟩ := HK.out w2 (by repeat first | assumption | exact Fr.refl _ _ | exact Fr.drew (by assumption) | exact (Fr.refl _ _).drew | refine Fr.trans ?_ (by assumption) | refine Fr.drew ?_)
      go_wp2_with fail
      go_region_held3 (fun W => W.cell? ⟨w.heap.size, 0, none⟩ = some (.int .i64 K1) ∧ W.cell? ⟨w.heap.size, 1, none⟩ = some (.float .f64 N1) ∧ W.cell? ⟨w.heap.size, 2, none⟩ = some (.string S1) ∧ W.cell? ⟨w.heap.size, 3, none⟩ = some (.bool Y1) ∧ W.cell? ⟨w.heap.size, 4, none⟩ = some (.int .i64 E1) ∧ W.cell? ⟨w.heap.size + 1, 0, none⟩ = some (.int .i64 K2) ∧ W.cell? ⟨w.heap.size + 1, 1, none⟩ = some (.float .f64 N2) ∧ W.cell? ⟨w.heap.size + 1, 2, none⟩ = some (.string S2) ∧ W.cell? ⟨w.heap.size + 1, 3, none⟩ = some (.bool Y2) ∧ W.cell? ⟨w.heap.size + 1, 4, none⟩ = some (.int .i64 E2))
        (exact HK.out _ (by repeat first | assumption | exact Fr.refl _ _ | exact Fr.drew (by assumption) | exact (Fr.refl _ _).drew | refine Fr.trans ?_ (by assumption) | refine Fr.drew ?_))
        (first
          | (go_at_call 40; with_reducible refine (RA _).mono ?_; rintro e w3 ⟨rfl, hG3⟩)
          | (go_at_call 40; with_reducible refine (RB _).mono ?_; rintro e w4 ⟨rfl, hG4⟩)
          | (go_at_call 41; with_reducible refine (cmpI_any _ _ _).mono ?_; rintro e w5 ⟨rfl, h5⟩; subst h5))
      all_goals
        go_wp2_with fail
        go_ret
        rw [← HB.out]
        refine ⟨rfl, ?_⟩
        have hb := HP.out.2.2
        repeat first | assumption | exact Fr.drew (by assumption) | exact (Fr.refl _ _).drew | refine Fr.trans ?_ (by assumption) | refine Fr.drew ?_
    have heq : rk1 K1 = rk1 K2 := by simpa using hne
    have HRE : Hid _ := heq
    have hu : cmK K1 N1 S1 Y1 E1 K2 N2 S2 Y2 E2 = R := HR.out
    unfold cmK at hu
    rw [if_neg hne] at hu
    have HV : Hid ((K1 = 1 → numC N1 N2 = R) ∧ (K1 = 2 → Lib.compareBytes (mvB 97 122 65 S1).data.toList (mvB 97 122 65 S2).data.toList = R) ∧ (K1 = 3 → trC Y1 Y2 = R) ∧ (K1 = 4 → cmpI E1 E2 = R) ∧ (¬ K1 = 1 → ¬ K1 = 2 → ¬ K1 = 3 → ¬ K1 = 4 → 0 = R)) := by
      refine ⟨fun h => ?_, fun h => ?_, fun h => ?_, fun h => ?_, fun h1 h2 h3 h4 => ?_⟩
      · rw [if_pos h] at hu
        exact hu
      · rw [if_neg (by omega), if_pos h] at hu
        exact hu
      · rw [if_neg (by omega), if_neg (by omega), if_pos h] at hu
        exact hu
      · rw [if_neg (by omega), if_neg (by omega), if_neg (by omega), if_pos h] at hu
        exact hu
      · rw [if_neg h1, if_neg h2, if_neg h3, if_neg h4] at hu
        exact hu
    clear HR hne hu
    rw [heq] at RA
    generalize hrb : rk1 K2 = rb at *
    have q : (rb != rb) = false := by simp
    have HRB : Hid _ := hrb
    clear hrb heq
    go_wp2_with fail
    go_region_held3 (fun W => W.cell? ⟨w.heap.size, 0, none⟩ = some (.int .i64 K1) ∧ W.cell? ⟨w.heap.size, 1, none⟩ = some (.float .f64 N1) ∧ W.cell? ⟨w.heap.size, 2, none⟩ = some (.string S1) ∧ W.cell? ⟨w.heap.size, 3, none⟩ = some (.bool Y1) ∧ W.cell? ⟨w.heap.size, 4, none⟩ = some (.int .i64 E1) ∧ W.cell? ⟨w.heap.size + 1, 0, none⟩ = some (.int .i64 K2) ∧ W.cell? ⟨w.heap.size + 1, 1, none⟩ = some (.float .f64 N2) ∧ W.cell? ⟨w.heap.size + 1, 2, none⟩ = some (.string S2) ∧ W.cell? ⟨w.heap.size + 1, 3, none⟩ = some (.bool Y2) ∧ W.cell? ⟨w.heap.size + 1, 4, none⟩ = some (.int .i64 E2))
      (exact HK.out _ (by repeat first | assumption | exact Fr.refl _ _ | exact Fr.drew (by assumption) | exact (Fr.refl _ _).drew | refine Fr.trans ?_ (by assumption) | refine Fr.drew ?_))
      (first
        | (go_at_call 40; with_reducible refine (RA _).mono ?_; rintro e w1 ⟨rfl, hG1⟩)
        | (go_at_call 40; with_reducible refine (RB _).mono ?_; rintro e w2 ⟨rfl, hG2⟩))
    obtain ⟨g0, g1, g2, g3, g4, j0, j1, j2, j3, j4⟩ := HK.out w2 (by repeat first | assumption | exact Fr.refl _ _ | exact Fr.drew (by assumption) | exact (Fr.refl _ _).drew | refine Fr.trans ?_ (by assumption) | refine Fr.drew ?_)
    by_cases h1 : K1 = 1
    · have HB : Hid (numC N1 N2 = R) := HV.out.1 h1
      have q1 : (K1 == 1) = true := by simp [h1]
      clear HV HRE HRB RA RB h1
      go_wp2_with (go_at_call 42; with_reducible refine (cmpF_any _ _ _).mono ?_; rintro e w5 ⟨rfl, h5⟩; subst h5)
      go_ret
      rw [← HB.out]
      refine ⟨rfl, ?_⟩
      have hb := HP.out.2.2
      repeat first | assumption | exact Fr.drew (by assumption) | exact (Fr.refl _ _).drew | refine Fr.trans ?_ (by assumption) | refine Fr.drew ?_
    by_cases h2 : K1 = 2
    · have HB : Hid (Lib.compareBytes (mvB 97 122 65 S1).data.toList (mvB 97 122 65 S2).data.toList = R) := HV.out.2.1 h2
      have q1 : (K1 == 1) = false := by rw [beq_eq_false_iff_ne]; omega
      have q2 : (K1 == 2) = true := by simp [h2]
      clear HV HRE HRB RA RB h1 h2
      have U1 := upper_any S1
      have U2 := upper_any S2
      have U3 := compareS_any (mvB 97 122 65 S1) (mvB 97 122 65 S2)
      generalize Lib.compareBytes (mvB 97 122 65 S1).data.toList (mvB 97 122 65 S2).data.toList = cb at *
      generalize mvB 97 122 65 S1 = T1 at *
      generalize mvB 97 122 65 S2 = T2 at *
      go_wp2_with fail
      go_region_held3 (fun W => W.cell? ⟨w.heap.size, 0, none⟩ = some (.int .i64 K1) ∧ W.cell? ⟨w.heap.size, 1, none⟩ = some (.float .f64 N1) ∧ W.cell? ⟨w.heap.size, 2, none⟩ = some (.string S1) ∧ W.cell? ⟨w.heap.size, 3, none⟩ = some (.bool Y1) ∧ W.cell? ⟨w.heap.size, 4, none⟩ = some (.int .i64 E1) ∧ W.cell? ⟨w.heap.size + 1, 0, none⟩ = some (.int .i64 K2) ∧ W.cell? ⟨w.heap.size + 1, 1, none⟩ = some (.float .f64 N2) ∧ W.cell? ⟨w.heap.size + 1, 2, none⟩ = some (.string S2) ∧ W.cell? ⟨w.heap.size + 1, 3, none⟩ = some (.bool Y2) ∧ W.cell? ⟨w.heap.size + 1, 4, none⟩ = some (.int .i64 E2))
        (exact HK.out _ (by repeat first | assumption | exact Fr.refl _ _ | exact Fr.drew (by assumption) | exact (Fr.refl _ _).drew | refine Fr.trans ?_ (by assumption) | refine Fr.drew ?_))
        (first
          | (go_at_call 44; with_reducible refine (U1 _).mono ?_; rintro e w3 ⟨rfl, hG3⟩)
          | (go_at_call 44; with_reducible refine (U2 _).mono ?_; rintro e w4 ⟨rfl, hG4⟩)
          | (go_at_call 43; with_reducible refine (U3 _).mono ?_; rintro e w5 ⟨rfl, h5⟩; subst h5))
      all_goals
        go_wp2_with fail
        go_ret
        rw [← HB.out]
        refine ⟨rfl, ?_⟩
        have hb := HP.out.2.2
        repeat first | assumption | exact Fr.drew (by assumption) | exact (Fr.refl _ _).drew | refine Fr.trans ?_ (by assumption) | refine Fr.drew ?_
    by_cases h3 : K1 = 3
    · have HB : Hid (trC Y1 Y2 = R) := HV.out.2.2.1 h3
      have q1 : (K1 == 1) = false := by rw [beq_eq_false_iff_ne]; omega
      have q2 : (K1 == 2) = false := by rw [beq_eq_false_iff_ne]; omega
      have q3 : (K1 == 3) = true := by simp [h3]
      clear HV HRE HRB RA RB h1 h2 h3
      have U1 := truthNumber_any Y1
      have U2 := truthNumber_any Y2
      have U3 := cmpF_any (tnF Y1) (tnF Y2)
      rw [numC_truth] at U3
      generalize tnF Y1 = T1 at *
      generalize tnF Y2 = T2 at *
      generalize trC Y1 Y2 = cb at *
      go_wp2_with fail
      go_region_held3 (fun W => W.cell? ⟨w.heap.size, 0, none⟩ = some (.int .i64 K1) ∧ W.cell? ⟨w.heap.size, 1, none⟩ = some (.float .f64 N1) ∧ W.cell? ⟨w.heap.size, 2, none⟩ = some (.string S1) ∧ W.cell? ⟨w.heap.size, 3, none⟩ = some (.bool Y1) ∧ W.cell? ⟨w.heap.size, 4, none⟩ = some (.int .i64 E1) ∧ W.cell? ⟨w.heap.size + 1, 0, none⟩ = some (.int .i64 K2) ∧ W.cell? ⟨w.heap.size + 1, 1, none⟩ = some (.float .f64 N2) ∧ W.cell? ⟨w.heap.size + 1, 2, none⟩ = some (.string S2) ∧ W.cell? ⟨w.heap.size + 1, 3, none⟩ = some (.bool Y2) ∧ W.cell? ⟨w.heap.size + 1, 4, none⟩ = some (.int .i64 E2))
        (exact HK.out _ (by repeat first | assumption | exact Fr.refl _ _ | exact Fr.drew (by assumption) | exact (Fr.refl _ _).drew | refine Fr.trans ?_ (by assumption) | refine Fr.drew ?_))
        (first
          | (go_at_call 45; with_reducible refine (U1 _).mono ?_; rintro e w3 ⟨rfl, h3⟩; subst h3)
          | (go_at_call 45; with_reducible refine (U2 _).mono ?_; rintro e w4 ⟨rfl, h4⟩; subst h4)
          | (go_at_call 42; with_reducible refine (U3 _).mono ?_; rintro e w5 ⟨rfl, h5⟩; subst h5))
      all_goals
        go_wp2_with fail
        go_ret
        rw [← HB.out]
        refine ⟨rfl, ?_⟩
        have hb := HP.out.2.2
        repeat first | assumption | exact Fr.drew (by assumption) | exact (Fr.refl _ _).drew | refine Fr.trans ?_ (by assumption) | refine Fr.drew ?_
    by_cases h4 : K1 = 4
    · have HB : Hid (cmpI E1 E2 = R) := HV.out.2.2.2.1 h4
      have q1 : (K1 == 1) = false := by rw [beq_eq_false_iff_ne]; omega
      have q2 : (K1 == 2) = false := by rw [beq_eq_false_iff_ne]; omega
      have q3 : (K1 == 3) = false := by rw [beq_eq_false_iff_ne]; omega
      have q4 : (K1 == 4) = true := by simp [h4]
      clear HV HRE HRB RA RB h1 h2 h3 h4
      go_wp2_with (go_at_call 41; with_reducible refine (cmpI_any _ _ _).mono ?_; rintro e w5 ⟨rfl, h5⟩; subst h5)
      go_ret
      rw [← HB.out]
      refine ⟨rfl, ?_⟩
      have hb := HP.out.2.2
      repeat first | assumption | exact Fr.drew (by assumption) | exact (Fr.refl _ _).drew | refine Fr.trans ?_ (by assumption) | refine Fr.drew ?_
    have HB : Hid (0 = R) := HV.out.2.2.2.2 h1 h2 h3 h4
    have q1 : (K1 == 1) = false := by rw [beq_eq_false_iff_ne]; omega
    have q2 : (K1 == 2) = false := by rw [beq_eq_false_iff_ne]; omega
    have q3 : (K1 == 3) = false := by rw [beq_eq_false_iff_ne]; omega
    have q4 : (K1 == 4) = false := by rw [beq_eq_false_iff_ne]; omega
    clear HV HRE HRB RA RB h1 h2 h3 h4
    go_wp2_with fail
    go_ret
    rw [← HB.out]
    refine ⟨rfl, ?_⟩
    have hb := HP.out.2.2
    repeat first | assumption | exact Fr.drew (by assumption) | exact (Fr.refl _ _).drew | refine Fr.trans ?_ (by assumption) | refine Fr.drew ?_
#print axioms pcompare_fill
end Go.Proofs.YtjdgpnhinjahjaaGreatDoor
