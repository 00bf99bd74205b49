/- Parse's deferred closure, entered by a panic. -/
import Derived.Test.YtiokbpknaldbaaaDoorRPar
namespace Go.Proofs.YtiokbpknaldbaaaDoor
open Go.RowKit Go.Shelf

/-- What lies there of Parse's results. -/
structure Res (w : World) (b : Nat) (a c : Int) : Prop where
  r : RAt w b ⟨#[]⟩ ⟨#[]⟩ false false 0 0 false false 0 0 false false
  i : w.heap[b + 1]? = some (.cells #[.int .i64 a] 3 (0, 0))
  e : w.heap[b + 1 + 1]? = some (.cells #[.int .i64 c] 26 (0, 0))
set_option maxRecDepth 100000 in
set_option maxHeartbeats 2000000 in
theorem catch_takes (b a : Nat) (c : Int) (w w0 : World) (h : Res w b 0 0) (h0 : w0.heap.size ≤ b) (hF : Fr noB w0 w) :
    CallsD Tryd.prog 16 #[.pointer (some ⟨b, 0, none⟩), .pointer (some ⟨b + 1, 0, none⟩), .pointer (some ⟨b + 1 + 1, 0, none⟩)] (.panicking [{ v := .iface 41 (.agg #[.int .i64 (a : Int), .int .i64 c]), recovered := false }]) w fun e u' w' => e = .returned (.tuple #[]) ∧ u' = .panicking [{ v := .iface 41 (.agg #[.int .i64 (a : Int), .int .i64 c]), recovered := true }] ∧ Res w' b a c ∧ Fr noB w0 w' := by
  refine callsD_of_wpS Tryd.func16 rfl fun c₀ cs hu => ?_
  apply wpS_seq
  apply wpS_region
  simp [wpOpsS, go_sem, recoverD, hu, Tryd.ntmps16, Exit.thenS]
  have hnil : ∀ w : World, (binOp BinOp.eql 20 (.iface 41 (.agg #[.int .i64 (a : Int), .int .i64 c])) .nilIface).run Tryd.prog w = .ok (.bool false) w := fun _ => by kernel_rfl
  refine wpS_of_wp ?_
  rw [show (#[.pointer (some ⟨b, 0, none⟩), .pointer (some ⟨b + 1, 0, none⟩), .pointer (some ⟨b + 1 + 1, 0, none⟩)] ++ (Array.replicate 14 undef).setIfInBounds 3 (.iface 41 (.agg #[.int .i64 (a : Int), .int .i64 c])) : Array Value) = #[.pointer (some ⟨b, 0, none⟩), .pointer (some ⟨b + 1, 0, none⟩), .pointer (some ⟨b + 1 + 1, 0, none⟩), undef, undef, undef, .iface 41 (.agg #[.int .i64 (a : Int), .int .i64 c]), undef, undef, undef, undef, undef, undef, undef, undef, undef, undef] from rfl]
  have hta : ∀ w : World, (Instr.typeAssert (.iface 41 (.agg #[.int .i64 (a : Int), .int .i64 c])) 20 41 true).run Tryd.prog w = .ok (.tuple #[.agg #[.int .i64 (a : Int), .int .i64 c], .bool true]) w := fun _ => by kernel_rfl
  obtain ⟨W, hW⟩ : ∃ W, w.alloc (.cells #[.int .i64 (a : Int), .int .i64 c] 41 (0, 0)) = W := ⟨_, rfl⟩
  have hWF : Fr noB w W := by rw [← hW]; exact (Fr.refl noB w).alloc _
  have hr := h.r.fr hWF id
  have hi := hWF.obj h.i id
  have he := hWF.obj h.e id
  have hk : W.heap[w.heap.size]? = some (.cells #[.int .i64 (a : Int), .int .i64 c] 41 (0, 0)) := by rw [← hW]; exact heap_alloc_new _ _
  have hb : b + 1 + 1 < w.heap.size := lt_of_block h.e
  go_wp2_with fail
  have HC : Hid _ := And.intro hr (And.intro hi (And.intro he (hF.trans hWF)))
  have HU : Hid _ := hu
  have g0 := hr.g0; have g1 := hr.g1; have g2 := hr.g2; have g3 := hr.g3; have g4 := hr.g4; have g5 := hr.g5; have g6 := hr.g6; have g7 := hr.g7; have g8 := hr.g8; have g9 := hr.g9; have g10 := hr.g10; have g11 := hr.g11; have gf := hr.f
  have i0 := cellOf (o := 0) hi rfl
  have i1 := freeOf 0 hi
  have j0 := cellOf (o := 0) he rfl
  have j1 := freeOf 0 he
  have l0 := cellOf (o := 0) hk rfl
  have l1 := cellOf (o := 1) hk rfl
  clear hr hi he hk hW hWF hF h
  go_region
  obtain ⟨hr, hi, he, hFw⟩ := HC.out
  have hRF := (((hr.all ⟨#[]⟩ ⟨#[]⟩ false false 0 0 false false 0 0 false false).setO (b + 1) 0 (.int .i64 (a : Int)) (by omega)).setO (b + 1 + 1) 0 (.int .i64 c) (by omega)).fr (Fr.refl noB _).drew id
  have hIF := (Fr.refl noB _).drew.obj ((Below.heap_setCell _ ⟨b + 1 + 1, 0, none⟩ (.int .i64 c) (b + 1) (by simp)).trans (setOf 0 (.int .i64 (a : Int)) ((heap_all W b (b + 1) (by omega) ⟨#[]⟩ ⟨#[]⟩ false false 0 0 false false 0 0 false false).trans hi))) id
  have hEF := (Fr.refl noB _).drew.obj (setOf 0 (.int .i64 c) ((Below.heap_setCell _ ⟨b + 1, 0, none⟩ (.int .i64 (a : Int)) (b + 1 + 1) (by simp)).trans ((heap_all W b (b + 1 + 1) (by omega) ⟨#[]⟩ ⟨#[]⟩ false false 0 0 false false 0 0 false false).trans he))) id
  have hGF : Fr noB w0 _ := (((hFw.all (Or.inr h0) ⟨#[]⟩ ⟨#[]⟩ false false 0 0 false false 0 0 false false).setCell ⟨b + 1, 0, none⟩ (Or.inr (by show w0.heap.size ≤ b + 1; omega)) (.int .i64 (a : Int))).setCell ⟨b + 1 + 1, 0, none⟩ (Or.inr (by show w0.heap.size ≤ b + 1 + 1; omega)) (.int .i64 c)).drew
  have hres : Res _ b a c := ⟨hRF, hIF, hEF⟩
  clear g0 g1 g2 g3 g4 g5 g6 g7 g8 g9 g10 g11 gf i0 i1 j0 j1 l0 l1 hr hi he hFw hRF hIF hEF HC HU hnil hta
  generalize World.drew _ = WF at *
  go_wp2
  cases c₀
  simp_all [bodyPostS, results, Tryd.results16]
theorem parse_no_of (s : ByteArray) (a : Nat) (c : Int) (w : World) (HR : ∀ W, RdAt W (w.heap.size + 1 + 1 + 1) s 0 → Fr noB w W → Calls Tryd.prog 17 #[.pointer (some ⟨w.heap.size + 1 + 1 + 1, 0, none⟩)] W fun e w' => e = thr a c ∧ Fr (oneB (w.heap.size + 1 + 1 + 1)) W w') :
    Calls Tryd.prog 5 #[.string s] w fun e w' => e = .returned (.tuple #[(.agg #[.string ⟨#[]⟩, .string ⟨#[]⟩, .bool false, .bool false, .int .i64 0, .int .i64 0, .bool false, .bool false, .int .i64 0, .int .i64 0, .bool false, .bool false]), .int .i64 (a : Int), .int .i64 c]) ∧ Fr noB w w' := by
  have hmf : ∀ (fn : Fn) (first cap : Array Value) (w : World), (Instr.makeFunc fn first cap).run Tryd.prog w = .ok (.func fn first cap) w := fun _ _ _ _ => rfl
  obtain ⟨W0, hW0, hA0, hI0, hE0, hRd, hF0⟩ := parse_laid s w
  have HRf := HR W0 hRd hF0
  have n0 : ¬ oneB (w.heap.size + 1 + 1 + 1) w.heap.size := fun e => by unfold oneB at e; omega
  have n1 : ¬ oneB (w.heap.size + 1 + 1 + 1) (w.heap.size + 1) := fun e => by unfold oneB at e; omega
  have n2 : ¬ oneB (w.heap.size + 1 + 1 + 1) (w.heap.size + 1 + 1) := fun e => by unfold oneB at e; omega
  have HF0 : Hid (Fr noB w W0) := hF0
  have HW0 : Hid _ := hW0
  clear hRd hF0 hW0 HR
  go_enter_defers Tryd.func5, Tryd.ntmps5
  go_wp2_with (go_at_call 17; rw [HW0.out]; refine HRf.mono ?_; rintro e w1 ⟨rfl, hF1⟩; unfold thr)
  have hG1 : Fr noB w w1 := HF0.out.then hF1 (fun k hk => Or.inr (by unfold oneB at hk; omega))
  have hres : Res w1 w.heap.size 0 0 := ⟨hA0.fr hF1 n0, hF1.obj hI0 n1, hF1.obj hE0 n2⟩
  refine leaves_cons (f := 16) (args := #[.pointer (some ⟨w.heap.size, 0, none⟩), .pointer (some ⟨w.heap.size + 1, 0, none⟩), .pointer (some ⟨w.heap.size + 1 + 1, 0, none⟩)]) (by simp) (by simp [go_sem]) ?_
  refine (catch_takes w.heap.size a c _ w hres (Nat.le_refl _) hG1).mono ?_
  rintro e u' w'' ⟨rfl, rfl, hr, hf⟩
  have q0 := hr.r.g0; have q1 := hr.r.g1; have q2 := hr.r.g2; have q3 := hr.r.g3; have q4 := hr.r.g4; have q5 := hr.r.g5; have q6 := hr.r.g6; have q7 := hr.r.g7; have q8 := hr.r.g8; have q9 := hr.r.g9; have q10 := hr.r.g10; have q11 := hr.r.g11
  have iF := cellOf (o := 0) hr.i rfl
  have jF := cellOf (o := 0) hr.e rfl
  simp only [settle]
  refine ⟨.tuple #[(.agg #[.string ⟨#[]⟩, .string ⟨#[]⟩, .bool false, .bool false, .int .i64 0, .int .i64 0, .bool false, .bool false, .int .i64 0, .int .i64 0, .bool false, .bool false]), .int .i64 (a : Int), .int .i64 c], by simp [results, Tryd.results5, go_sem, q0, q1, q2, q3, q4, q5, q6, q7, q8, q9, q10, q11, iF, jF], rfl, hf⟩
#print axioms parse_no_of
#print axioms catch_takes
end Go.Proofs.YtiokbpknaldbaaaDoor
