/- What becomes of a reference when rows or columns of its sheet come or go: the program's. -/
import Derived.Test.YthokhnbecgkpbaaDoorHLin
import Derived.Laws.Tables
namespace Go.Proofs.YthokhnbecgkpbaaDoor
open Go.RowKit

theorem ref_one (t u : ByteArray) (fx ar : Bool) (r1 c1 : Int) (x1 y1 : Bool) (r2 c2 : Int) (x2 y2 : Bool) : (#[.string t, .string u, .bool fx, .bool ar, .int .i64 r1, .int .i64 c1, .bool x1, .bool y1, .int .i64 r2, .int .i64 c2, .bool x2, .bool y2] : Array Value).all (·.oneCell') = true := by kernel_rfl
theorem Fr.setRowR {S : Nat → Prop} {a w : World} (h : Fr S a w) (g : Nat) (hp : S g ∨ a.heap.size ≤ g) (cs : Array Value) : Fr S a (w.setRow g cs) :=
  ⟨h.os, h.tape, h.output, by simpa [World.setRow] using h.size, fun k hk hs => by
    rw [← h.block k hk hs]
    have hne : g ≠ k := fun e => by rcases hp with hp | hp; exact hs (e ▸ hp); omega
    simp [World.setRow, Array.getElem?_modify, hne]⟩
theorem RAt.row {w : World} {B : Nat} {t0 u0 : ByteArray} {f0 a0 : Bool} {r0 c0 : Int} {x0 y0 : Bool} {r9 c9 : Int} {x9 y9 : Bool} (h : RAt w B t0 u0 f0 a0 r0 c0 x0 y0 r9 c9 x9 y9) (t u : ByteArray) (fx ar : Bool) (r1 c1 : Int) (x1 y1 : Bool) (r2 c2 : Int) (x2 y2 : Bool) : RAt (w.setRow B #[.string t, .string u, .bool fx, .bool ar, .int .i64 r1, .int .i64 c1, .bool x1, .bool y1, .int .i64 r2, .int .i64 c2, .bool x2, .bool y2]) B t u fx ar r1 c1 x1 y1 r2 c2 x2 y2 := ⟨setRow_heap _ _ _ _ _ _ h.o⟩
theorem rret2 {fn : Func} {p q : Tmp} (h : fn.results = #[.cell p 46, .tmp q]) (tmps : Array Value) (w : World) (g : Nat) {t u : ByteArray} {fx ar : Bool} {r1 c1 : Int} {x1 y1 : Bool} {r2 c2 : Int} {x2 y2 : Bool} {b : Value} (hp : tmps.getD p undef = .pointer (some ⟨g, 0, none⟩)) (hq : tmps.getD q undef = b) (hv : RAt w g t u fx ar r1 c1 x1 y1 r2 c2 x2 y2) :
    (results fn tmps).run Tryd.prog w = .ok (.tuple #[(.agg #[.string t, .string u, .bool fx, .bool ar, .int .i64 r1, .int .i64 c1, .bool x1, .bool y1, .int .i64 r2, .int .i64 c2, .bool x2, .bool y2]), b]) w := by
  have hp' : tmps[p]?.getD undef = .pointer (some ⟨g, 0, none⟩) := by simpa using hp
  have hq' : tmps[q]?.getD undef = b := by simpa using hq
  simp [results, h, hp', hq', asAddr, run_loadVar_row w g 46 46 _ (0, 0) _ hv.o Tryd.underlying46 rfl info_ref]
set_option maxRecDepth 100000 in
set_option maxHeartbeats 2000000 in
theorem bref_rns (At N lim : Int) (cm : Bool) (t u : ByteArray) (fx : Bool) (r1 c1 : Int) (x1 y1 : Bool) (r2 c2 : Int) (x2 y2 : Bool) (w : World) (h1 : 0 ≤ At) (h2 : At ≤ 1048576) (h3 : 0 ≤ N) (h4 : N ≤ 1048576) (h5 : 0 ≤ lim) (h6 : lim ≤ 1048576) (h7 : 0 ≤ r1) (h8 : r1 ≤ 1048576) (hsp : spaB At N lim cm r1 r1 = true) :
    Calls Tryd.prog 67 #[.agg #[.int .i64 At, .int .i64 N, .int .i64 lim, .bool cm, .bool false], (.agg #[.string t, .string u, .bool fx, .bool false, .int .i64 r1, .int .i64 c1, .bool x1, .bool y1, .int .i64 r2, .int .i64 c2, .bool x2, .bool y2])] w fun e w' => e = .returned (.tuple #[(.agg #[.string t, .string u, .bool fx, .bool false, .int .i64 (spaT At N lim cm r1), .int .i64 c1, .bool x1, .bool y1, .int .i64 r2, .int .i64 c2, .bool x2, .bool y2]), .bool true]) ∧ Fr noB w w' := by
  obtain ⟨W0, hW0⟩ : ∃ W0, ((w.alloc (.cells #[.int .i64 At, .int .i64 N, .int .i64 lim, .bool cm, .bool false] 60 (0, 0))).alloc (.cells #[.string t, .string u, .bool fx, .bool false, .int .i64 r1, .int .i64 c1, .bool x1, .bool y1, .int .i64 r2, .int .i64 c2, .bool x2, .bool y2] 46 (0, 0))).alloc (.cells #[.string ⟨#[]⟩, .string ⟨#[]⟩, .bool false, .bool false, .int .i64 0, .int .i64 0, .bool false, .bool false, .int .i64 0, .int .i64 0, .bool false, .bool false] 46 (0, 0)) = W0 := ⟨_, rfl⟩
  have hB : BAt W0 w.heap.size At N lim cm false := by rw [← hW0]; exact ⟨old1 (old1 (heap_alloc_new w _))⟩
  have hR : RAt W0 (w.heap.size + 1) t u fx false r1 c1 x1 y1 r2 c2 x2 y2 := by rw [← hW0]; exact ⟨old1 (new1 _ _ _ (by simp))⟩
  have hO : RAt W0 (w.heap.size + 1 + 1) ⟨#[]⟩ ⟨#[]⟩ false false 0 0 false false 0 0 false false := by rw [← hW0]; exact ⟨new1 _ _ _ (by simp)⟩
  have hF0 : Fr noB w W0 := by rw [← hW0]; exact (((Fr.refl noB w).alloc _).alloc _).alloc _
  have e1 : endA false false r1 c1 r2 c2 = 4 := by rfl
  have e2 : endZ false false r1 c1 r2 c2 = 4 := by rfl
  have HE : Hid (∀ W, RAt W (w.heap.size + 1) t u fx false r1 c1 x1 y1 r2 c2 x2 y2 → Calls Tryd.prog 76 #[.agg #[.int .i64 At, .int .i64 N, .int .i64 lim, .bool cm, .bool false], .pointer (some ⟨w.heap.size + 1, 0, none⟩)] W fun e w' => e = .returned (.tuple #[.pointer (some ⟨w.heap.size + 1, 4, none⟩), .pointer (some ⟨w.heap.size + 1, 4, none⟩)]) ∧ Fr noB W w') := fun W h => by
    have := bends_false At N lim cm (w.heap.size + 1) t u fx false r1 c1 x1 y1 r2 c2 x2 y2 W h
    rw [e1, e2] at this
    exact this
  have HS : Hid (∀ W, Calls Tryd.prog 77 #[.agg #[.int .i64 At, .int .i64 N, .int .i64 lim, .bool cm, .bool false], .int .i64 r1, .int .i64 r1] W fun e w' => e = .returned (.tuple #[.int .i64 (spaF At N lim cm r1), .int .i64 (spaT At N lim cm r1), .bool true]) ∧ Fr noB W w') := fun W => by
    have := span_any At N lim cm false r1 r1 W h1 h2 h3 h4 h5 h6 (by omega) (by omega) (by omega) (by omega)
    unfold spaV at this
    rw [hsp, if_pos rfl] at this
    exact this
  have HH : Hid _ := And.intro hB (And.intro hR (And.intro hO hF0))
  have k0 := hB.c0; have k1 := hB.c1; have k2 := hB.c2; have k3 := hB.c3; have k4 := hB.c4
  clear hB hR hO hF0 hsp h1 h2 h3 h4 h5 h6 h7 h8 e1 e2
  generalize spaF At N lim cm r1 = fi at *
  generalize spaT At N lim cm r1 = ti at *
  go_enter Tryd.func67, Tryd.ntmps67
  go_wp2_with (go_at_call 76; refine (HE.out _ HH.out.2.1).mono ?_; rintro e w1 ⟨rfl, hF1⟩; have hB1 := HH.out.1.fr hF1; have m0 := hB1.c0; have m1 := hB1.c1; have m2 := hB1.c2; have m3 := hB1.c3; have m4 := hB1.c4; have hR1 := HH.out.2.1.fr hF1 id; have m5 := hR1.g4; have m6 := hR1.g4; have HF1 : Hid _ := hF1; clear hF1 hB1 hR1)
  go_region_held3 (fun w' => w'.cell? ⟨w.heap.size, 0, none⟩ = some (.int .i64 At) ∧ w'.cell? ⟨w.heap.size, 1, none⟩ = some (.int .i64 N) ∧ w'.cell? ⟨w.heap.size, 2, none⟩ = some (.int .i64 lim) ∧ w'.cell? ⟨w.heap.size, 3, none⟩ = some (.bool cm) ∧ w'.cell? ⟨w.heap.size, 4, none⟩ = some (.bool false) ∧ w'.cell? ⟨w.heap.size + 1, 4, none⟩ = some (.int .i64 r1)) (first | exact ⟨m0, m1, m2, m3, m4, m5⟩ | exact ⟨n0, n1, n2, n3, n4, n5⟩)
    (first
      | (go_at_call 77; refine (HS.out _).mono ?_; rintro e w2 ⟨rfl, hF2⟩; have hF3 : Fr noB W0 w2 := HF1.out.trans (((Fr.refl noB w1).drew).trans hF2); have hB2 := HH.out.1.fr hF3; have n0 := hB2.c0; have n1 := hB2.c1; have n2 := hB2.c2; have n3 := hB2.c3; have n4 := hB2.c4; have hR2 := HH.out.2.1.fr hF3 id; have n5 := hR2.g4; have n6 := hR2.g4; have HF3 : Hid _ := hF3; clear hF2 hF3 hB2 hR2))
  have HR2 : Hid _ := HH.out.2.1.fr HF3.out id
  have HO2 : Hid _ := HH.out.2.2.1.fr HF3.out id
  have HF : Hid _ := HH.out.2.2.2.trans HF3.out
  clear k0 k1 k2 k3 k4 m0 m1 m2 m3 m4 m5 m6 n0 n1 n2 n3 n4 n5 n6 HF1 HF3 hW0
  have d0 := HR2.out.g4; have d1 := HR2.out.g4; have d2 := HR2.out.f 4; have d3 := HR2.out.f 4
  have HR3 : Hid _ := (HR2.out.s4 fi).s4 ti
  have HO3 : Hid (RAt ((w2.setCell ⟨w.heap.size + 1, 4, none⟩ (.int .i64 fi)).setCell ⟨w.heap.size + 1, 4, none⟩ (.int .i64 ti)) (w.heap.size + 1 + 1) ⟨#[]⟩ ⟨#[]⟩ false false 0 0 false false 0 0 false false) := (HO2.out.setO (w.heap.size + 1) 4 (.int .i64 fi) (by omega)).setO (w.heap.size + 1) 4 (.int .i64 ti) (by omega)
  have HF3 : Hid (Fr noB w ((w2.setCell ⟨w.heap.size + 1, 4, none⟩ (.int .i64 fi)).setCell ⟨w.heap.size + 1, 4, none⟩ (.int .i64 ti))) := ((HF.out.setCell ⟨w.heap.size + 1, 4, none⟩ (Or.inr (Nat.le_succ _)) _).setCell ⟨w.heap.size + 1, 4, none⟩ (Or.inr (Nat.le_succ _)) _)
  go_wp2_with (first
    | (refine wpList_load_row rfl 46 (.tmp 3) rfl (w.heap.size + 1) rfl 46 #[.string t, .string u, .bool fx, .bool false, .int .i64 ti, .int .i64 c1, .bool x1, .bool y1, .int .i64 r2, .int .i64 c2, .bool x2, .bool y2] (0, 0) _ HR3.out.o Tryd.underlying46 rfl info_ref ?_)
    | (refine wpList_store_row rfl 46 (.tmp 4) (.tmp 37) rfl (w.heap.size + 1 + 1) #[.string t, .string u, .bool fx, .bool false, .int .i64 ti, .int .i64 c1, .bool x1, .bool y1, .int .i64 r2, .int .i64 c2, .bool x2, .bool y2] rfl rfl 46 _ HO3.out.o info_ref rfl (ref_one _ _ _ _ _ _ _ _ _ _ _ _) ?_))
  refine bodyPost_ret (rret2 rfl _ _ (w.heap.size + 1 + 1) rfl rfl (HO3.out.row t u fx false ti c1 x1 y1 r2 c2 x2 y2)) rfl ⟨rfl, HF3.out.setRowR _ (Or.inr (by omega)) _⟩
set_option maxRecDepth 100000 in
set_option maxHeartbeats 2000000 in
theorem bref_rnx (At N lim : Int) (cm : Bool) (t u : ByteArray) (fx : Bool) (r1 c1 : Int) (x1 y1 : Bool) (r2 c2 : Int) (x2 y2 : Bool) (w : World) (h1 : 0 ≤ At) (h2 : At ≤ 1048576) (h3 : 0 ≤ N) (h4 : N ≤ 1048576) (h5 : 0 ≤ lim) (h6 : lim ≤ 1048576) (h7 : 0 ≤ r1) (h8 : r1 ≤ 1048576) (hsp : spaB At N lim cm r1 r1 = false) :
    Calls Tryd.prog 67 #[.agg #[.int .i64 At, .int .i64 N, .int .i64 lim, .bool cm, .bool false], (.agg #[.string t, .string u, .bool fx, .bool false, .int .i64 r1, .int .i64 c1, .bool x1, .bool y1, .int .i64 r2, .int .i64 c2, .bool x2, .bool y2])] w fun e w' => e = .returned (.tuple #[(.agg #[.string ⟨#[]⟩, .string ⟨#[]⟩, .bool false, .bool false, .int .i64 0, .int .i64 0, .bool false, .bool false, .int .i64 0, .int .i64 0, .bool false, .bool false]), .bool false]) ∧ Fr noB w w' := by
  obtain ⟨W0, hW0⟩ : ∃ W0, ((w.alloc (.cells #[.int .i64 At, .int .i64 N, .int .i64 lim, .bool cm, .bool false] 60 (0, 0))).alloc (.cells #[.string t, .string u, .bool fx, .bool false, .int .i64 r1, .int .i64 c1, .bool x1, .bool y1, .int .i64 r2, .int .i64 c2, .bool x2, .bool y2] 46 (0, 0))).alloc (.cells #[.string ⟨#[]⟩, .string ⟨#[]⟩, .bool false, .bool false, .int .i64 0, .int .i64 0, .bool false, .bool false, .int .i64 0, .int .i64 0, .bool false, .bool false] 46 (0, 0)) = W0 := ⟨_, rfl⟩
  have hB : BAt W0 w.heap.size At N lim cm false := by rw [← hW0]; exact ⟨old1 (old1 (heap_alloc_new w _))⟩
  have hR : RAt W0 (w.heap.size + 1) t u fx false r1 c1 x1 y1 r2 c2 x2 y2 := by rw [← hW0]; exact ⟨old1 (new1 _ _ _ (by simp))⟩
  have hO : RAt W0 (w.heap.size + 1 + 1) ⟨#[]⟩ ⟨#[]⟩ false false 0 0 false false 0 0 false false := by rw [← hW0]; exact ⟨new1 _ _ _ (by simp)⟩
  have hF0 : Fr noB w W0 := by rw [← hW0]; exact (((Fr.refl noB w).alloc _).alloc _).alloc _
  have e1 : endA false false r1 c1 r2 c2 = 4 := by rfl
  have e2 : endZ false false r1 c1 r2 c2 = 4 := by rfl
  have HE : Hid (∀ W, RAt W (w.heap.size + 1) t u fx false r1 c1 x1 y1 r2 c2 x2 y2 → Calls Tryd.prog 76 #[.agg #[.int .i64 At, .int .i64 N, .int .i64 lim, .bool cm, .bool false], .pointer (some ⟨w.heap.size + 1, 0, none⟩)] W fun e w' => e = .returned (.tuple #[.pointer (some ⟨w.heap.size + 1, 4, none⟩), .pointer (some ⟨w.heap.size + 1, 4, none⟩)]) ∧ Fr noB W w') := fun W h => by
    have := bends_false At N lim cm (w.heap.size + 1) t u fx false r1 c1 x1 y1 r2 c2 x2 y2 W h
    rw [e1, e2] at this
    exact this
  have HS : Hid (∀ W, Calls Tryd.prog 77 #[.agg #[.int .i64 At, .int .i64 N, .int .i64 lim, .bool cm, .bool false], .int .i64 r1, .int .i64 r1] W fun e w' => e = .returned (.tuple #[.int .i64 0, .int .i64 0, .bool false]) ∧ Fr noB W w') := fun W => by
    have := span_any At N lim cm false r1 r1 W h1 h2 h3 h4 h5 h6 (by omega) (by omega) (by omega) (by omega)
    unfold spaV at this
    rw [hsp, if_neg (by simp)] at this
    exact this
  have HH : Hid _ := And.intro hB (And.intro hR (And.intro hO hF0))
  have k0 := hB.c0; have k1 := hB.c1; have k2 := hB.c2; have k3 := hB.c3; have k4 := hB.c4
  clear hB hR hO hF0 hsp h1 h2 h3 h4 h5 h6 h7 h8 e1 e2
  go_enter Tryd.func67, Tryd.ntmps67
  go_wp2_with (go_at_call 76; refine (HE.out _ HH.out.2.1).mono ?_; rintro e w1 ⟨rfl, hF1⟩; have hB1 := HH.out.1.fr hF1; have m0 := hB1.c0; have m1 := hB1.c1; have m2 := hB1.c2; have m3 := hB1.c3; have m4 := hB1.c4; have hR1 := HH.out.2.1.fr hF1 id; have m5 := hR1.g4; have m6 := hR1.g4; have HF1 : Hid _ := hF1; clear hF1 hB1 hR1)
  go_region_held3 (fun w' => w'.cell? ⟨w.heap.size, 0, none⟩ = some (.int .i64 At) ∧ w'.cell? ⟨w.heap.size, 1, none⟩ = some (.int .i64 N) ∧ w'.cell? ⟨w.heap.size, 2, none⟩ = some (.int .i64 lim) ∧ w'.cell? ⟨w.heap.size, 3, none⟩ = some (.bool cm) ∧ w'.cell? ⟨w.heap.size, 4, none⟩ = some (.bool false) ∧ w'.cell? ⟨w.heap.size + 1, 4, none⟩ = some (.int .i64 r1)) (first | exact ⟨m0, m1, m2, m3, m4, m5⟩ | exact ⟨n0, n1, n2, n3, n4, n5⟩)
    (first
      | (go_at_call 77; refine (HS.out _).mono ?_; rintro e w2 ⟨rfl, hF2⟩; have hF3 : Fr noB W0 w2 := HF1.out.trans (((Fr.refl noB w1).drew).trans hF2); have hB2 := HH.out.1.fr hF3; have n0 := hB2.c0; have n1 := hB2.c1; have n2 := hB2.c2; have n3 := hB2.c3; have n4 := hB2.c4; have hR2 := HH.out.2.1.fr hF3 id; have n5 := hR2.g4; have n6 := hR2.g4; have HF3 : Hid _ := hF3; clear hF2 hF3 hB2 hR2))
  have HR2 : Hid _ := HH.out.2.1.fr HF3.out id
  have HO2 : Hid _ := HH.out.2.2.1.fr HF3.out id
  have HF : Hid _ := HH.out.2.2.2.trans HF3.out
  clear k0 k1 k2 k3 k4 m0 m1 m2 m3 m4 m5 m6 n0 n1 n2 n3 n4 n5 n6 HF1 HF3 hW0
  go_wp2_with (first
    | (refine wpList_store_row rfl 46 (.tmp 4) (.tmp 30) rfl (w.heap.size + 1 + 1) #[.string ⟨#[]⟩, .string ⟨#[]⟩, .bool false, .bool false, .int .i64 0, .int .i64 0, .bool false, .bool false, .int .i64 0, .int .i64 0, .bool false, .bool false] rfl rfl 46 _ HO2.out.o info_ref rfl (ref_one _ _ _ _ _ _ _ _ _ _ _ _) ?_))
  refine bodyPost_ret (rret2 rfl _ _ (w.heap.size + 1 + 1) rfl rfl (HO2.out.row ⟨#[]⟩ ⟨#[]⟩ false false 0 0 false false 0 0 false false)) rfl ⟨rfl, HF.out.setRowR _ (Or.inr (by omega)) _⟩
set_option maxRecDepth 100000 in
set_option maxHeartbeats 2000000 in
theorem bref_rls (At N lim : Int) (cm : Bool) (t u : ByteArray) (fx : Bool) (r1 c1 : Int) (x1 y1 : Bool) (r2 c2 : Int) (x2 y2 : Bool) (w : World) (h1 : 0 ≤ At) (h2 : At ≤ 1048576) (h3 : 0 ≤ N) (h4 : N ≤ 1048576) (h5 : 0 ≤ lim) (h6 : lim ≤ 1048576) (h7 : 0 ≤ r1) (h8 : r1 ≤ 1048576) (h9 : 0 ≤ r2) (h10 : r2 ≤ 1048576) (hlt : r2 < r1) (hsp : spaB At N lim cm r2 r1 = true) :
    Calls Tryd.prog 67 #[.agg #[.int .i64 At, .int .i64 N, .int .i64 lim, .bool cm, .bool false], (.agg #[.string t, .string u, .bool fx, .bool true, .int .i64 r1, .int .i64 c1, .bool x1, .bool y1, .int .i64 r2, .int .i64 c2, .bool x2, .bool y2])] w fun e w' => e = .returned (.tuple #[(.agg #[.string t, .string u, .bool fx, .bool true, .int .i64 (spaT At N lim cm r1), .int .i64 c1, .bool x1, .bool y1, .int .i64 (spaF At N lim cm r2), .int .i64 c2, .bool x2, .bool y2]), .bool true]) ∧ Fr noB w w' := by
  obtain ⟨W0, hW0⟩ : ∃ W0, ((w.alloc (.cells #[.int .i64 At, .int .i64 N, .int .i64 lim, .bool cm, .bool false] 60 (0, 0))).alloc (.cells #[.string t, .string u, .bool fx, .bool true, .int .i64 r1, .int .i64 c1, .bool x1, .bool y1, .int .i64 r2, .int .i64 c2, .bool x2, .bool y2] 46 (0, 0))).alloc (.cells #[.string ⟨#[]⟩, .string ⟨#[]⟩, .bool false, .bool false, .int .i64 0, .int .i64 0, .bool false, .bool false, .int .i64 0, .int .i64 0, .bool false, .bool false] 46 (0, 0)) = W0 := ⟨_, rfl⟩
  have hB : BAt W0 w.heap.size At N lim cm false := by rw [← hW0]; exact ⟨old1 (old1 (heap_alloc_new w _))⟩
  have hR : RAt W0 (w.heap.size + 1) t u fx true r1 c1 x1 y1 r2 c2 x2 y2 := by rw [← hW0]; exact ⟨old1 (new1 _ _ _ (by simp))⟩
  have hO : RAt W0 (w.heap.size + 1 + 1) ⟨#[]⟩ ⟨#[]⟩ false false 0 0 false false 0 0 false false := by rw [← hW0]; exact ⟨new1 _ _ _ (by simp)⟩
  have hF0 : Fr noB w W0 := by rw [← hW0]; exact (((Fr.refl noB w).alloc _).alloc _).alloc _
  have e1 : endA true false r1 c1 r2 c2 = 8 := by show (if r2 < r1 then 8 else 4) = _; rw [if_pos hlt]
  have e2 : endZ true false r1 c1 r2 c2 = 4 := by show (if r2 < r1 then 4 else 8) = _; rw [if_pos hlt]
  have HE : Hid (∀ W, RAt W (w.heap.size + 1) t u fx true r1 c1 x1 y1 r2 c2 x2 y2 → Calls Tryd.prog 76 #[.agg #[.int .i64 At, .int .i64 N, .int .i64 lim, .bool cm, .bool false], .pointer (some ⟨w.heap.size + 1, 0, none⟩)] W fun e w' => e = .returned (.tuple #[.pointer (some ⟨w.heap.size + 1, 8, none⟩), .pointer (some ⟨w.heap.size + 1, 4, none⟩)]) ∧ Fr noB W w') := fun W h => by
    have := bends_false At N lim cm (w.heap.size + 1) t u fx true r1 c1 x1 y1 r2 c2 x2 y2 W h
    rw [e1, e2] at this
    exact this
  have HS : Hid (∀ W, Calls Tryd.prog 77 #[.agg #[.int .i64 At, .int .i64 N, .int .i64 lim, .bool cm, .bool false], .int .i64 r2, .int .i64 r1] W fun e w' => e = .returned (.tuple #[.int .i64 (spaF At N lim cm r2), .int .i64 (spaT At N lim cm r1), .bool true]) ∧ Fr noB W w') := fun W => by
    have := span_any At N lim cm false r2 r1 W h1 h2 h3 h4 h5 h6 (by omega) (by omega) (by omega) (by omega)
    unfold spaV at this
    rw [hsp, if_pos rfl] at this
    exact this
  have HH : Hid _ := And.intro hB (And.intro hR (And.intro hO hF0))
  have k0 := hB.c0; have k1 := hB.c1; have k2 := hB.c2; have k3 := hB.c3; have k4 := hB.c4
  clear hB hR hO hF0 hsp h1 h2 h3 h4 h5 h6 h7 h8 e1 e2 h9 h10 hlt
  generalize spaF At N lim cm r2 = fi at *
  generalize spaT At N lim cm r1 = ti at *
  go_enter Tryd.func67, Tryd.ntmps67
  go_wp2_with (go_at_call 76; refine (HE.out _ HH.out.2.1).mono ?_; rintro e w1 ⟨rfl, hF1⟩; have hB1 := HH.out.1.fr hF1; have m0 := hB1.c0; have m1 := hB1.c1; have m2 := hB1.c2; have m3 := hB1.c3; have m4 := hB1.c4; have hR1 := HH.out.2.1.fr hF1 id; have m5 := hR1.g8; have m6 := hR1.g4; have HF1 : Hid _ := hF1; clear hF1 hB1 hR1)
  go_region_held3 (fun w' => w'.cell? ⟨w.heap.size, 0, none⟩ = some (.int .i64 At) ∧ w'.cell? ⟨w.heap.size, 1, none⟩ = some (.int .i64 N) ∧ w'.cell? ⟨w.heap.size, 2, none⟩ = some (.int .i64 lim) ∧ w'.cell? ⟨w.heap.size, 3, none⟩ = some (.bool cm) ∧ w'.cell? ⟨w.heap.size, 4, none⟩ = some (.bool false) ∧ w'.cell? ⟨w.heap.size + 1, 8, none⟩ = some (.int .i64 r2) ∧ w'.cell? ⟨w.heap.size + 1, 4, none⟩ = some (.int .i64 r1)) (first | exact ⟨m0, m1, m2, m3, m4, m5, m6⟩ | exact ⟨n0, n1, n2, n3, n4, n5, n6⟩)
    (first
      | (go_at_call 77; refine (HS.out _).mono ?_; rintro e w2 ⟨rfl, hF2⟩; have hF3 : Fr noB W0 w2 := HF1.out.trans (((Fr.refl noB w1).drew).trans hF2); have hB2 := HH.out.1.fr hF3; have n0 := hB2.c0; have n1 := hB2.c1; have n2 := hB2.c2; have n3 := hB2.c3; have n4 := hB2.c4; have hR2 := HH.out.2.1.fr hF3 id; have n5 := hR2.g8; have n6 := hR2.g4; have HF3 : Hid _ := hF3; clear hF2 hF3 hB2 hR2))
  have HR2 : Hid _ := HH.out.2.1.fr HF3.out id
  have HO2 : Hid _ := HH.out.2.2.1.fr HF3.out id
  have HF : Hid _ := HH.out.2.2.2.trans HF3.out
  clear k0 k1 k2 k3 k4 m0 m1 m2 m3 m4 m5 m6 n0 n1 n2 n3 n4 n5 n6 HF1 HF3 hW0
  have d0 := HR2.out.g8; have d1 := HR2.out.g4; have d2 := HR2.out.f 8; have d3 := HR2.out.f 4
  have HR3 : Hid _ := (HR2.out.s8 fi).s4 ti
  have HO3 : Hid (RAt ((w2.setCell ⟨w.heap.size + 1, 8, none⟩ (.int .i64 fi)).setCell ⟨w.heap.size + 1, 4, none⟩ (.int .i64 ti)) (w.heap.size + 1 + 1) ⟨#[]⟩ ⟨#[]⟩ false false 0 0 false false 0 0 false false) := (HO2.out.setO (w.heap.size + 1) 8 (.int .i64 fi) (by omega)).setO (w.heap.size + 1) 4 (.int .i64 ti) (by omega)
  have HF3 : Hid (Fr noB w ((w2.setCell ⟨w.heap.size + 1, 8, none⟩ (.int .i64 fi)).setCell ⟨w.heap.size + 1, 4, none⟩ (.int .i64 ti))) := ((HF.out.setCell ⟨w.heap.size + 1, 8, none⟩ (Or.inr (Nat.le_succ _)) _).setCell ⟨w.heap.size + 1, 4, none⟩ (Or.inr (Nat.le_succ _)) _)
  go_wp2_with (first
    | (refine wpList_load_row rfl 46 (.tmp 3) rfl (w.heap.size + 1) rfl 46 #[.string t, .string u, .bool fx, .bool true, .int .i64 ti, .int .i64 c1, .bool x1, .bool y1, .int .i64 fi, .int .i64 c2, .bool x2, .bool y2] (0, 0) _ HR3.out.o Tryd.underlying46 rfl info_ref ?_)
    | (refine wpList_store_row rfl 46 (.tmp 4) (.tmp 37) rfl (w.heap.size + 1 + 1) #[.string t, .string u, .bool fx, .bool true, .int .i64 ti, .int .i64 c1, .bool x1, .bool y1, .int .i64 fi, .int .i64 c2, .bool x2, .bool y2] rfl rfl 46 _ HO3.out.o info_ref rfl (ref_one _ _ _ _ _ _ _ _ _ _ _ _) ?_))
  refine bodyPost_ret (rret2 rfl _ _ (w.heap.size + 1 + 1) rfl rfl (HO3.out.row t u fx true ti c1 x1 y1 fi c2 x2 y2)) rfl ⟨rfl, HF3.out.setRowR _ (Or.inr (by omega)) _⟩
set_option maxRecDepth 100000 in
set_option maxHeartbeats 2000000 in
theorem bref_rlx (At N lim : Int) (cm : Bool) (t u : ByteArray) (fx : Bool) (r1 c1 : Int) (x1 y1 : Bool) (r2 c2 : Int) (x2 y2 : Bool) (w : World) (h1 : 0 ≤ At) (h2 : At ≤ 1048576) (h3 : 0 ≤ N) (h4 : N ≤ 1048576) (h5 : 0 ≤ lim) (h6 : lim ≤ 1048576) (h7 : 0 ≤ r1) (h8 : r1 ≤ 1048576) (h9 : 0 ≤ r2) (h10 : r2 ≤ 1048576) (hlt : r2 < r1) (hsp : spaB At N lim cm r2 r1 = false) :
    Calls Tryd.prog 67 #[.agg #[.int .i64 At, .int .i64 N, .int .i64 lim, .bool cm, .bool false], (.agg #[.string t, .string u, .bool fx, .bool true, .int .i64 r1, .int .i64 c1, .bool x1, .bool y1, .int .i64 r2, .int .i64 c2, .bool x2, .bool y2])] w fun e w' => e = .returned (.tuple #[(.agg #[.string ⟨#[]⟩, .string ⟨#[]⟩, .bool false, .bool false, .int .i64 0, .int .i64 0, .bool false, .bool false, .int .i64 0, .int .i64 0, .bool false, .bool false]), .bool false]) ∧ Fr noB w w' := by
  obtain ⟨W0, hW0⟩ : ∃ W0, ((w.alloc (.cells #[.int .i64 At, .int .i64 N, .int .i64 lim, .bool cm, .bool false] 60 (0, 0))).alloc (.cells #[.string t, .string u, .bool fx, .bool true, .int .i64 r1, .int .i64 c1, .bool x1, .bool y1, .int .i64 r2, .int .i64 c2, .bool x2, .bool y2] 46 (0, 0))).alloc (.cells #[.string ⟨#[]⟩, .string ⟨#[]⟩, .bool false, .bool false, .int .i64 0, .int .i64 0, .bool false, .bool false, .int .i64 0, .int .i64 0, .bool false, .bool false] 46 (0, 0)) = W0 := ⟨_, rfl⟩
  have hB : BAt W0 w.heap.size At N lim cm false := by rw [← hW0]; exact ⟨old1 (old1 (heap_alloc_new w _))⟩
  have hR : RAt W0 (w.heap.size + 1) t u fx true r1 c1 x1 y1 r2 c2 x2 y2 := by rw [← hW0]; exact ⟨old1 (new1 _ _ _ (by simp))⟩
  have hO : RAt W0 (w.heap.size + 1 + 1) ⟨#[]⟩ ⟨#[]⟩ false false 0 0 false false 0 0 false false := by rw [← hW0]; exact ⟨new1 _ _ _ (by simp)⟩
  have hF0 : Fr noB w W0 := by rw [← hW0]; exact (((Fr.refl noB w).alloc _).alloc _).alloc _
  have e1 : endA true false r1 c1 r2 c2 = 8 := by show (if r2 < r1 then 8 else 4) = _; rw [if_pos hlt]
  have e2 : endZ true false r1 c1 r2 c2 = 4 := by show (if r2 < r1 then 4 else 8) = _; rw [if_pos hlt]
  have HE : Hid (∀ W, RAt W (w.heap.size + 1) t u fx true r1 c1 x1 y1 r2 c2 x2 y2 → Calls Tryd.prog 76 #[.agg #[.int .i64 At, .int .i64 N, .int .i64 lim, .bool cm, .bool false], .pointer (some ⟨w.heap.size + 1, 0, none⟩)] W fun e w' => e = .returned (.tuple #[.pointer (some ⟨w.heap.size + 1, 8, none⟩), .pointer (some ⟨w.heap.size + 1, 4, none⟩)]) ∧ Fr noB W w') := fun W h => by
    have := bends_false At N lim cm (w.heap.size + 1) t u fx true r1 c1 x1 y1 r2 c2 x2 y2 W h
    rw [e1, e2] at this
    exact this
  have HS : Hid (∀ W, Calls Tryd.prog 77 #[.agg #[.int .i64 At, .int .i64 N, .int .i64 lim, .bool cm, .bool false], .int .i64 r2, .int .i64 r1] W fun e w' => e = .returned (.tuple #[.int .i64 0, .int .i64 0, .bool false]) ∧ Fr noB W w') := fun W => by
    have := span_any At N lim cm false r2 r1 W h1 h2 h3 h4 h5 h6 (by omega) (by omega) (by omega) (by omega)
    unfold spaV at this
    rw [hsp, if_neg (by simp)] at this
    exact this
  have HH : Hid _ := And.intro hB (And.intro hR (And.intro hO hF0))
  have k0 := hB.c0; have k1 := hB.c1; have k2 := hB.c2; have k3 := hB.c3; have k4 := hB.c4
  clear hB hR hO hF0 hsp h1 h2 h3 h4 h5 h6 h7 h8 e1 e2 h9 h10 hlt
  go_enter Tryd.func67, Tryd.ntmps67
  go_wp2_with (go_at_call 76; refine (HE.out _ HH.out.2.1).mono ?_; rintro e w1 ⟨rfl, hF1⟩; have hB1 := HH.out.1.fr hF1; have m0 := hB1.c0; have m1 := hB1.c1; have m2 := hB1.c2; have m3 := hB1.c3; have m4 := hB1.c4; have hR1 := HH.out.2.1.fr hF1 id; have m5 := hR1.g8; have m6 := hR1.g4; have HF1 : Hid _ := hF1; clear hF1 hB1 hR1)
  go_region_held3 (fun w' => w'.cell? ⟨w.heap.size, 0, none⟩ = some (.int .i64 At) ∧ w'.cell? ⟨w.heap.size, 1, none⟩ = some (.int .i64 N) ∧ w'.cell? ⟨w.heap.size, 2, none⟩ = some (.int .i64 lim) ∧ w'.cell? ⟨w.heap.size, 3, none⟩ = some (.bool cm) ∧ w'.cell? ⟨w.heap.size, 4, none⟩ = some (.bool false) ∧ w'.cell? ⟨w.heap.size + 1, 8, none⟩ = some (.int .i64 r2) ∧ w'.cell? ⟨w.heap.size + 1, 4, none⟩ = some (.int .i64 r1)) (first | exact ⟨m0, m1, m2, m3, m4, m5, m6⟩ | exact ⟨n0, n1, n2, n3, n4, n5, n6⟩)
    (first
      | (go_at_call 77; refine (HS.out _).mono ?_; rintro e w2 ⟨rfl, hF2⟩; have hF3 : Fr noB W0 w2 := HF1.out.trans (((Fr.refl noB w1).drew).trans hF2); have hB2 := HH.out.1.fr hF3; have n0 := hB2.c0; have n1 := hB2.c1; have n2 := hB2.c2; have n3 := hB2.c3; have n4 := hB2.c4; have hR2 := HH.out.2.1.fr hF3 id; have n5 := hR2.g8; have n6 := hR2.g4; have HF3 : Hid _ := hF3; clear hF2 hF3 hB2 hR2))
  have HR2 : Hid _ := HH.out.2.1.fr HF3.out id
  have HO2 : Hid _ := HH.out.2.2.1.fr HF3.out id
  have HF : Hid _ := HH.out.2.2.2.trans HF3.out
  clear k0 k1 k2 k3 k4 m0 m1 m2 m3 m4 m5 m6 n0 n1 n2 n3 n4 n5 n6 HF1 HF3 hW0
  go_wp2_with (first
    | (refine wpList_store_row rfl 46 (.tmp 4) (.tmp 30) rfl (w.heap.size + 1 + 1) #[.string ⟨#[]⟩, .string ⟨#[]⟩, .bool false, .bool false, .int .i64 0, .int .i64 0, .bool false, .bool false, .int .i64 0, .int .i64 0, .bool false, .bool false] rfl rfl 46 _ HO2.out.o info_ref rfl (ref_one _ _ _ _ _ _ _ _ _ _ _ _) ?_))
  refine bodyPost_ret (rret2 rfl _ _ (w.heap.size + 1 + 1) rfl rfl (HO2.out.row ⟨#[]⟩ ⟨#[]⟩ false false 0 0 false false 0 0 false false)) rfl ⟨rfl, HF.out.setRowR _ (Or.inr (by omega)) _⟩
set_option maxRecDepth 100000 in
set_option maxHeartbeats 2000000 in
theorem bref_rgs (At N lim : Int) (cm : Bool) (t u : ByteArray) (fx : Bool) (r1 c1 : Int) (x1 y1 : Bool) (r2 c2 : Int) (x2 y2 : Bool) (w : World) (h1 : 0 ≤ At) (h2 : At ≤ 1048576) (h3 : 0 ≤ N) (h4 : N ≤ 1048576) (h5 : 0 ≤ lim) (h6 : lim ≤ 1048576) (h7 : 0 ≤ r1) (h8 : r1 ≤ 1048576) (h9 : 0 ≤ r2) (h10 : r2 ≤ 1048576) (hlt : ¬ r2 < r1) (hsp : spaB At N lim cm r1 r2 = true) :
    Calls Tryd.prog 67 #[.agg #[.int .i64 At, .int .i64 N, .int .i64 lim, .bool cm, .bool false], (.agg #[.string t, .string u, .bool fx, .bool true, .int .i64 r1, .int .i64 c1, .bool x1, .bool y1, .int .i64 r2, .int .i64 c2, .bool x2, .bool y2])] w fun e w' => e = .returned (.tuple #[(.agg #[.string t, .string u, .bool fx, .bool true, .int .i64 (spaF At N lim cm r1), .int .i64 c1, .bool x1, .bool y1, .int .i64 (spaT At N lim cm r2), .int .i64 c2, .bool x2, .bool y2]), .bool true]) ∧ Fr noB w w' := by
  obtain ⟨W0, hW0⟩ : ∃ W0, ((w.alloc (.cells #[.int .i64 At, .int .i64 N, .int .i64 lim, .bool cm, .bool false] 60 (0, 0))).alloc (.cells #[.string t, .string u, .bool fx, .bool true, .int .i64 r1, .int .i64 c1, .bool x1, .bool y1, .int .i64 r2, .int .i64 c2, .bool x2, .bool y2] 46 (0, 0))).alloc (.cells #[.string ⟨#[]⟩, .string ⟨#[]⟩, .bool false, .bool false, .int .i64 0, .int .i64 0, .bool false, .bool false, .int .i64 0, .int .i64 0, .bool false, .bool false] 46 (0, 0)) = W0 := ⟨_, rfl⟩
  have hB : BAt W0 w.heap.size At N lim cm false := by rw [← hW0]; exact ⟨old1 (old1 (heap_alloc_new w _))⟩
  have hR : RAt W0 (w.heap.size + 1) t u fx true r1 c1 x1 y1 r2 c2 x2 y2 := by rw [← hW0]; exact ⟨old1 (new1 _ _ _ (by simp))⟩
  have hO : RAt W0 (w.heap.size + 1 + 1) ⟨#[]⟩ ⟨#[]⟩ false false 0 0 false false 0 0 false false := by rw [← hW0]; exact ⟨new1 _ _ _ (by simp)⟩
  have hF0 : Fr noB w W0 := by rw [← hW0]; exact (((Fr.refl noB w).alloc _).alloc _).alloc _
  have e1 : endA true false r1 c1 r2 c2 = 4 := by show (if r2 < r1 then 8 else 4) = _; rw [if_neg hlt]
  have e2 : endZ true false r1 c1 r2 c2 = 8 := by show (if r2 < r1 then 4 else 8) = _; rw [if_neg hlt]
  have HE : Hid (∀ W, RAt W (w.heap.size + 1) t u fx true r1 c1 x1 y1 r2 c2 x2 y2 → Calls Tryd.prog 76 #[.agg #[.int .i64 At, .int .i64 N, .int .i64 lim, .bool cm, .bool false], .pointer (some ⟨w.heap.size + 1, 0, none⟩)] W fun e w' => e = .returned (.tuple #[.pointer (some ⟨w.heap.size + 1, 4, none⟩), .pointer (some ⟨w.heap.size + 1, 8, none⟩)]) ∧ Fr noB W w') := fun W h => by
    have := bends_false At N lim cm (w.heap.size + 1) t u fx true r1 c1 x1 y1 r2 c2 x2 y2 W h
    rw [e1, e2] at this
    exact this
  have HS : Hid (∀ W, Calls Tryd.prog 77 #[.agg #[.int .i64 At, .int .i64 N, .int .i64 lim, .bool cm, .bool false], .int .i64 r1, .int .i64 r2] W fun e w' => e = .returned (.tuple #[.int .i64 (spaF At N lim cm r1), .int .i64 (spaT At N lim cm r2), .bool true]) ∧ Fr noB W w') := fun W => by
    have := span_any At N lim cm false r1 r2 W h1 h2 h3 h4 h5 h6 (by omega) (by omega) (by omega) (by omega)
    unfold spaV at this
    rw [hsp, if_pos rfl] at this
    exact this
  have HH : Hid _ := And.intro hB (And.intro hR (And.intro hO hF0))
  have k0 := hB.c0; have k1 := hB.c1; have k2 := hB.c2; have k3 := hB.c3; have k4 := hB.c4
  clear hB hR hO hF0 hsp h1 h2 h3 h4 h5 h6 h7 h8 e1 e2 h9 h10 hlt
  generalize spaF At N lim cm r1 = fi at *
  generalize spaT At N lim cm r2 = ti at *
  go_enter Tryd.func67, Tryd.ntmps67
  go_wp2_with (go_at_call 76; refine (HE.out _ HH.out.2.1).mono ?_; rintro e w1 ⟨rfl, hF1⟩; have hB1 := HH.out.1.fr hF1; have m0 := hB1.c0; have m1 := hB1.c1; have m2 := hB1.c2; have m3 := hB1.c3; have m4 := hB1.c4; have hR1 := HH.out.2.1.fr hF1 id; have m5 := hR1.g4; have m6 := hR1.g8; have HF1 : Hid _ := hF1; clear hF1 hB1 hR1)
  go_region_held3 (fun w' => w'.cell? ⟨w.heap.size, 0, none⟩ = some (.int .i64 At) ∧ w'.cell? ⟨w.heap.size, 1, none⟩ = some (.int .i64 N) ∧ w'.cell? ⟨w.heap.size, 2, none⟩ = some (.int .i64 lim) ∧ w'.cell? ⟨w.heap.size, 3, none⟩ = some (.bool cm) ∧ w'.cell? ⟨w.heap.size, 4, none⟩ = some (.bool false) ∧ w'.cell? ⟨w.heap.size + 1, 4, none⟩ = some (.int .i64 r1) ∧ w'.cell? ⟨w.heap.size + 1, 8, none⟩ = some (.int .i64 r2)) (first | exact ⟨m0, m1, m2, m3, m4, m5, m6⟩ | exact ⟨n0, n1, n2, n3, n4, n5, n6⟩)
    (first
      | (go_at_call 77; refine (HS.out _).mono ?_; rintro e w2 ⟨rfl, hF2⟩; have hF3 : Fr noB W0 w2 := HF1.out.trans (((Fr.refl noB w1).drew).trans hF2); have hB2 := HH.out.1.fr hF3; have n0 := hB2.c0; have n1 := hB2.c1; have n2 := hB2.c2; have n3 := hB2.c3; have n4 := hB2.c4; have hR2 := HH.out.2.1.fr hF3 id; have n5 := hR2.g4; have n6 := hR2.g8; have HF3 : Hid _ := hF3; clear hF2 hF3 hB2 hR2))
  have HR2 : Hid _ := HH.out.2.1.fr HF3.out id
  have HO2 : Hid _ := HH.out.2.2.1.fr HF3.out id
  have HF : Hid _ := HH.out.2.2.2.trans HF3.out
  clear k0 k1 k2 k3 k4 m0 m1 m2 m3 m4 m5 m6 n0 n1 n2 n3 n4 n5 n6 HF1 HF3 hW0
  have d0 := HR2.out.g4; have d1 := HR2.out.g8; have d2 := HR2.out.f 4; have d3 := HR2.out.f 8
  have HR3 : Hid _ := (HR2.out.s4 fi).s8 ti
  have HO3 : Hid (RAt ((w2.setCell ⟨w.heap.size + 1, 4, none⟩ (.int .i64 fi)).setCell ⟨w.heap.size + 1, 8, none⟩ (.int .i64 ti)) (w.heap.size + 1 + 1) ⟨#[]⟩ ⟨#[]⟩ false false 0 0 false false 0 0 false false) := (HO2.out.setO (w.heap.size + 1) 4 (.int .i64 fi) (by omega)).setO (w.heap.size + 1) 8 (.int .i64 ti) (by omega)
  have HF3 : Hid (Fr noB w ((w2.setCell ⟨w.heap.size + 1, 4, none⟩ (.int .i64 fi)).setCell ⟨w.heap.size + 1, 8, none⟩ (.int .i64 ti))) := ((HF.out.setCell ⟨w.heap.size + 1, 4, none⟩ (Or.inr (Nat.le_succ _)) _).setCell ⟨w.heap.size + 1, 8, none⟩ (Or.inr (Nat.le_succ _)) _)
  go_wp2_with (first
    | (refine wpList_load_row rfl 46 (.tmp 3) rfl (w.heap.size + 1) rfl 46 #[.string t, .string u, .bool fx, .bool true, .int .i64 fi, .int .i64 c1, .bool x1, .bool y1, .int .i64 ti, .int .i64 c2, .bool x2, .bool y2] (0, 0) _ HR3.out.o Tryd.underlying46 rfl info_ref ?_)
    | (refine wpList_store_row rfl 46 (.tmp 4) (.tmp 37) rfl (w.heap.size + 1 + 1) #[.string t, .string u, .bool fx, .bool true, .int .i64 fi, .int .i64 c1, .bool x1, .bool y1, .int .i64 ti, .int .i64 c2, .bool x2, .bool y2] rfl rfl 46 _ HO3.out.o info_ref rfl (ref_one _ _ _ _ _ _ _ _ _ _ _ _) ?_))
  refine bodyPost_ret (rret2 rfl _ _ (w.heap.size + 1 + 1) rfl rfl (HO3.out.row t u fx true fi c1 x1 y1 ti c2 x2 y2)) rfl ⟨rfl, HF3.out.setRowR _ (Or.inr (by omega)) _⟩
set_option maxRecDepth 100000 in
set_option maxHeartbeats 2000000 in
theorem bref_rgx (At N lim : Int) (cm : Bool) (t u : ByteArray) (fx : Bool) (r1 c1 : Int) (x1 y1 : Bool) (r2 c2 : Int) (x2 y2 : Bool) (w : World) (h1 : 0 ≤ At) (h2 : At ≤ 1048576) (h3 : 0 ≤ N) (h4 : N ≤ 1048576) (h5 : 0 ≤ lim) (h6 : lim ≤ 1048576) (h7 : 0 ≤ r1) (h8 : r1 ≤ 1048576) (h9 : 0 ≤ r2) (h10 : r2 ≤ 1048576) (hlt : ¬ r2 < r1) (hsp : spaB At N lim cm r1 r2 = false) :
    Calls Tryd.prog 67 #[.agg #[.int .i64 At, .int .i64 N, .int .i64 lim, .bool cm, .bool false], (.agg #[.string t, .string u, .bool fx, .bool true, .int .i64 r1, .int .i64 c1, .bool x1, .bool y1, .int .i64 r2, .int .i64 c2, .bool x2, .bool y2])] w fun e w' => e = .returned (.tuple #[(.agg #[.string ⟨#[]⟩, .string ⟨#[]⟩, .bool false, .bool false, .int .i64 0, .int .i64 0, .bool false, .bool false, .int .i64 0, .int .i64 0, .bool false, .bool false]), .bool false]) ∧ Fr noB w w' := by
  obtain ⟨W0, hW0⟩ : ∃ W0, ((w.alloc (.cells #[.int .i64 At, .int .i64 N, .int .i64 lim, .bool cm, .bool false] 60 (0, 0))).alloc (.cells #[.string t, .string u, .bool fx, .bool true, .int .i64 r1, .int .i64 c1, .bool x1, .bool y1, .int .i64 r2, .int .i64 c2, .bool x2, .bool y2] 46 (0, 0))).alloc (.cells #[.string ⟨#[]⟩, .string ⟨#[]⟩, .bool false, .bool false, .int .i64 0, .int .i64 0, .bool false, .bool false, .int .i64 0, .int .i64 0, .bool false, .bool false] 46 (0, 0)) = W0 := ⟨_, rfl⟩
  have hB : BAt W0 w.heap.size At N lim cm false := by rw [← hW0]; exact ⟨old1 (old1 (heap_alloc_new w _))⟩
  have hR : RAt W0 (w.heap.size + 1) t u fx true r1 c1 x1 y1 r2 c2 x2 y2 := by rw [← hW0]; exact ⟨old1 (new1 _ _ _ (by simp))⟩
  have hO : RAt W0 (w.heap.size + 1 + 1) ⟨#[]⟩ ⟨#[]⟩ false false 0 0 false false 0 0 false false := by rw [← hW0]; exact ⟨new1 _ _ _ (by simp)⟩
  have hF0 : Fr noB w W0 := by rw [← hW0]; exact (((Fr.refl noB w).alloc _).alloc _).alloc _
  have e1 : endA true false r1 c1 r2 c2 = 4 := by show (if r2 < r1 then 8 else 4) = _; rw [if_neg hlt]
  have e2 : endZ true false r1 c1 r2 c2 = 8 := by show (if r2 < r1 then 4 else 8) = _; rw [if_neg hlt]
  have HE : Hid (∀ W, RAt W (w.heap.size + 1) t u fx true r1 c1 x1 y1 r2 c2 x2 y2 → Calls Tryd.prog 76 #[.agg #[.int .i64 At, .int .i64 N, .int .i64 lim, .bool cm, .bool false], .pointer (some ⟨w.heap.size + 1, 0, none⟩)] W fun e w' => e = .returned (.tuple #[.pointer (some ⟨w.heap.size + 1, 4, none⟩), .pointer (some ⟨w.heap.size + 1, 8, none⟩)]) ∧ Fr noB W w') := fun W h => by
    have := bends_false At N lim cm (w.heap.size + 1) t u fx true r1 c1 x1 y1 r2 c2 x2 y2 W h
    rw [e1, e2] at this
    exact this
  have HS : Hid (∀ W, Calls Tryd.prog 77 #[.agg #[.int .i64 At, .int .i64 N, .int .i64 lim, .bool cm, .bool false], .int .i64 r1, .int .i64 r2] W fun e w' => e = .returned (.tuple #[.int .i64 0, .int .i64 0, .bool false]) ∧ Fr noB W w') := fun W => by
    have := span_any At N lim cm false r1 r2 W h1 h2 h3 h4 h5 h6 (by omega) (by omega) (by omega) (by omega)
    unfold spaV at this
    rw [hsp, if_neg (by simp)] at this
    exact this
  have HH : Hid _ := And.intro hB (And.intro hR (And.intro hO hF0))
  have k0 := hB.c0; have k1 := hB.c1; have k2 := hB.c2; have k3 := hB.c3; have k4 := hB.c4
  clear hB hR hO hF0 hsp h1 h2 h3 h4 h5 h6 h7 h8 e1 e2 h9 h10 hlt
  go_enter Tryd.func67, Tryd.ntmps67
  go_wp2_with (go_at_call 76; refine (HE.out _ HH.out.2.1).mono ?_; rintro e w1 ⟨rfl, hF1⟩; have hB1 := HH.out.1.fr hF1; have m0 := hB1.c0; have m1 := hB1.c1; have m2 := hB1.c2; have m3 := hB1.c3; have m4 := hB1.c4; have hR1 := HH.out.2.1.fr hF1 id; have m5 := hR1.g4; have m6 := hR1.g8; have HF1 : Hid _ := hF1; clear hF1 hB1 hR1)
  go_region_held3 (fun w' => w'.cell? ⟨w.heap.size, 0, none⟩ = some (.int .i64 At) ∧ w'.cell? ⟨w.heap.size, 1, none⟩ = some (.int .i64 N) ∧ w'.cell? ⟨w.heap.size, 2, none⟩ = some (.int .i64 lim) ∧ w'.cell? ⟨w.heap.size, 3, none⟩ = some (.bool cm) ∧ w'.cell? ⟨w.heap.size, 4, none⟩ = some (.bool false) ∧ w'.cell? ⟨w.heap.size + 1, 4, none⟩ = some (.int .i64 r1) ∧ w'.cell? ⟨w.heap.size + 1, 8, none⟩ = some (.int .i64 r2)) (first | exact ⟨m0, m1, m2, m3, m4, m5, m6⟩ | exact ⟨n0, n1, n2, n3, n4, n5, n6⟩)
    (first
      | (go_at_call 77; refine (HS.out _).mono ?_; rintro e w2 ⟨rfl, hF2⟩; have hF3 : Fr noB W0 w2 := HF1.out.trans (((Fr.refl noB w1).drew).trans hF2); have hB2 := HH.out.1.fr hF3; have n0 := hB2.c0; have n1 := hB2.c1; have n2 := hB2.c2; have n3 := hB2.c3; have n4 := hB2.c4; have hR2 := HH.out.2.1.fr hF3 id; have n5 := hR2.g4; have n6 := hR2.g8; have HF3 : Hid _ := hF3; clear hF2 hF3 hB2 hR2))
  have HR2 : Hid _ := HH.out.2.1.fr HF3.out id
  have HO2 : Hid _ := HH.out.2.2.1.fr HF3.out id
  have HF : Hid _ := HH.out.2.2.2.trans HF3.out
  clear k0 k1 k2 k3 k4 m0 m1 m2 m3 m4 m5 m6 n0 n1 n2 n3 n4 n5 n6 HF1 HF3 hW0
  go_wp2_with (first
    | (refine wpList_store_row rfl 46 (.tmp 4) (.tmp 30) rfl (w.heap.size + 1 + 1) #[.string ⟨#[]⟩, .string ⟨#[]⟩, .bool false, .bool false, .int .i64 0, .int .i64 0, .bool false, .bool false, .int .i64 0, .int .i64 0, .bool false, .bool false] rfl rfl 46 _ HO2.out.o info_ref rfl (ref_one _ _ _ _ _ _ _ _ _ _ _ _) ?_))
  refine bodyPost_ret (rret2 rfl _ _ (w.heap.size + 1 + 1) rfl rfl (HO2.out.row ⟨#[]⟩ ⟨#[]⟩ false false 0 0 false false 0 0 false false)) rfl ⟨rfl, HF.out.setRowR _ (Or.inr (by omega)) _⟩
set_option maxRecDepth 100000 in
set_option maxHeartbeats 2000000 in
theorem bref_cns (At N lim : Int) (cm : Bool) (t u : ByteArray) (fx : Bool) (r1 c1 : Int) (x1 y1 : Bool) (r2 c2 : Int) (x2 y2 : Bool) (w : World) (h1 : 0 ≤ At) (h2 : At ≤ 1048576) (h3 : 0 ≤ N) (h4 : N ≤ 1048576) (h5 : 0 ≤ lim) (h6 : lim ≤ 1048576) (h7 : 0 ≤ c1) (h8 : c1 ≤ 1048576) (hsp : spaB At N lim cm c1 c1 = true) :
    Calls Tryd.prog 67 #[.agg #[.int .i64 At, .int .i64 N, .int .i64 lim, .bool cm, .bool true], (.agg #[.string t, .string u, .bool fx, .bool false, .int .i64 r1, .int .i64 c1, .bool x1, .bool y1, .int .i64 r2, .int .i64 c2, .bool x2, .bool y2])] w fun e w' => e = .returned (.tuple #[(.agg #[.string t, .string u, .bool fx, .bool false, .int .i64 r1, .int .i64 (spaT At N lim cm c1), .bool x1, .bool y1, .int .i64 r2, .int .i64 c2, .bool x2, .bool y2]), .bool true]) ∧ Fr noB w w' := by
  obtain ⟨W0, hW0⟩ : ∃ W0, ((w.alloc (.cells #[.int .i64 At, .int .i64 N, .int .i64 lim, .bool cm, .bool true] 60 (0, 0))).alloc (.cells #[.string t, .string u, .bool fx, .bool false, .int .i64 r1, .int .i64 c1, .bool x1, .bool y1, .int .i64 r2, .int .i64 c2, .bool x2, .bool y2] 46 (0, 0))).alloc (.cells #[.string ⟨#[]⟩, .string ⟨#[]⟩, .bool false, .bool false, .int .i64 0, .int .i64 0, .bool false, .bool false, .int .i64 0, .int .i64 0, .bool false, .bool false] 46 (0, 0)) = W0 := ⟨_, rfl⟩
  have hB : BAt W0 w.heap.size At N lim cm true := by rw [← hW0]; exact ⟨old1 (old1 (heap_alloc_new w _))⟩
  have hR : RAt W0 (w.heap.size + 1) t u fx false r1 c1 x1 y1 r2 c2 x2 y2 := by rw [← hW0]; exact ⟨old1 (new1 _ _ _ (by simp))⟩
  have hO : RAt W0 (w.heap.size + 1 + 1) ⟨#[]⟩ ⟨#[]⟩ false false 0 0 false false 0 0 false false := by rw [← hW0]; exact ⟨new1 _ _ _ (by simp)⟩
  have hF0 : Fr noB w W0 := by rw [← hW0]; exact (((Fr.refl noB w).alloc _).alloc _).alloc _
  have e1 : endA false true r1 c1 r2 c2 = 5 := by rfl
  have e2 : endZ false true r1 c1 r2 c2 = 5 := by rfl
  have HE : Hid (∀ W, RAt W (w.heap.size + 1) t u fx false r1 c1 x1 y1 r2 c2 x2 y2 → Calls Tryd.prog 76 #[.agg #[.int .i64 At, .int .i64 N, .int .i64 lim, .bool cm, .bool true], .pointer (some ⟨w.heap.size + 1, 0, none⟩)] W fun e w' => e = .returned (.tuple #[.pointer (some ⟨w.heap.size + 1, 5, none⟩), .pointer (some ⟨w.heap.size + 1, 5, none⟩)]) ∧ Fr noB W w') := fun W h => by
    have := bends_true At N lim cm (w.heap.size + 1) t u fx false r1 c1 x1 y1 r2 c2 x2 y2 W h
    rw [e1, e2] at this
    exact this
  have HS : Hid (∀ W, Calls Tryd.prog 77 #[.agg #[.int .i64 At, .int .i64 N, .int .i64 lim, .bool cm, .bool true], .int .i64 c1, .int .i64 c1] W fun e w' => e = .returned (.tuple #[.int .i64 (spaF At N lim cm c1), .int .i64 (spaT At N lim cm c1), .bool true]) ∧ Fr noB W w') := fun W => by
    have := span_any At N lim cm true c1 c1 W h1 h2 h3 h4 h5 h6 (by omega) (by omega) (by omega) (by omega)
    unfold spaV at this
    rw [hsp, if_pos rfl] at this
    exact this
  have HH : Hid _ := And.intro hB (And.intro hR (And.intro hO hF0))
  have k0 := hB.c0; have k1 := hB.c1; have k2 := hB.c2; have k3 := hB.c3; have k4 := hB.c4
  clear hB hR hO hF0 hsp h1 h2 h3 h4 h5 h6 h7 h8 e1 e2
  generalize spaF At N lim cm c1 = fi at *
  generalize spaT At N lim cm c1 = ti at *
  go_enter Tryd.func67, Tryd.ntmps67
  go_wp2_with (go_at_call 76; refine (HE.out _ HH.out.2.1).mono ?_; rintro e w1 ⟨rfl, hF1⟩; have hB1 := HH.out.1.fr hF1; have m0 := hB1.c0; have m1 := hB1.c1; have m2 := hB1.c2; have m3 := hB1.c3; have m4 := hB1.c4; have hR1 := HH.out.2.1.fr hF1 id; have m5 := hR1.g5; have m6 := hR1.g5; have HF1 : Hid _ := hF1; clear hF1 hB1 hR1)
  go_region_held3 (fun w' => w'.cell? ⟨w.heap.size, 0, none⟩ = some (.int .i64 At) ∧ w'.cell? ⟨w.heap.size, 1, none⟩ = some (.int .i64 N) ∧ w'.cell? ⟨w.heap.size, 2, none⟩ = some (.int .i64 lim) ∧ w'.cell? ⟨w.heap.size, 3, none⟩ = some (.bool cm) ∧ w'.cell? ⟨w.heap.size, 4, none⟩ = some (.bool true) ∧ w'.cell? ⟨w.heap.size + 1, 5, none⟩ = some (.int .i64 c1)) (first | exact ⟨m0, m1, m2, m3, m4, m5⟩ | exact ⟨n0, n1, n2, n3, n4, n5⟩)
    (first
      | (go_at_call 77; refine (HS.out _).mono ?_; rintro e w2 ⟨rfl, hF2⟩; have hF3 : Fr noB W0 w2 := HF1.out.trans (((Fr.refl noB w1).drew).trans hF2); have hB2 := HH.out.1.fr hF3; have n0 := hB2.c0; have n1 := hB2.c1; have n2 := hB2.c2; have n3 := hB2.c3; have n4 := hB2.c4; have hR2 := HH.out.2.1.fr hF3 id; have n5 := hR2.g5; have n6 := hR2.g5; have HF3 : Hid _ := hF3; clear hF2 hF3 hB2 hR2))
  have HR2 : Hid _ := HH.out.2.1.fr HF3.out id
  have HO2 : Hid _ := HH.out.2.2.1.fr HF3.out id
  have HF : Hid _ := HH.out.2.2.2.trans HF3.out
  clear k0 k1 k2 k3 k4 m0 m1 m2 m3 m4 m5 m6 n0 n1 n2 n3 n4 n5 n6 HF1 HF3 hW0
  have d0 := HR2.out.g5; have d1 := HR2.out.g5; have d2 := HR2.out.f 5; have d3 := HR2.out.f 5
  have HR3 : Hid _ := (HR2.out.s5 fi).s5 ti
  have HO3 : Hid (RAt ((w2.setCell ⟨w.heap.size + 1, 5, none⟩ (.int .i64 fi)).setCell ⟨w.heap.size + 1, 5, none⟩ (.int .i64 ti)) (w.heap.size + 1 + 1) ⟨#[]⟩ ⟨#[]⟩ false false 0 0 false false 0 0 false false) := (HO2.out.setO (w.heap.size + 1) 5 (.int .i64 fi) (by omega)).setO (w.heap.size + 1) 5 (.int .i64 ti) (by omega)
  have HF3 : Hid (Fr noB w ((w2.setCell ⟨w.heap.size + 1, 5, none⟩ (.int .i64 fi)).setCell ⟨w.heap.size + 1, 5, none⟩ (.int .i64 ti))) := ((HF.out.setCell ⟨w.heap.size + 1, 5, none⟩ (Or.inr (Nat.le_succ _)) _).setCell ⟨w.heap.size + 1, 5, none⟩ (Or.inr (Nat.le_succ _)) _)
  go_wp2_with (first
    | (refine wpList_load_row rfl 46 (.tmp 3) rfl (w.heap.size + 1) rfl 46 #[.string t, .string u, .bool fx, .bool false, .int .i64 r1, .int .i64 ti, .bool x1, .bool y1, .int .i64 r2, .int .i64 c2, .bool x2, .bool y2] (0, 0) _ HR3.out.o Tryd.underlying46 rfl info_ref ?_)
    | (refine wpList_store_row rfl 46 (.tmp 4) (.tmp 37) rfl (w.heap.size + 1 + 1) #[.string t, .string u, .bool fx, .bool false, .int .i64 r1, .int .i64 ti, .bool x1, .bool y1, .int .i64 r2, .int .i64 c2, .bool x2, .bool y2] rfl rfl 46 _ HO3.out.o info_ref rfl (ref_one _ _ _ _ _ _ _ _ _ _ _ _) ?_))
  refine bodyPost_ret (rret2 rfl _ _ (w.heap.size + 1 + 1) rfl rfl (HO3.out.row t u fx false r1 ti x1 y1 r2 c2 x2 y2)) rfl ⟨rfl, HF3.out.setRowR _ (Or.inr (by omega)) _⟩
set_option maxRecDepth 100000 in
set_option maxHeartbeats 2000000 in
theorem bref_cnx (At N lim : Int) (cm : Bool) (t u : ByteArray) (fx : Bool) (r1 c1 : Int) (x1 y1 : Bool) (r2 c2 : Int) (x2 y2 : Bool) (w : World) (h1 : 0 ≤ At) (h2 : At ≤ 1048576) (h3 : 0 ≤ N) (h4 : N ≤ 1048576) (h5 : 0 ≤ lim) (h6 : lim ≤ 1048576) (h7 : 0 ≤ c1) (h8 : c1 ≤ 1048576) (hsp : spaB At N lim cm c1 c1 = false) :
    Calls Tryd.prog 67 #[.agg #[.int .i64 At, .int .i64 N, .int .i64 lim, .bool cm, .bool true], (.agg #[.string t, .string u, .bool fx, .bool false, .int .i64 r1, .int .i64 c1, .bool x1, .bool y1, .int .i64 r2, .int .i64 c2, .bool x2, .bool y2])] w fun e w' => e = .returned (.tuple #[(.agg #[.string ⟨#[]⟩, .string ⟨#[]⟩, .bool false, .bool false, .int .i64 0, .int .i64 0, .bool false, .bool false, .int .i64 0, .int .i64 0, .bool false, .bool false]), .bool false]) ∧ Fr noB w w' := by
  obtain ⟨W0, hW0⟩ : ∃ W0, ((w.alloc (.cells #[.int .i64 At, .int .i64 N, .int .i64 lim, .bool cm, .bool true] 60 (0, 0))).alloc (.cells #[.string t, .string u, .bool fx, .bool false, .int .i64 r1, .int .i64 c1, .bool x1, .bool y1, .int .i64 r2, .int .i64 c2, .bool x2, .bool y2] 46 (0, 0))).alloc (.cells #[.string ⟨#[]⟩, .string ⟨#[]⟩, .bool false, .bool false, .int .i64 0, .int .i64 0, .bool false, .bool false, .int .i64 0, .int .i64 0, .bool false, .bool false] 46 (0, 0)) = W0 := ⟨_, rfl⟩
  have hB : BAt W0 w.heap.size At N lim cm true := by rw [← hW0]; exact ⟨old1 (old1 (heap_alloc_new w _))⟩
  have hR : RAt W0 (w.heap.size + 1) t u fx false r1 c1 x1 y1 r2 c2 x2 y2 := by rw [← hW0]; exact ⟨old1 (new1 _ _ _ (by simp))⟩
  have hO : RAt W0 (w.heap.size + 1 + 1) ⟨#[]⟩ ⟨#[]⟩ false false 0 0 false false 0 0 false false := by rw [← hW0]; exact ⟨new1 _ _ _ (by simp)⟩
  have hF0 : Fr noB w W0 := by rw [← hW0]; exact (((Fr.refl noB w).alloc _).alloc _).alloc _
  have e1 : endA false true r1 c1 r2 c2 = 5 := by rfl
  have e2 : endZ false true r1 c1 r2 c2 = 5 := by rfl
  have HE : Hid (∀ W, RAt W (w.heap.size + 1) t u fx false r1 c1 x1 y1 r2 c2 x2 y2 → Calls Tryd.prog 76 #[.agg #[.int .i64 At, .int .i64 N, .int .i64 lim, .bool cm, .bool true], .pointer (some ⟨w.heap.size + 1, 0, none⟩)] W fun e w' => e = .returned (.tuple #[.pointer (some ⟨w.heap.size + 1, 5, none⟩), .pointer (some ⟨w.heap.size + 1, 5, none⟩)]) ∧ Fr noB W w') := fun W h => by
    have := bends_true At N lim cm (w.heap.size + 1) t u fx false r1 c1 x1 y1 r2 c2 x2 y2 W h
    rw [e1, e2] at this
    exact this
  have HS : Hid (∀ W, Calls Tryd.prog 77 #[.agg #[.int .i64 At, .int .i64 N, .int .i64 lim, .bool cm, .bool true], .int .i64 c1, .int .i64 c1] W fun e w' => e = .returned (.tuple #[.int .i64 0, .int .i64 0, .bool false]) ∧ Fr noB W w') := fun W => by
    have := span_any At N lim cm true c1 c1 W h1 h2 h3 h4 h5 h6 (by omega) (by omega) (by omega) (by omega)
    unfold spaV at this
    rw [hsp, if_neg (by simp)] at this
    exact this
  have HH : Hid _ := And.intro hB (And.intro hR (And.intro hO hF0))
  have k0 := hB.c0; have k1 := hB.c1; have k2 := hB.c2; have k3 := hB.c3; have k4 := hB.c4
  clear hB hR hO hF0 hsp h1 h2 h3 h4 h5 h6 h7 h8 e1 e2
  go_enter Tryd.func67, Tryd.ntmps67
  go_wp2_with (go_at_call 76; refine (HE.out _ HH.out.2.1).mono ?_; rintro e w1 ⟨rfl, hF1⟩; have hB1 := HH.out.1.fr hF1; have m0 := hB1.c0; have m1 := hB1.c1; have m2 := hB1.c2; have m3 := hB1.c3; have m4 := hB1.c4; have hR1 := HH.out.2.1.fr hF1 id; have m5 := hR1.g5; have m6 := hR1.g5; have HF1 : Hid _ := hF1; clear hF1 hB1 hR1)
  go_region_held3 (fun w' => w'.cell? ⟨w.heap.size, 0, none⟩ = some (.int .i64 At) ∧ w'.cell? ⟨w.heap.size, 1, none⟩ = some (.int .i64 N) ∧ w'.cell? ⟨w.heap.size, 2, none⟩ = some (.int .i64 lim) ∧ w'.cell? ⟨w.heap.size, 3, none⟩ = some (.bool cm) ∧ w'.cell? ⟨w.heap.size, 4, none⟩ = some (.bool true) ∧ w'.cell? ⟨w.heap.size + 1, 5, none⟩ = some (.int .i64 c1)) (first | exact ⟨m0, m1, m2, m3, m4, m5⟩ | exact ⟨n0, n1, n2, n3, n4, n5⟩)
    (first
      | (go_at_call 77; refine (HS.out _).mono ?_; rintro e w2 ⟨rfl, hF2⟩; have hF3 : Fr noB W0 w2 := HF1.out.trans (((Fr.refl noB w1).drew).trans hF2); have hB2 := HH.out.1.fr hF3; have n0 := hB2.c0; have n1 := hB2.c1; have n2 := hB2.c2; have n3 := hB2.c3; have n4 := hB2.c4; have hR2 := HH.out.2.1.fr hF3 id; have n5 := hR2.g5; have n6 := hR2.g5; have HF3 : Hid _ := hF3; clear hF2 hF3 hB2 hR2))
  have HR2 : Hid _ := HH.out.2.1.fr HF3.out id
  have HO2 : Hid _ := HH.out.2.2.1.fr HF3.out id
  have HF : Hid _ := HH.out.2.2.2.trans HF3.out
  clear k0 k1 k2 k3 k4 m0 m1 m2 m3 m4 m5 m6 n0 n1 n2 n3 n4 n5 n6 HF1 HF3 hW0
  go_wp2_with (first
    | (refine wpList_store_row rfl 46 (.tmp 4) (.tmp 30) rfl (w.heap.size + 1 + 1) #[.string ⟨#[]⟩, .string ⟨#[]⟩, .bool false, .bool false, .int .i64 0, .int .i64 0, .bool false, .bool false, .int .i64 0, .int .i64 0, .bool false, .bool false] rfl rfl 46 _ HO2.out.o info_ref rfl (ref_one _ _ _ _ _ _ _ _ _ _ _ _) ?_))
  refine bodyPost_ret (rret2 rfl _ _ (w.heap.size + 1 + 1) rfl rfl (HO2.out.row ⟨#[]⟩ ⟨#[]⟩ false false 0 0 false false 0 0 false false)) rfl ⟨rfl, HF.out.setRowR _ (Or.inr (by omega)) _⟩
set_option maxRecDepth 100000 in
set_option maxHeartbeats 2000000 in
theorem bref_cls (At N lim : Int) (cm : Bool) (t u : ByteArray) (fx : Bool) (r1 c1 : Int) (x1 y1 : Bool) (r2 c2 : Int) (x2 y2 : Bool) (w : World) (h1 : 0 ≤ At) (h2 : At ≤ 1048576) (h3 : 0 ≤ N) (h4 : N ≤ 1048576) (h5 : 0 ≤ lim) (h6 : lim ≤ 1048576) (h7 : 0 ≤ c1) (h8 : c1 ≤ 1048576) (h9 : 0 ≤ c2) (h10 : c2 ≤ 1048576) (hlt : c2 < c1) (hsp : spaB At N lim cm c2 c1 = true) :
    Calls Tryd.prog 67 #[.agg #[.int .i64 At, .int .i64 N, .int .i64 lim, .bool cm, .bool true], (.agg #[.string t, .string u, .bool fx, .bool true, .int .i64 r1, .int .i64 c1, .bool x1, .bool y1, .int .i64 r2, .int .i64 c2, .bool x2, .bool y2])] w fun e w' => e = .returned (.tuple #[(.agg #[.string t, .string u, .bool fx, .bool true, .int .i64 r1, .int .i64 (spaT At N lim cm c1), .bool x1, .bool y1, .int .i64 r2, .int .i64 (spaF At N lim cm c2), .bool x2, .bool y2]), .bool true]) ∧ Fr noB w w' := by
  obtain ⟨W0, hW0⟩ : ∃ W0, ((w.alloc (.cells #[.int .i64 At, .int .i64 N, .int .i64 lim, .bool cm, .bool true] 60 (0, 0))).alloc (.cells #[.string t, .string u, .bool fx, .bool true, .int .i64 r1, .int .i64 c1, .bool x1, .bool y1, .int .i64 r2, .int .i64 c2, .bool x2, .bool y2] 46 (0, 0))).alloc (.cells #[.string ⟨#[]⟩, .string ⟨#[]⟩, .bool false, .bool false, .int .i64 0, .int .i64 0, .bool false, .bool false, .int .i64 0, .int .i64 0, .bool false, .bool false] 46 (0, 0)) = W0 := ⟨_, rfl⟩
  have hB : BAt W0 w.heap.size At N lim cm true := by rw [← hW0]; exact ⟨old1 (old1 (heap_alloc_new w _))⟩
  have hR : RAt W0 (w.heap.size + 1) t u fx true r1 c1 x1 y1 r2 c2 x2 y2 := by rw [← hW0]; exact ⟨old1 (new1 _ _ _ (by simp))⟩
  have hO : RAt W0 (w.heap.size + 1 + 1) ⟨#[]⟩ ⟨#[]⟩ false false 0 0 false false 0 0 false false := by rw [← hW0]; exact ⟨new1 _ _ _ (by simp)⟩
  have hF0 : Fr noB w W0 := by rw [← hW0]; exact (((Fr.refl noB w).alloc _).alloc _).alloc _
  have e1 : endA true true r1 c1 r2 c2 = 9 := by show (if c2 < c1 then 9 else 5) = _; rw [if_pos hlt]
  have e2 : endZ true true r1 c1 r2 c2 = 5 := by show (if c2 < c1 then 5 else 9) = _; rw [if_pos hlt]
  have HE : Hid (∀ W, RAt W (w.heap.size + 1) t u fx true r1 c1 x1 y1 r2 c2 x2 y2 → Calls Tryd.prog 76 #[.agg #[.int .i64 At, .int .i64 N, .int .i64 lim, .bool cm, .bool true], .pointer (some ⟨w.heap.size + 1, 0, none⟩)] W fun e w' => e = .returned (.tuple #[.pointer (some ⟨w.heap.size + 1, 9, none⟩), .pointer (some ⟨w.heap.size + 1, 5, none⟩)]) ∧ Fr noB W w') := fun W h => by
    have := bends_true At N lim cm (w.heap.size + 1) t u fx true r1 c1 x1 y1 r2 c2 x2 y2 W h
    rw [e1, e2] at this
    exact this
  have HS : Hid (∀ W, Calls Tryd.prog 77 #[.agg #[.int .i64 At, .int .i64 N, .int .i64 lim, .bool cm, .bool true], .int .i64 c2, .int .i64 c1] W fun e w' => e = .returned (.tuple #[.int .i64 (spaF At N lim cm c2), .int .i64 (spaT At N lim cm c1), .bool true]) ∧ Fr noB W w') := fun W => by
    have := span_any At N lim cm true c2 c1 W h1 h2 h3 h4 h5 h6 (by omega) (by omega) (by omega) (by omega)
    unfold spaV at this
    rw [hsp, if_pos rfl] at this
    exact this
  have HH : Hid _ := And.intro hB (And.intro hR (And.intro hO hF0))
  have k0 := hB.c0; have k1 := hB.c1; have k2 := hB.c2; have k3 := hB.c3; have k4 := hB.c4
  clear hB hR hO hF0 hsp h1 h2 h3 h4 h5 h6 h7 h8 e1 e2 h9 h10 hlt
  generalize spaF At N lim cm c2 = fi at *
  generalize spaT At N lim cm c1 = ti at *
  go_enter Tryd.func67, Tryd.ntmps67
  go_wp2_with (go_at_call 76; refine (HE.out _ HH.out.2.1).mono ?_; rintro e w1 ⟨rfl, hF1⟩; have hB1 := HH.out.1.fr hF1; have m0 := hB1.c0; have m1 := hB1.c1; have m2 := hB1.c2; have m3 := hB1.c3; have m4 := hB1.c4; have hR1 := HH.out.2.1.fr hF1 id; have m5 := hR1.g9; have m6 := hR1.g5; have HF1 : Hid _ := hF1; clear hF1 hB1 hR1)
  go_region_held3 (fun w' => w'.cell? ⟨w.heap.size, 0, none⟩ = some (.int .i64 At) ∧ w'.cell? ⟨w.heap.size, 1, none⟩ = some (.int .i64 N) ∧ w'.cell? ⟨w.heap.size, 2, none⟩ = some (.int .i64 lim) ∧ w'.cell? ⟨w.heap.size, 3, none⟩ = some (.bool cm) ∧ w'.cell? ⟨w.heap.size, 4, none⟩ = some (.bool true) ∧ w'.cell? ⟨w.heap.size + 1, 9, none⟩ = some (.int .i64 c2) ∧ w'.cell? ⟨w.heap.size + 1, 5, none⟩ = some (.int .i64 c1)) (first | exact ⟨m0, m1, m2, m3, m4, m5, m6⟩ | exact ⟨n0, n1, n2, n3, n4, n5, n6⟩)
    (first
      | (go_at_call 77; refine (HS.out _).mono ?_; rintro e w2 ⟨rfl, hF2⟩; have hF3 : Fr noB W0 w2 := HF1.out.trans (((Fr.refl noB w1).drew).trans hF2); have hB2 := HH.out.1.fr hF3; have n0 := hB2.c0; have n1 := hB2.c1; have n2 := hB2.c2; have n3 := hB2.c3; have n4 := hB2.c4; have hR2 := HH.out.2.1.fr hF3 id; have n5 := hR2.g9; have n6 := hR2.g5; have HF3 : Hid _ := hF3; clear hF2 hF3 hB2 hR2))
  have HR2 : Hid _ := HH.out.2.1.fr HF3.out id
  have HO2 : Hid _ := HH.out.2.2.1.fr HF3.out id
  have HF : Hid _ := HH.out.2.2.2.trans HF3.out
  clear k0 k1 k2 k3 k4 m0 m1 m2 m3 m4 m5 m6 n0 n1 n2 n3 n4 n5 n6 HF1 HF3 hW0
  have d0 := HR2.out.g9; have d1 := HR2.out.g5; have d2 := HR2.out.f 9; have d3 := HR2.out.f 5
  have HR3 : Hid _ := (HR2.out.s9 fi).s5 ti
  have HO3 : Hid (RAt ((w2.setCell ⟨w.heap.size + 1, 9, none⟩ (.int .i64 fi)).setCell ⟨w.heap.size + 1, 5, none⟩ (.int .i64 ti)) (w.heap.size + 1 + 1) ⟨#[]⟩ ⟨#[]⟩ false false 0 0 false false 0 0 false false) := (HO2.out.setO (w.heap.size + 1) 9 (.int .i64 fi) (by omega)).setO (w.heap.size + 1) 5 (.int .i64 ti) (by omega)
  have HF3 : Hid (Fr noB w ((w2.setCell ⟨w.heap.size + 1, 9, none⟩ (.int .i64 fi)).setCell ⟨w.heap.size + 1, 5, none⟩ (.int .i64 ti))) := ((HF.out.setCell ⟨w.heap.size + 1, 9, none⟩ (Or.inr (Nat.le_succ _)) _).setCell ⟨w.heap.size + 1, 5, none⟩ (Or.inr (Nat.le_succ _)) _)
  go_wp2_with (first
    | (refine wpList_load_row rfl 46 (.tmp 3) rfl (w.heap.size + 1) rfl 46 #[.string t, .string u, .bool fx, .bool true, .int .i64 r1, .int .i64 ti, .bool x1, .bool y1, .int .i64 r2, .int .i64 fi, .bool x2, .bool y2] (0, 0) _ HR3.out.o Tryd.underlying46 rfl info_ref ?_)
    | (refine wpList_store_row rfl 46 (.tmp 4) (.tmp 37) rfl (w.heap.size + 1 + 1) #[.string t, .string u, .bool fx, .bool true, .int .i64 r1, .int .i64 ti, .bool x1, .bool y1, .int .i64 r2, .int .i64 fi, .bool x2, .bool y2] rfl rfl 46 _ HO3.out.o info_ref rfl (ref_one _ _ _ _ _ _ _ _ _ _ _ _) ?_))
  refine bodyPost_ret (rret2 rfl _ _ (w.heap.size + 1 + 1) rfl rfl (HO3.out.row t u fx true r1 ti x1 y1 r2 fi x2 y2)) rfl ⟨rfl, HF3.out.setRowR _ (Or.inr (by omega)) _⟩
set_option maxRecDepth 100000 in
set_option maxHeartbeats 2000000 in
theorem bref_clx (At N lim : Int) (cm : Bool) (t u : ByteArray) (fx : Bool) (r1 c1 : Int) (x1 y1 : Bool) (r2 c2 : Int) (x2 y2 : Bool) (w : World) (h1 : 0 ≤ At) (h2 : At ≤ 1048576) (h3 : 0 ≤ N) (h4 : N ≤ 1048576) (h5 : 0 ≤ lim) (h6 : lim ≤ 1048576) (h7 : 0 ≤ c1) (h8 : c1 ≤ 1048576) (h9 : 0 ≤ c2) (h10 : c2 ≤ 1048576) (hlt : c2 < c1) (hsp : spaB At N lim cm c2 c1 = false) :
    Calls Tryd.prog 67 #[.agg #[.int .i64 At, .int .i64 N, .int .i64 lim, .bool cm, .bool true], (.agg #[.string t, .string u, .bool fx, .bool true, .int .i64 r1, .int .i64 c1, .bool x1, .bool y1, .int .i64 r2, .int .i64 c2, .bool x2, .bool y2])] w fun e w' => e = .returned (.tuple #[(.agg #[.string ⟨#[]⟩, .string ⟨#[]⟩, .bool false, .bool false, .int .i64 0, .int .i64 0, .bool false, .bool false, .int .i64 0, .int .i64 0, .bool false, .bool false]), .bool false]) ∧ Fr noB w w' := by
  obtain ⟨W0, hW0⟩ : ∃ W0, ((w.alloc (.cells #[.int .i64 At, .int .i64 N, .int .i64 lim, .bool cm, .bool true] 60 (0, 0))).alloc (.cells #[.string t, .string u, .bool fx, .bool true, .int .i64 r1, .int .i64 c1, .bool x1, .bool y1, .int .i64 r2, .int .i64 c2, .bool x2, .bool y2] 46 (0, 0))).alloc (.cells #[.string ⟨#[]⟩, .string ⟨#[]⟩, .bool false, .bool false, .int .i64 0, .int .i64 0, .bool false, .bool false, .int .i64 0, .int .i64 0, .bool false, .bool false] 46 (0, 0)) = W0 := ⟨_, rfl⟩
  have hB : BAt W0 w.heap.size At N lim cm true := by rw [← hW0]; exact ⟨old1 (old1 (heap_alloc_new w _))⟩
  have hR : RAt W0 (w.heap.size + 1) t u fx true r1 c1 x1 y1 r2 c2 x2 y2 := by rw [← hW0]; exact ⟨old1 (new1 _ _ _ (by simp))⟩
  have hO : RAt W0 (w.heap.size + 1 + 1) ⟨#[]⟩ ⟨#[]⟩ false false 0 0 false false 0 0 false false := by rw [← hW0]; exact ⟨new1 _ _ _ (by simp)⟩
  have hF0 : Fr noB w W0 := by rw [← hW0]; exact (((Fr.refl noB w).alloc _).alloc _).alloc _
  have e1 : endA true true r1 c1 r2 c2 = 9 := by show (if c2 < c1 then 9 else 5) = _; rw [if_pos hlt]
  have e2 : endZ true true r1 c1 r2 c2 = 5 := by show (if c2 < c1 then 5 else 9) = _; rw [if_pos hlt]
  have HE : Hid (∀ W, RAt W (w.heap.size + 1) t u fx true r1 c1 x1 y1 r2 c2 x2 y2 → Calls Tryd.prog 76 #[.agg #[.int .i64 At, .int .i64 N, .int .i64 lim, .bool cm, .bool true], .pointer (some ⟨w.heap.size + 1, 0, none⟩)] W fun e w' => e = .returned (.tuple #[.pointer (some ⟨w.heap.size + 1, 9, none⟩), .pointer (some ⟨w.heap.size + 1, 5, none⟩)]) ∧ Fr noB W w') := fun W h => by
    have := bends_true At N lim cm (w.heap.size + 1) t u fx true r1 c1 x1 y1 r2 c2 x2 y2 W h
    rw [e1, e2] at this
    exact this
  have HS : Hid (∀ W, Calls Tryd.prog 77 #[.agg #[.int .i64 At, .int .i64 N, .int .i64 lim, .bool cm, .bool true], .int .i64 c2, .int .i64 c1] W fun e w' => e = .returned (.tuple #[.int .i64 0, .int .i64 0, .bool false]) ∧ Fr noB W w') := fun W => by
    have := span_any At N lim cm true c2 c1 W h1 h2 h3 h4 h5 h6 (by omega) (by omega) (by omega) (by omega)
    unfold spaV at this
    rw [hsp, if_neg (by simp)] at this
    exact this
  have HH : Hid _ := And.intro hB (And.intro hR (And.intro hO hF0))
  have k0 := hB.c0; have k1 := hB.c1; have k2 := hB.c2; have k3 := hB.c3; have k4 := hB.c4
  clear hB hR hO hF0 hsp h1 h2 h3 h4 h5 h6 h7 h8 e1 e2 h9 h10 hlt
  go_enter Tryd.func67, Tryd.ntmps67
  go_wp2_with (go_at_call 76; refine (HE.out _ HH.out.2.1).mono ?_; rintro e w1 ⟨rfl, hF1⟩; have hB1 := HH.out.1.fr hF1; have m0 := hB1.c0; have m1 := hB1.c1; have m2 := hB1.c2; have m3 := hB1.c3; have m4 := hB1.c4; have hR1 := HH.out.2.1.fr hF1 id; have m5 := hR1.g9; have m6 := hR1.g5; have HF1 : Hid _ := hF1; clear hF1 hB1 hR1)
  go_region_held3 (fun w' => w'.cell? ⟨w.heap.size, 0, none⟩ = some (.int .i64 At) ∧ w'.cell? ⟨w.heap.size, 1, none⟩ = some (.int .i64 N) ∧ w'.cell? ⟨w.heap.size, 2, none⟩ = some (.int .i64 lim) ∧ w'.cell? ⟨w.heap.size, 3, none⟩ = some (.bool cm) ∧ w'.cell? ⟨w.heap.size, 4, none⟩ = some (.bool true) ∧ w'.cell? ⟨w.heap.size + 1, 9, none⟩ = some (.int .i64 c2) ∧ w'.cell? ⟨w.heap.size + 1, 5, none⟩ = some (.int .i64 c1)) (first | exact ⟨m0, m1, m2, m3, m4, m5, m6⟩ | exact ⟨n0, n1, n2, n3, n4, n5, n6⟩)
    (first
      | (go_at_call 77; refine (HS.out _).mono ?_; rintro e w2 ⟨rfl, hF2⟩; have hF3 : Fr noB W0 w2 := HF1.out.trans (((Fr.refl noB w1).drew).trans hF2); have hB2 := HH.out.1.fr hF3; have n0 := hB2.c0; have n1 := hB2.c1; have n2 := hB2.c2; have n3 := hB2.c3; have n4 := hB2.c4; have hR2 := HH.out.2.1.fr hF3 id; have n5 := hR2.g9; have n6 := hR2.g5; have HF3 : Hid _ := hF3; clear hF2 hF3 hB2 hR2))
  have HR2 : Hid _ := HH.out.2.1.fr HF3.out id
  have HO2 : Hid _ := HH.out.2.2.1.fr HF3.out id
  have HF : Hid _ := HH.out.2.2.2.trans HF3.out
  clear k0 k1 k2 k3 k4 m0 m1 m2 m3 m4 m5 m6 n0 n1 n2 n3 n4 n5 n6 HF1 HF3 hW0
  go_wp2_with (first
    | (refine wpList_store_row rfl 46 (.tmp 4) (.tmp 30) rfl (w.heap.size + 1 + 1) #[.string ⟨#[]⟩, .string ⟨#[]⟩, .bool false, .bool false, .int .i64 0, .int .i64 0, .bool false, .bool false, .int .i64 0, .int .i64 0, .bool false, .bool false] rfl rfl 46 _ HO2.out.o info_ref rfl (ref_one _ _ _ _ _ _ _ _ _ _ _ _) ?_))
  refine bodyPost_ret (rret2 rfl _ _ (w.heap.size + 1 + 1) rfl rfl (HO2.out.row ⟨#[]⟩ ⟨#[]⟩ false false 0 0 false false 0 0 false false)) rfl ⟨rfl, HF.out.setRowR _ (Or.inr (by omega)) _⟩
set_option maxRecDepth 100000 in
set_option maxHeartbeats 2000000 in
theorem bref_cgs (At N lim : Int) (cm : Bool) (t u : ByteArray) (fx : Bool) (r1 c1 : Int) (x1 y1 : Bool) (r2 c2 : Int) (x2 y2 : Bool) (w : World) (h1 : 0 ≤ At) (h2 : At ≤ 1048576) (h3 : 0 ≤ N) (h4 : N ≤ 1048576) (h5 : 0 ≤ lim) (h6 : lim ≤ 1048576) (h7 : 0 ≤ c1) (h8 : c1 ≤ 1048576) (h9 : 0 ≤ c2) (h10 : c2 ≤ 1048576) (hlt : ¬ c2 < c1) (hsp : spaB At N lim cm c1 c2 = true) :
    Calls Tryd.prog 67 #[.agg #[.int .i64 At, .int .i64 N, .int .i64 lim, .bool cm, .bool true], (.agg #[.string t, .string u, .bool fx, .bool true, .int .i64 r1, .int .i64 c1, .bool x1, .bool y1, .int .i64 r2, .int .i64 c2, .bool x2, .bool y2])] w fun e w' => e = .returned (.tuple #[(.agg #[.string t, .string u, .bool fx, .bool true, .int .i64 r1, .int .i64 (spaF At N lim cm c1), .bool x1, .bool y1, .int .i64 r2, .int .i64 (spaT At N lim cm c2), .bool x2, .bool y2]), .bool true]) ∧ Fr noB w w' := by
  obtain ⟨W0, hW0⟩ : ∃ W0, ((w.alloc (.cells #[.int .i64 At, .int .i64 N, .int .i64 lim, .bool cm, .bool true] 60 (0, 0))).alloc (.cells #[.string t, .string u, .bool fx, .bool true, .int .i64 r1, .int .i64 c1, .bool x1, .bool y1, .int .i64 r2, .int .i64 c2, .bool x2, .bool y2] 46 (0, 0))).alloc (.cells #[.string ⟨#[]⟩, .string ⟨#[]⟩, .bool false, .bool false, .int .i64 0, .int .i64 0, .bool false, .bool false, .int .i64 0, .int .i64 0, .bool false, .bool false] 46 (0, 0)) = W0 := ⟨_, rfl⟩
  have hB : BAt W0 w.heap.size At N lim cm true := by rw [← hW0]; exact ⟨old1 (old1 (heap_alloc_new w _))⟩
  have hR : RAt W0 (w.heap.size + 1) t u fx true r1 c1 x1 y1 r2 c2 x2 y2 := by rw [← hW0]; exact ⟨old1 (new1 _ _ _ (by simp))⟩
  have hO : RAt W0 (w.heap.size + 1 + 1) ⟨#[]⟩ ⟨#[]⟩ false false 0 0 false false 0 0 false false := by rw [← hW0]; exact ⟨new1 _ _ _ (by simp)⟩
  have hF0 : Fr noB w W0 := by rw [← hW0]; exact (((Fr.refl noB w).alloc _).alloc _).alloc _
  have e1 : endA true true r1 c1 r2 c2 = 5 := by show (if c2 < c1 then 9 else 5) = _; rw [if_neg hlt]
  have e2 : endZ true true r1 c1 r2 c2 = 9 := by show (if c2 < c1 then 5 else 9) = _; rw [if_neg hlt]
  have HE : Hid (∀ W, RAt W (w.heap.size + 1) t u fx true r1 c1 x1 y1 r2 c2 x2 y2 → Calls Tryd.prog 76 #[.agg #[.int .i64 At, .int .i64 N, .int .i64 lim, .bool cm, .bool true], .pointer (some ⟨w.heap.size + 1, 0, none⟩)] W fun e w' => e = .returned (.tuple #[.pointer (some ⟨w.heap.size + 1, 5, none⟩), .pointer (some ⟨w.heap.size + 1, 9, none⟩)]) ∧ Fr noB W w') := fun W h => by
    have := bends_true At N lim cm (w.heap.size + 1) t u fx true r1 c1 x1 y1 r2 c2 x2 y2 W h
    rw [e1, e2] at this
    exact this
  have HS : Hid (∀ W, Calls Tryd.prog 77 #[.agg #[.int .i64 At, .int .i64 N, .int .i64 lim, .bool cm, .bool true], .int .i64 c1, .int .i64 c2] W fun e w' => e = .returned (.tuple #[.int .i64 (spaF At N lim cm c1), .int .i64 (spaT At N lim cm c2), .bool true]) ∧ Fr noB W w') := fun W => by
    have := span_any At N lim cm true c1 c2 W h1 h2 h3 h4 h5 h6 (by omega) (by omega) (by omega) (by omega)
    unfold spaV at this
    rw [hsp, if_pos rfl] at this
    exact this
  have HH : Hid _ := And.intro hB (And.intro hR (And.intro hO hF0))
  have k0 := hB.c0; have k1 := hB.c1; have k2 := hB.c2; have k3 := hB.c3; have k4 := hB.c4
  clear hB hR hO hF0 hsp h1 h2 h3 h4 h5 h6 h7 h8 e1 e2 h9 h10 hlt
  generalize spaF At N lim cm c1 = fi at *
  generalize spaT At N lim cm c2 = ti at *
  go_enter Tryd.func67, Tryd.ntmps67
  go_wp2_with (go_at_call 76; refine (HE.out _ HH.out.2.1).mono ?_; rintro e w1 ⟨rfl, hF1⟩; have hB1 := HH.out.1.fr hF1; have m0 := hB1.c0; have m1 := hB1.c1; have m2 := hB1.c2; have m3 := hB1.c3; have m4 := hB1.c4; have hR1 := HH.out.2.1.fr hF1 id; have m5 := hR1.g5; have m6 := hR1.g9; have HF1 : Hid _ := hF1; clear hF1 hB1 hR1)
  go_region_held3 (fun w' => w'.cell? ⟨w.heap.size, 0, none⟩ = some (.int .i64 At) ∧ w'.cell? ⟨w.heap.size, 1, none⟩ = some (.int .i64 N) ∧ w'.cell? ⟨w.heap.size, 2, none⟩ = some (.int .i64 lim) ∧ w'.cell? ⟨w.heap.size, 3, none⟩ = some (.bool cm) ∧ w'.cell? ⟨w.heap.size, 4, none⟩ = some (.bool true) ∧ w'.cell? ⟨w.heap.size + 1, 5, none⟩ = some (.int .i64 c1) ∧ w'.cell? ⟨w.heap.size + 1, 9, none⟩ = some (.int .i64 c2)) (first | exact ⟨m0, m1, m2, m3, m4, m5, m6⟩ | exact ⟨n0, n1, n2, n3, n4, n5, n6⟩)
    (first
      | (go_at_call 77; refine (HS.out _).mono ?_; rintro e w2 ⟨rfl, hF2⟩; have hF3 : Fr noB W0 w2 := HF1.out.trans (((Fr.refl noB w1).drew).trans hF2); have hB2 := HH.out.1.fr hF3; have n0 := hB2.c0; have n1 := hB2.c1; have n2 := hB2.c2; have n3 := hB2.c3; have n4 := hB2.c4; have hR2 := HH.out.2.1.fr hF3 id; have n5 := hR2.g5; have n6 := hR2.g9; have HF3 : Hid _ := hF3; clear hF2 hF3 hB2 hR2))
  have HR2 : Hid _ := HH.out.2.1.fr HF3.out id
  have HO2 : Hid _ := HH.out.2.2.1.fr HF3.out id
  have HF : Hid _ := HH.out.2.2.2.trans HF3.out
  clear k0 k1 k2 k3 k4 m0 m1 m2 m3 m4 m5 m6 n0 n1 n2 n3 n4 n5 n6 HF1 HF3 hW0
  have d0 := HR2.out.g5; have d1 := HR2.out.g9; have d2 := HR2.out.f 5; have d3 := HR2.out.f 9
  have HR3 : Hid _ := (HR2.out.s5 fi).s9 ti
  have HO3 : Hid (RAt ((w2.setCell ⟨w.heap.size + 1, 5, none⟩ (.int .i64 fi)).setCell ⟨w.heap.size + 1, 9, none⟩ (.int .i64 ti)) (w.heap.size + 1 + 1) ⟨#[]⟩ ⟨#[]⟩ false false 0 0 false false 0 0 false false) := (HO2.out.setO (w.heap.size + 1) 5 (.int .i64 fi) (by omega)).setO (w.heap.size + 1) 9 (.int .i64 ti) (by omega)
  have HF3 : Hid (Fr noB w ((w2.setCell ⟨w.heap.size + 1, 5, none⟩ (.int .i64 fi)).setCell ⟨w.heap.size + 1, 9, none⟩ (.int .i64 ti))) := ((HF.out.setCell ⟨w.heap.size + 1, 5, none⟩ (Or.inr (Nat.le_succ _)) _).setCell ⟨w.heap.size + 1, 9, none⟩ (Or.inr (Nat.le_succ _)) _)
  go_wp2_with (first
    | (refine wpList_load_row rfl 46 (.tmp 3) rfl (w.heap.size + 1) rfl 46 #[.string t, .string u, .bool fx, .bool true, .int .i64 r1, .int .i64 fi, .bool x1, .bool y1, .int .i64 r2, .int .i64 ti, .bool x2, .bool y2] (0, 0) _ HR3.out.o Tryd.underlying46 rfl info_ref ?_)
    | (refine wpList_store_row rfl 46 (.tmp 4) (.tmp 37) rfl (w.heap.size + 1 + 1) #[.string t, .string u, .bool fx, .bool true, .int .i64 r1, .int .i64 fi, .bool x1, .bool y1, .int .i64 r2, .int .i64 ti, .bool x2, .bool y2] rfl rfl 46 _ HO3.out.o info_ref rfl (ref_one _ _ _ _ _ _ _ _ _ _ _ _) ?_))
  refine bodyPost_ret (rret2 rfl _ _ (w.heap.size + 1 + 1) rfl rfl (HO3.out.row t u fx true r1 fi x1 y1 r2 ti x2 y2)) rfl ⟨rfl, HF3.out.setRowR _ (Or.inr (by omega)) _⟩
set_option maxRecDepth 100000 in
set_option maxHeartbeats 2000000 in
theorem bref_cgx (At N lim : Int) (cm : Bool) (t u : ByteArray) (fx : Bool) (r1 c1 : Int) (x1 y1 : Bool) (r2 c2 : Int) (x2 y2 : Bool) (w : World) (h1 : 0 ≤ At) (h2 : At ≤ 1048576) (h3 : 0 ≤ N) (h4 : N ≤ 1048576) (h5 : 0 ≤ lim) (h6 : lim ≤ 1048576) (h7 : 0 ≤ c1) (h8 : c1 ≤ 1048576) (h9 : 0 ≤ c2) (h10 : c2 ≤ 1048576) (hlt : ¬ c2 < c1) (hsp : spaB At N lim cm c1 c2 = false) :
    Calls Tryd.prog 67 #[.agg #[.int .i64 At, .int .i64 N, .int .i64 lim, .bool cm, .bool true], (.agg #[.string t, .string u, .bool fx, .bool true, .int .i64 r1, .int .i64 c1, .bool x1, .bool y1, .int .i64 r2, .int .i64 c2, .bool x2, .bool y2])] w fun e w' => e = .returned (.tuple #[(.agg #[.string ⟨#[]⟩, .string ⟨#[]⟩, .bool false, .bool false, .int .i64 0, .int .i64 0, .bool false, .bool false, .int .i64 0, .int .i64 0, .bool false, .bool false]), .bool false]) ∧ Fr noB w w' := by
  obtain ⟨W0, hW0⟩ : ∃ W0, ((w.alloc (.cells #[.int .i64 At, .int .i64 N, .int .i64 lim, .bool cm, .bool true] 60 (0, 0))).alloc (.cells #[.string t, .string u, .bool fx, .bool true, .int .i64 r1, .int .i64 c1, .bool x1, .bool y1, .int .i64 r2, .int .i64 c2, .bool x2, .bool y2] 46 (0, 0))).alloc (.cells #[.string ⟨#[]⟩, .string ⟨#[]⟩, .bool false, .bool false, .int .i64 0, .int .i64 0, .bool false, .bool false, .int .i64 0, .int .i64 0, .bool false, .bool false] 46 (0, 0)) = W0 := ⟨_, rfl⟩
  have hB : BAt W0 w.heap.size At N lim cm true := by rw [← hW0]; exact ⟨old1 (old1 (heap_alloc_new w _))⟩
  have hR : RAt W0 (w.heap.size + 1) t u fx true r1 c1 x1 y1 r2 c2 x2 y2 := by rw [← hW0]; exact ⟨old1 (new1 _ _ _ (by simp))⟩
  have hO : RAt W0 (w.heap.size + 1 + 1) ⟨#[]⟩ ⟨#[]⟩ false false 0 0 false false 0 0 false false := by rw [← hW0]; exact ⟨new1 _ _ _ (by simp)⟩
  have hF0 : Fr noB w W0 := by rw [← hW0]; exact (((Fr.refl noB w).alloc _).alloc _).alloc _
  have e1 : endA true true r1 c1 r2 c2 = 5 := by show (if c2 < c1 then 9 else 5) = _; rw [if_neg hlt]
  have e2 : endZ true true r1 c1 r2 c2 = 9 := by show (if c2 < c1 then 5 else 9) = _; rw [if_neg hlt]
  have HE : Hid (∀ W, RAt W (w.heap.size + 1) t u fx true r1 c1 x1 y1 r2 c2 x2 y2 → Calls Tryd.prog 76 #[.agg #[.int .i64 At, .int .i64 N, .int .i64 lim, .bool cm, .bool true], .pointer (some ⟨w.heap.size + 1, 0, none⟩)] W fun e w' => e = .returned (.tuple #[.pointer (some ⟨w.heap.size + 1, 5, none⟩), .pointer (some ⟨w.heap.size + 1, 9, none⟩)]) ∧ Fr noB W w') := fun W h => by
    have := bends_true At N lim cm (w.heap.size + 1) t u fx true r1 c1 x1 y1 r2 c2 x2 y2 W h
    rw [e1, e2] at this
    exact this
  have HS : Hid (∀ W, Calls Tryd.prog 77 #[.agg #[.int .i64 At, .int .i64 N, .int .i64 lim, .bool cm, .bool true], .int .i64 c1, .int .i64 c2] W fun e w' => e = .returned (.tuple #[.int .i64 0, .int .i64 0, .bool false]) ∧ Fr noB W w') := fun W => by
    have := span_any At N lim cm true c1 c2 W h1 h2 h3 h4 h5 h6 (by omega) (by omega) (by omega) (by omega)
    unfold spaV at this
    rw [hsp, if_neg (by simp)] at this
    exact this
  have HH : Hid _ := And.intro hB (And.intro hR (And.intro hO hF0))
  have k0 := hB.c0; have k1 := hB.c1; have k2 := hB.c2; have k3 := hB.c3; have k4 := hB.c4
  clear hB hR hO hF0 hsp h1 h2 h3 h4 h5 h6 h7 h8 e1 e2 h9 h10 hlt
  go_enter Tryd.func67, Tryd.ntmps67
  go_wp2_with (go_at_call 76; refine (HE.out _ HH.out.2.1).mono ?_; rintro e w1 ⟨rfl, hF1⟩; have hB1 := HH.out.1.fr hF1; have m0 := hB1.c0; have m1 := hB1.c1; have m2 := hB1.c2; have m3 := hB1.c3; have m4 := hB1.c4; have hR1 := HH.out.2.1.fr hF1 id; have m5 := hR1.g5; have m6 := hR1.g9; have HF1 : Hid _ := hF1; clear hF1 hB1 hR1)
  go_region_held3 (fun w' => w'.cell? ⟨w.heap.size, 0, none⟩ = some (.int .i64 At) ∧ w'.cell? ⟨w.heap.size, 1, none⟩ = some (.int .i64 N) ∧ w'.cell? ⟨w.heap.size, 2, none⟩ = some (.int .i64 lim) ∧ w'.cell? ⟨w.heap.size, 3, none⟩ = some (.bool cm) ∧ w'.cell? ⟨w.heap.size, 4, none⟩ = some (.bool true) ∧ w'.cell? ⟨w.heap.size + 1, 5, none⟩ = some (.int .i64 c1) ∧ w'.cell? ⟨w.heap.size + 1, 9, none⟩ = some (.int .i64 c2)) (first | exact ⟨m0, m1, m2, m3, m4, m5, m6⟩ | exact ⟨n0, n1, n2, n3, n4, n5, n6⟩)
    (first
      | (go_at_call 77; refine (HS.out _).mono ?_; rintro e w2 ⟨rfl, hF2⟩; have hF3 : Fr noB W0 w2 := HF1.out.trans (((Fr.refl noB w1).drew).trans hF2); have hB2 := HH.out.1.fr hF3; have n0 := hB2.c0; have n1 := hB2.c1; have n2 := hB2.c2; have n3 := hB2.c3; have n4 := hB2.c4; have hR2 := HH.out.2.1.fr hF3 id; have n5 := hR2.g5; have n6 := hR2.g9; have HF3 : Hid _ := hF3; clear hF2 hF3 hB2 hR2))
  have HR2 : Hid _ := HH.out.2.1.fr HF3.out id
  have HO2 : Hid _ := HH.out.2.2.1.fr HF3.out id
  have HF : Hid _ := HH.out.2.2.2.trans HF3.out
  clear k0 k1 k2 k3 k4 m0 m1 m2 m3 m4 m5 m6 n0 n1 n2 n3 n4 n5 n6 HF1 HF3 hW0
  go_wp2_with (first
    | (refine wpList_store_row rfl 46 (.tmp 4) (.tmp 30) rfl (w.heap.size + 1 + 1) #[.string ⟨#[]⟩, .string ⟨#[]⟩, .bool false, .bool false, .int .i64 0, .int .i64 0, .bool false, .bool false, .int .i64 0, .int .i64 0, .bool false, .bool false] rfl rfl 46 _ HO2.out.o info_ref rfl (ref_one _ _ _ _ _ _ _ _ _ _ _ _) ?_))
  refine bodyPost_ret (rret2 rfl _ _ (w.heap.size + 1 + 1) rfl rfl (HO2.out.row ⟨#[]⟩ ⟨#[]⟩ false false 0 0 false false 0 0 false false)) rfl ⟨rfl, HF.out.setRowR _ (Or.inr (by omega)) _⟩
/-- The first line of a reference, and the last one. -/
def fstI (ar : Bool) (a b : Int) : Int := if ar = true then (if b < a then b else a) else a
def lstI (ar : Bool) (a b : Int) : Int := if ar = true then (if b < a then a else b) else a
/-- What becomes of the first corner's line, and of the other one's. -/
def nwA (At N lim : Int) (cm ar : Bool) (a b : Int) : Int := if ar = true then (if b < a then spaT At N lim cm a else spaF At N lim cm a) else spaT At N lim cm a
def nwB (At N lim : Int) (cm ar : Bool) (a b : Int) : Int := if ar = true then (if b < a then spaF At N lim cm b else spaT At N lim cm b) else b
def stayB (At N lim : Int) (cm ar : Bool) (a b : Int) : Bool := spaB At N lim cm (fstI ar a b) (lstI ar a b)
theorem bref_false (At N lim : Int) (cm ar : Bool) (t u : ByteArray) (fx : Bool) (r1 c1 : Int) (x1 y1 : Bool) (r2 c2 : Int) (x2 y2 : Bool) (w : World) (h1 : 0 ≤ At) (h2 : At ≤ 1048576) (h3 : 0 ≤ N) (h4 : N ≤ 1048576) (h5 : 0 ≤ lim) (h6 : lim ≤ 1048576) (h7 : 0 ≤ r1) (h8 : r1 ≤ 1048576) (h9 : 0 ≤ r2) (h10 : r2 ≤ 1048576) :
    Calls Tryd.prog 67 #[.agg #[.int .i64 At, .int .i64 N, .int .i64 lim, .bool cm, .bool false], (.agg #[.string t, .string u, .bool fx, .bool ar, .int .i64 r1, .int .i64 c1, .bool x1, .bool y1, .int .i64 r2, .int .i64 c2, .bool x2, .bool y2])] w fun e w' => e = .returned (if stayB At N lim cm ar r1 r2 = true then .tuple #[(.agg #[.string t, .string u, .bool fx, .bool ar, .int .i64 (nwA At N lim cm ar r1 r2), .int .i64 c1, .bool x1, .bool y1, .int .i64 (nwB At N lim cm ar r1 r2), .int .i64 c2, .bool x2, .bool y2]), .bool true] else .tuple #[(.agg #[.string ⟨#[]⟩, .string ⟨#[]⟩, .bool false, .bool false, .int .i64 0, .int .i64 0, .bool false, .bool false, .int .i64 0, .int .i64 0, .bool false, .bool false]), .bool false]) ∧ Fr noB w w' := by
  cases ar with
  | false =>
    cases hs : stayB At N lim cm false r1 r2 with
    | true => rw [if_pos rfl]; exact bref_rns At N lim cm t u fx r1 c1 x1 y1 r2 c2 x2 y2 w h1 h2 h3 h4 h5 h6 h7 h8 hs
    | false => rw [if_neg (by simp)]; exact bref_rnx At N lim cm t u fx r1 c1 x1 y1 r2 c2 x2 y2 w h1 h2 h3 h4 h5 h6 h7 h8 hs
  | true =>
    by_cases hlt : r2 < r1
    · have e1 : stayB At N lim cm true r1 r2 = spaB At N lim cm r2 r1 := by unfold stayB fstI lstI; rw [if_pos rfl, if_pos rfl, if_pos hlt, if_pos hlt]
      have e2 : nwA At N lim cm true r1 r2 = spaT At N lim cm r1 := by unfold nwA; rw [if_pos rfl, if_pos hlt]
      have e3 : nwB At N lim cm true r1 r2 = spaF At N lim cm r2 := by unfold nwB; rw [if_pos rfl, if_pos hlt]
      rw [e1, e2, e3]
      cases hs : spaB At N lim cm r2 r1 with
      | true => rw [if_pos rfl]; exact bref_rls At N lim cm t u fx r1 c1 x1 y1 r2 c2 x2 y2 w h1 h2 h3 h4 h5 h6 h7 h8 h9 h10 hlt hs
      | false => rw [if_neg (by simp)]; exact bref_rlx At N lim cm t u fx r1 c1 x1 y1 r2 c2 x2 y2 w h1 h2 h3 h4 h5 h6 h7 h8 h9 h10 hlt hs
    · have e1 : stayB At N lim cm true r1 r2 = spaB At N lim cm r1 r2 := by unfold stayB fstI lstI; rw [if_pos rfl, if_pos rfl, if_neg hlt, if_neg hlt]
      have e2 : nwA At N lim cm true r1 r2 = spaF At N lim cm r1 := by unfold nwA; rw [if_pos rfl, if_neg hlt]
      have e3 : nwB At N lim cm true r1 r2 = spaT At N lim cm r2 := by unfold nwB; rw [if_pos rfl, if_neg hlt]
      rw [e1, e2, e3]
      cases hs : spaB At N lim cm r1 r2 with
      | true => rw [if_pos rfl]; exact bref_rgs At N lim cm t u fx r1 c1 x1 y1 r2 c2 x2 y2 w h1 h2 h3 h4 h5 h6 h7 h8 h9 h10 hlt hs
      | false => rw [if_neg (by simp)]; exact bref_rgx At N lim cm t u fx r1 c1 x1 y1 r2 c2 x2 y2 w h1 h2 h3 h4 h5 h6 h7 h8 h9 h10 hlt hs
#print axioms bref_false
theorem bref_true (At N lim : Int) (cm ar : Bool) (t u : ByteArray) (fx : Bool) (r1 c1 : Int) (x1 y1 : Bool) (r2 c2 : Int) (x2 y2 : Bool) (w : World) (h1 : 0 ≤ At) (h2 : At ≤ 1048576) (h3 : 0 ≤ N) (h4 : N ≤ 1048576) (h5 : 0 ≤ lim) (h6 : lim ≤ 1048576) (h7 : 0 ≤ c1) (h8 : c1 ≤ 1048576) (h9 : 0 ≤ c2) (h10 : c2 ≤ 1048576) :
    Calls Tryd.prog 67 #[.agg #[.int .i64 At, .int .i64 N, .int .i64 lim, .bool cm, .bool true], (.agg #[.string t, .string u, .bool fx, .bool ar, .int .i64 r1, .int .i64 c1, .bool x1, .bool y1, .int .i64 r2, .int .i64 c2, .bool x2, .bool y2])] w fun e w' => e = .returned (if stayB At N lim cm ar c1 c2 = true then .tuple #[(.agg #[.string t, .string u, .bool fx, .bool ar, .int .i64 r1, .int .i64 (nwA At N lim cm ar c1 c2), .bool x1, .bool y1, .int .i64 r2, .int .i64 (nwB At N lim cm ar c1 c2), .bool x2, .bool y2]), .bool true] else .tuple #[(.agg #[.string ⟨#[]⟩, .string ⟨#[]⟩, .bool false, .bool false, .int .i64 0, .int .i64 0, .bool false, .bool false, .int .i64 0, .int .i64 0, .bool false, .bool false]), .bool false]) ∧ Fr noB w w' := by
  cases ar with
  | false =>
    cases hs : stayB At N lim cm false c1 c2 with
    | true => rw [if_pos rfl]; exact bref_cns At N lim cm t u fx r1 c1 x1 y1 r2 c2 x2 y2 w h1 h2 h3 h4 h5 h6 h7 h8 hs
    | false => rw [if_neg (by simp)]; exact bref_cnx At N lim cm t u fx r1 c1 x1 y1 r2 c2 x2 y2 w h1 h2 h3 h4 h5 h6 h7 h8 hs
  | true =>
    by_cases hlt : c2 < c1
    · have e1 : stayB At N lim cm true c1 c2 = spaB At N lim cm c2 c1 := by unfold stayB fstI lstI; rw [if_pos rfl, if_pos rfl, if_pos hlt, if_pos hlt]
      have e2 : nwA At N lim cm true c1 c2 = spaT At N lim cm c1 := by unfold nwA; rw [if_pos rfl, if_pos hlt]
      have e3 : nwB At N lim cm true c1 c2 = spaF At N lim cm c2 := by unfold nwB; rw [if_pos rfl, if_pos hlt]
      rw [e1, e2, e3]
      cases hs : spaB At N lim cm c2 c1 with
      | true => rw [if_pos rfl]; exact bref_cls At N lim cm t u fx r1 c1 x1 y1 r2 c2 x2 y2 w h1 h2 h3 h4 h5 h6 h7 h8 h9 h10 hlt hs
      | false => rw [if_neg (by simp)]; exact bref_clx At N lim cm t u fx r1 c1 x1 y1 r2 c2 x2 y2 w h1 h2 h3 h4 h5 h6 h7 h8 h9 h10 hlt hs
    · have e1 : stayB At N lim cm true c1 c2 = spaB At N lim cm c1 c2 := by unfold stayB fstI lstI; rw [if_pos rfl, if_pos rfl, if_neg hlt, if_neg hlt]
      have e2 : nwA At N lim cm true c1 c2 = spaF At N lim cm c1 := by unfold nwA; rw [if_pos rfl, if_neg hlt]
      have e3 : nwB At N lim cm true c1 c2 = spaT At N lim cm c2 := by unfold nwB; rw [if_pos rfl, if_neg hlt]
      rw [e1, e2, e3]
      cases hs : spaB At N lim cm c1 c2 with
      | true => rw [if_pos rfl]; exact bref_cgs At N lim cm t u fx r1 c1 x1 y1 r2 c2 x2 y2 w h1 h2 h3 h4 h5 h6 h7 h8 h9 h10 hlt hs
      | false => rw [if_neg (by simp)]; exact bref_cgx At N lim cm t u fx r1 c1 x1 y1 r2 c2 x2 y2 w h1 h2 h3 h4 h5 h6 h7 h8 h9 h10 hlt hs
#print axioms bref_true
end Go.Proofs.YthokhnbecgkpbaaDoor
