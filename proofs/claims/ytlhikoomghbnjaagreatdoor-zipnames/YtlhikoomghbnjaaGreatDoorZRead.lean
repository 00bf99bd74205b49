/- Reading the file of the mimetype alone: where the end stands, and what it says. -/
import Derived.Test.YtlhikoomghbnjaaGreatDoorZFile
import Derived.Test.YtlhikoomghbnjaaGreatDoorZRdr3
namespace Go.Proofs.YtlhikoomghbnjaaGreatDoor
open Go.RowKit
attribute [local go_sem ↓] Go.wp_at_zero Go.wp_at_succ

/-- A reader that was just made. -/
theorem RdA.new {w : World} {ao : Option Addr} {cap : Nat} {B : List Nat} (p lack : Nat) (hb : Bs w (.slice ao B.length cap) B) (h0 : 0 < B.length) : RdA (w.alloc (.cells #[.slice ao B.length cap, .int .i64 (p : Int), .int .i64 (lack : Int)] 82 (0, 0))) w.heap.size 82 #[.slice ao B.length cap, .int .i64 (p : Int), .int .i64 (lack : Int)] ao cap B lack p := by
  obtain ⟨ao', cap', he, h1, h2, h3, h4⟩ := hb
  cases he
  refine ⟨heap_alloc_new _ _, rfl, rfl, rfl, h1, h2, h3, BsAt.keep h4 ((Fr.refl noB w).alloc _), ?_⟩
  intro b off sp e
  rcases h4 with h4 | ⟨b', off', e', hb', _⟩
  · rw [h4] at h0
    cases h0
  · rw [e] at e'
    cases e'
    omega
/-- The end of a file without a comment. -/
structure Ends (B : List Nat) (p k len place : Nat) : Prop where
  len_ : B.length = p + 22
  mark : lgAt B p = 101010256
  d1 : shAt B (p + 4) = 0
  d2 : shAt B (p + 6) = 0
  n1 : shAt B (p + 8) = k
  n2 : shAt B (p + 10) = k
  l1 : lgAt B (p + 12) = len
  l2 : lgAt B (p + 16) = place
  c : shAt B (p + 20) = 0

set_option maxRecDepth 100000 in
set_option maxHeartbeats 1600000 in
theorem place_good (ao : Option Addr) (cap : Nat) (B : List Nat) (p k len place : Nat) (w : World) (hb : Bs w (.slice ao B.length cap) B) (hB : ∀ x ∈ B, x < 256) (hE : Ends B p k len place) :
    Calls Tryz.prog 36 #[.slice ao B.length cap] w fun e w' => e = .returned (.int .i64 (p : Int)) ∧ Fr noB w w' := by
  have hR := RdA.new p 40 hb (by have := hE.len_; omega)
  have hF0 := (Fr.refl noB w).alloc (.cells #[.slice ao B.length cap, .int .i64 (p : Int), .int .i64 (40 : Nat)] 82 (0, 0))
  have C1 := longA _ _ _ _ _ B 40 p _ hR hB (by have := hE.len_; omega)
  rw [hE.mark] at C1
  have HK : Hid (∀ w1, RdA w1 w.heap.size 82 #[.slice ao B.length cap, .int .i64 (p : Int), .int .i64 (40 : Nat)] ao cap B 40 (p + 4) → Calls Tryz.prog 51 #[.pointer (some ⟨w.heap.size, 0, none⟩), .int .i64 16] w1 fun e w' => e = .returned (.tuple #[]) ∧ RdA w' w.heap.size 82 #[.slice ao B.length cap, .int .i64 (p : Int), .int .i64 (40 : Nat)] ao cap B 40 (p + 20) ∧ Fr (oneB w.heap.size) w1 w') := fun w1 h1 => skipA _ _ _ _ _ B 40 16 (p + 4) (p + 20) w1 h1 rfl (by have := hE.len_; omega)
  have HZ : Hid (∀ w1, RdA w1 w.heap.size 82 #[.slice ao B.length cap, .int .i64 (p : Int), .int .i64 (40 : Nat)] ao cap B 40 (p + 20) → Calls Tryz.prog 52 #[.pointer (some ⟨w.heap.size, 0, none⟩)] w1 fun e w' => e = .returned (.int .i64 0) ∧ RdA w' w.heap.size 82 #[.slice ao B.length cap, .int .i64 (p : Int), .int .i64 (40 : Nat)] ao cap B 40 (p + 22) ∧ Fr (oneB w.heap.size) w1 w') := fun w1 h1 => by
    have := sizeA _ _ _ _ _ B 40 (p + 20) w1 h1 hB (by have := hE.len_; omega)
    rw [hE.c] at this
    exact this
  have hl : (B.length : Int) - 22 = (p : Int) := by have := hE.len_; omega
  have hp : p ≤ 9223372036854775807 := by
    obtain ⟨_, _, he, h1, h2, _⟩ := hb
    cases he
    have := hE.len_
    unfold maxLen at h2
    omega
  have HF0 : Hid _ := hF0
  clear hb hE hR hF0
  go_enter Tryz.func36, Tryz.ntmps36
  go_wp2_with fail
  go_loopg [4] 1 (fun gh av wr => gh = 1 ∧ wr = w ∧ av = .int .i64 (p : Int))
  case atStart => exact ⟨rfl, rfl, rfl⟩
  case round =>
    obtain ⟨rfl, rfl, rfl⟩ := hrel
    go_wp2_with fail
    refine C1.mono ?_
    rintro e w1 ⟨rfl, h1, f1⟩
    have C2 := HK.out w1 h1
    clear h1
    go_wp2_with fail
    refine C2.mono ?_
    rintro e w2 ⟨rfl, h2, f2⟩
    have C3 := HZ.out w2 h2
    clear h2
    go_wp2_with fail
    refine C3.mono ?_
    rintro e w3 ⟨rfl, h3, f3⟩
    clear h3
    go_wp2_with fail
    go_ret
    exact ⟨rfl, HF0.out.then ((f1.trans f2).trans f3) (fun i hi => Or.inr (by have e : i = wr.heap.size := hi; omega))⟩

/-- As Bld, with the reader anywhere else. -/
structure Bld2 (w0 w : World) (rb : Nat) (t : TypeId) (cs : Array Value) (ao : Option Addr) (cap : Nat) (B : List Nat) (lack p : Nat) (a b : Nat) (ca cb : Array Value) (ty : TypeId) : Prop where
  rd : RdA w rb t cs ao cap B lack p
  ha : w.heap[a]? = some (.cells ca ty (0, 0))
  hb : w.heap[b]? = some (.cells cb ty (0, 0))
  fr : Fr (oneB rb) w0 w
  a0 : w0.heap.size ≤ a
  b0 : w0.heap.size ≤ b
  ab : a ≠ b
  ra : rb ≠ a
  rb_ : rb ≠ b
  oa : ∀ k off sp, ao = some ⟨k, off, sp⟩ → k ≠ a ∧ k ≠ b
section
variable {w0 w w' : World} {rb : Nat} {t : TypeId} {cs : Array Value} {ao : Option Addr} {cap : Nat} {B : List Nat} {lack p q : Nat} {a b : Nat} {ca cb : Array Value} {ty : TypeId}
theorem Bld2.step (h : Bld2 w0 w rb t cs ao cap B lack p a b ca cb ty) (h1 : RdA w' rb t cs ao cap B lack q) (h2 : Fr (oneB rb) w w') : Bld2 w0 w' rb t cs ao cap B lack q a b ca cb ty :=
  ⟨h1, h2.obj h.ha (fun e => h.ra e.symm), h2.obj h.hb (fun e => h.rb_ e.symm), h.fr.trans h2, h.a0, h.b0, h.ab, h.ra, h.rb_, h.oa⟩
theorem Bld2.setB (h : Bld2 w0 w rb t cs ao cap B lack p a b ca cb ty) (i : Nat) (x : Value) : Bld2 w0 (w.setCell ⟨b, i, none⟩ x) rb t cs ao cap B lack p a b ca (cb.setIfInBounds i x) ty := by
  have hF : Fr (oneB b) w (w.setCell ⟨b, i, none⟩ x) := (Fr.refl _ w).setOne i x
  refine ⟨h.rd.keepS hF (fun e => h.rb_ e) (fun k off sp e e2 => (h.oa k off sp e).2 e2), ?_, setOf i x h.hb, h.fr.setCell _ (Or.inr h.b0) _, h.a0, h.b0, h.ab, h.ra, h.rb_, h.oa⟩
  rw [Below.heap_setCell _ _ _ _ h.ab]
  exact h.ha
theorem Bld2.setA (h : Bld2 w0 w rb t cs ao cap B lack p a b ca cb ty) (i : Nat) (x : Value) : Bld2 w0 (w.setCell ⟨a, i, none⟩ x) rb t cs ao cap B lack p a b (ca.setIfInBounds i x) cb ty := by
  have hF : Fr (oneB a) w (w.setCell ⟨a, i, none⟩ x) := (Fr.refl _ w).setOne i x
  refine ⟨h.rd.keepS hF (fun e => h.ra e) (fun k off sp e e2 => (h.oa k off sp e).1 e2), setOf i x h.ha, ?_, h.fr.setCell _ (Or.inr h.a0) _, h.a0, h.b0, h.ab, h.ra, h.rb_, h.oa⟩
  rw [Below.heap_setCell _ _ _ _ h.ab.symm]
  exact h.hb
theorem Bs.olt {v : Value} (h : Bs w v B) (h0 : 0 < B.length) : ∀ ao len cap, v = .slice ao len cap → ∀ k off sp, ao = some ⟨k, off, sp⟩ → k < w.heap.size := by
  intro ao len cap e k off sp e2
  obtain ⟨ao', cap', rfl, h1, h2, h3, h4⟩ := h
  cases e
  rcases h4 with h4 | ⟨b', off', e', hb', _⟩
  · rw [h4] at h0; cases h0
  · rw [e2] at e'
    cases e'
    exact hb'
theorem Bld2.start (p lack : Nat) (hb : Bs w (.slice ao B.length cap) B) (h0 : 0 < B.length) (c : Array Value) :
    Bld2 w (((w.alloc (.cells c ty (0, 0))).alloc (.cells c ty (0, 0))).alloc (.cells #[.slice ao B.length cap, .int .i64 (p : Int), .int .i64 (lack : Int)] 82 (0, 0))) (w.heap.size + 1 + 1) 82 #[.slice ao B.length cap, .int .i64 (p : Int), .int .i64 (lack : Int)] ao cap B lack p w.heap.size (w.heap.size + 1) c c ty := by
  obtain ⟨ha0, he0, hF0⟩ := two_newB w (.cells c ty (0, 0)) (.cells c ty (0, 0))
  have hR := RdA.new p lack (hb.fr hF0 (fun _ _ _ _ _ _ _ h => h)) h0
  have hsz : ((w.alloc (.cells c ty (0, 0))).alloc (.cells c ty (0, 0))).heap.size = w.heap.size + 1 + 1 := by simp
  rw [hsz] at hR
  refine ⟨hR, (Below.heap_alloc _ _ _ (by omega)).trans ha0, (Below.heap_alloc _ _ _ (by omega)).trans he0, (hF0.alloc _).weak, Nat.le_refl _, by omega, by omega, by omega, by omega, fun k' off sp e => ?_⟩
  have := Bs.olt hb h0 _ _ _ rfl k' off sp e
  omega
end

set_option maxRecDepth 100000 in
set_option maxHeartbeats 400000 in
theorem endAt_good (ao : Option Addr) (cap : Nat) (B : List Nat) (p k len place : Nat) (w : World) (hb : Bs w (.slice ao B.length cap) B) (hB : ∀ x ∈ B, x < 256) (hE : Ends B p k len place) (hk : k ≤ 256) (hlp : place + len = p) (hp : p < 4294967295) :
    Calls Tryz.prog 37 #[.slice ao B.length cap, .int .i64 (p : Int)] w fun e w' => e = .returned (.agg #[.int .u16 (k : Int), .int .u32 (len : Int), .int .u32 (place : Int)]) ∧ Fr noB w w' := by
  have hl : p + 22 ≤ B.length := Nat.le_of_eq hE.len_.symm
  have H0 : Hid _ := Bld2.start (ty := 79) p 40 hb (by omega) #[.int .u16 0, .int .u32 0, .int .u32 0]
  have HSH : Hid (∀ q w1, q + 2 ≤ B.length → RdA w1 (w.heap.size + 1 + 1) 82 #[.slice ao B.length cap, .int .i64 (p : Int), .int .i64 ((40 : Nat) : Int)] ao cap B 40 q → Calls Tryz.prog 54 #[.pointer (some ⟨w.heap.size + 1 + 1, 0, none⟩)] w1 fun e w' => e = .returned (.int .u16 ((shAt B q : Nat) : Int)) ∧ RdA w' (w.heap.size + 1 + 1) 82 #[.slice ao B.length cap, .int .i64 (p : Int), .int .i64 ((40 : Nat) : Int)] ao cap B 40 (q + 2) ∧ Fr (oneB (w.heap.size + 1 + 1)) w1 w') := fun q w1 h1 h2 => shortA _ _ _ _ _ B 40 q w1 h2 hB h1
  have HLG : Hid (∀ q w1, q + 4 ≤ B.length → RdA w1 (w.heap.size + 1 + 1) 82 #[.slice ao B.length cap, .int .i64 (p : Int), .int .i64 ((40 : Nat) : Int)] ao cap B 40 q → Calls Tryz.prog 50 #[.pointer (some ⟨w.heap.size + 1 + 1, 0, none⟩)] w1 fun e w' => e = .returned (.int .u32 ((lgAt B q : Nat) : Int)) ∧ RdA w' (w.heap.size + 1 + 1) 82 #[.slice ao B.length cap, .int .i64 (p : Int), .int .i64 ((40 : Nat) : Int)] ao cap B 40 (q + 4) ∧ Fr (oneB (w.heap.size + 1 + 1)) w1 w') := fun q w1 h1 h2 => longA _ _ _ _ _ B 40 q w1 h2 hB h1
  have C1 := markA _ _ _ _ _ B 40 p 101010256 _ H0.out.rd hB (by omega) hE.mark
  have HE : Hid (Ends B p k len place) := hE
  have hk2 : k < 65536 := by omega
  clear hb hB hE
  go_enter Tryz.func37, Tryz.ntmps37
  go_wp2_with fail
  refine C1.mono ?_
  rintro e w1 ⟨rfl, h1, f1⟩
  have H1 : Hid _ := H0.out.step h1 f1
  have C2 := HSH.out (p + 4) w1 (by omega) H1.out.rd
  rw [HE.out.d1] at C2
  clear h1 f1
  go_wp2_with fail
  refine C2.mono ?_
  rintro e w2 ⟨rfl, h2, f2⟩
  have H2 : Hid _ := H1.out.step h2 f2
  have C3 := HSH.out (p + 6) w2 (by omega) H2.out.rd
  rw [HE.out.d2] at C3
  clear h2 f2
  go_wp2_with fail
  refine C3.mono ?_
  rintro e w3 ⟨rfl, h3, f3⟩
  have H3 : Hid _ := H2.out.step h3 f3
  have C4 := HSH.out (p + 8) w3 (by omega) H3.out.rd
  rw [HE.out.n1] at C4
  clear h3 f3
  go_wp2_with fail
  refine C4.mono ?_
  rintro e w4 ⟨rfl, h4, f4⟩
  have H4 : Hid _ := H3.out.step h4 f4
  have C5 := HSH.out (p + 10) w4 (by omega) H4.out.rd
  rw [HE.out.n2] at C5
  clear h4 f4
  go_wp2_with fail
  refine C5.mono ?_
  rintro e w5 ⟨rfl, h5, f5⟩
  have H5 : Hid _ := H4.out.step h5 f5
  have b0 := cellOf (o := 0) H5.out.hb rfl
  have z0 := freeOf 0 H5.out.hb
  have H5' : Hid _ := H5.out.setB 0 (.int .u16 (k : Int))
  have C6 := HLG.out (p + 12) _ (by omega) H5'.out.rd
  rw [HE.out.l1] at C6
  clear h5 f5
  go_wp2_with fail
  refine C6.mono ?_
  rintro e w6 ⟨rfl, h6, f6⟩
  have H6 : Hid _ := H5'.out.step h6 f6
  have b1 := cellOf (o := 1) H6.out.hb rfl
  have z1 := freeOf 1 H6.out.hb
  have H6' : Hid _ := H6.out.setB 1 (.int .u32 (len : Int))
  have C7 := HLG.out (p + 16) _ (by omega) H6'.out.rd
  rw [HE.out.l2] at C7
  clear h6 f6 b0 z0
  go_wp2_with fail
  refine C7.mono ?_
  rintro e w7 ⟨rfl, h7, f7⟩
  have H7 : Hid _ := H6'.out.step h7 f7
  have d0 : w7.cell? ⟨w.heap.size + 1, 0, none⟩ = some (.int .u16 (k : Int)) := cellOf (o := 0) H7.out.hb rfl
  have d1 : w7.cell? ⟨w.heap.size + 1, 1, none⟩ = some (.int .u32 (len : Int)) := cellOf (o := 1) H7.out.hb rfl
  have d2 := cellOf (o := 2) H7.out.hb rfl
  have z2 := freeOf 2 H7.out.hb
  have a0 := cellOf (o := 0) H7.out.ha rfl
  have a1 := cellOf (o := 1) H7.out.ha rfl
  have a2 := cellOf (o := 2) H7.out.ha rfl
  have y0 := freeOf 0 H7.out.ha
  have y1 := freeOf 1 H7.out.ha
  have y2 := freeOf 2 H7.out.ha
  have H8 : Hid _ := (((H7.out.setB 2 (.int .u32 (place : Int))).setA 0 (.int .u16 (k : Int))).setA 1 (.int .u32 (len : Int))).setA 2 (.int .u32 (place : Int))
  have t1 : ¬ (k : Int) = 65535 := by omega
  have u1 : ((k : Int) != 65535) = true := by simp; omega
  have u2 : ((len : Int) != 4294967295) = true := by simp; omega
  have u3 : ((place : Int) != 4294967295) = true := by simp; omega
  have t2 : ¬ (len : Int) = 4294967295 := by omega
  have t3 : ¬ (place : Int) = 4294967295 := by omega
  have t4 : (k : Int) ≤ 256 := by omega
  have t5 : (place : Int) + (len : Int) = (p : Int) := by omega
  clear h7 f7 b1 z1
  go_wp2_with (go_at_call 40; with_reducible refine (hold_true _ _).mono ?_; rintro e w8 ⟨rfl, rfl⟩)
  exact bodyPost_ret (results_cell_row Tryz.results37 _ _ w.heap.size 79 #[.int .u16 (k : Int), .int .u32 (len : Int), .int .u32 (place : Int)] (0, 0) _ rfl H8.out.ha Tryz.underlying79 rfl Tryz.infoEnd) rfl ⟨rfl, H8.out.fr.mono (fun i hi hs => by have e : i = w.heap.size + 1 + 1 := hs; omega)⟩
#print axioms endAt_good
end Go.Proofs.YtlhikoomghbnjaaGreatDoor
