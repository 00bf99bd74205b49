/- Reading the file of the mimetype alone: its entries. -/
import Derived.Test.YtlhikoomghbnjaaGreatDoorZAdd
import Derived.Test.YtlhikoomghbnjaaGreatDoorZRead
import Derived.Test.YtlhikoomghbnjaaGreatDoorZSam
import Derived.LoopN
namespace Go.Proofs.YtlhikoomghbnjaaGreatDoor
open Go.RowKit
attribute [local go_sem ↓] Go.wp_at_zero Go.wp_at_succ

theorem Bs.head {w : World} {ao : Option Addr} {cap n : Nat} {B : List Nat} (h : Bs w (.slice ao B.length cap) B) (hn : n ≤ B.length) : Bs w (.slice ao n cap) (B.take n) := by
  obtain ⟨ao', cap', he, h1, h2, h3, h4⟩ := h
  cases he
  have hl : (B.take n).length = n := by simp; omega
  refine ⟨ao, cap, by rw [hl], by omega, h2, h3, ?_⟩
  rcases h4 with h4 | ⟨b, off, e, hb, hc⟩
  · exact Or.inl (by rw [h4]; simp)
  · refine Or.inr ⟨b, off, e, hb, fun i hi => ?_⟩
    rw [hl] at hi
    rw [hc i (by omega)]
    simp
theorem mimeF_len : mimeF.length = 160 := by decide +kernel
theorem mimeF_lt : ∀ x ∈ mimeF, x < 256 := by decide +kernel
theorem mime_ends : Ends mimeF 138 1 54 84 := ⟨by decide +kernel, by decide +kernel, by decide +kernel, by decide +kernel, by decide +kernel, by decide +kernel, by decide +kernel, by decide +kernel, by decide +kernel⟩
theorem mime_local : LocalIs (mimeF.take 84) (crc mimeB) mimeB mimeN := ⟨by decide +kernel, by decide +kernel, by decide +kernel, by decide +kernel, by decide +kernel, by decide +kernel, by decide +kernel, by decide +kernel, by decide +kernel, by decide +kernel, by decide +kernel⟩
theorem mime_crc : crc mimeB ≠ 4294967295 := by decide +kernel
/-- The record of the directory. -/
structure RecIs (B : List Nat) (p s : Nat) (nm : ByteArray) : Prop where
  len_ : B.length = p + 54
  mark : lgAt B p = 33639248
  fl : shAt B (p + 8) = 0
  me : shAt B (p + 10) = 0
  s_ : lgAt B (p + 16) = s
  l_ : lgAt B (p + 20) = 46
  n_ : lgAt B (p + 24) = 46
  nl : shAt B (p + 28) = 8
  el : shAt B (p + 30) = 0
  kl : shAt B (p + 32) = 0
  dk : shAt B (p + 34) = 0
  pl : lgAt B (p + 42) = 0
  name : strOf ((B.drop (p + 46)).take 8) = nm
theorem mime_rec : RecIs (mimeF.take 138) 84 (crc mimeB) mimeN := ⟨by decide +kernel, by decide +kernel, by decide +kernel, by decide +kernel, by decide +kernel, by decide +kernel, by decide +kernel, by decide +kernel, by decide +kernel, by decide +kernel, by decide +kernel, by decide +kernel, by decide +kernel⟩
theorem RdA.newT {w : World} {ao : Option Addr} {cap : Nat} {B : List Nat} {n : Nat} (t : TypeId) (cs : Array Value) (p lack : Nat) (hn : B.length = n) (hb : Bs w (.slice ao n cap) B) (h0 : 0 < n) (e : cs.setIfInBounds 1 (.int .i64 (p : Int)) = cs) (c0 : cs[0]? = some (.slice ao n cap)) (c1 : cs[1]? = some (.int .i64 (p : Int))) (c2 : cs[2]? = some (.int .i64 (lack : Int))) : RdA (w.alloc (.cells cs t (0, 0))) w.heap.size t cs ao cap B lack p := by
  subst hn
  obtain ⟨ao', cap', he, h1, h2, h3, h4⟩ := hb
  cases he
  unfold RdA
  rw [e]
  refine ⟨heap_alloc_new _ _, c0, c1, c2, h1, h2, h3, BsAt.keep h4 ((Fr.refl noB w).alloc _), ?_⟩
  intro b off sp e
  rcases h4 with h4 | ⟨b', off', e', hb', _⟩
  · rw [h4] at h0
    cases h0
  · rw [e] at e'
    cases e'
    omega
theorem len138 : (mimeF.take 138).length = 138 := by decide +kernel
theorem len84 : (mimeF.take 84).length = 84 := by decide +kernel
theorem lt138 : ∀ x ∈ mimeF.take 138, x < 256 := fun x hx => mimeF_lt x (List.mem_of_mem_take hx)
theorem lt84 : ∀ x ∈ mimeF.take 84, x < 256 := fun x hx => mimeF_lt x (List.mem_of_mem_take hx)
set_option maxRecDepth 100000 in
set_option maxHeartbeats 4000000 in
theorem entries_mime (ao : Option Addr) (cap : Nat) (w : World) (hb : Bs w (.slice ao 160 cap) mimeF) (hT : Tabs w) :
    Calls Tryz.prog 26 #[.slice ao 160 cap, .int .i64 1000] w fun e w' => ∃ g lb cp, e = .returned (.slice (some ⟨lb, 0, none⟩) 1 cp) ∧ OneC w' lb g ∧ MimeAt w' g ∧ w.heap.size ≤ lb ∧ w.heap.size ≤ g ∧ Fr noB w w' := by
  have HC1 : Hid (∀ w', Fr noB w w' → Calls Tryz.prog 36 #[.slice ao 160 cap] w' fun e w'' => e = .returned (.int .i64 138) ∧ Fr noB w' w'') := fun w' hF => by
    have := place_good ao cap mimeF 138 1 54 84 w' (by rw [mimeF_len]; exact hb.fr hF (fun _ _ _ _ _ _ _ h => h)) mimeF_lt mime_ends
    rw [mimeF_len] at this
    exact this
  have HC2 : Hid (∀ w', Fr noB w w' → Calls Tryz.prog 37 #[.slice ao 160 cap, .int .i64 138] w' fun e w'' => e = .returned (.agg #[.int .u16 1, .int .u32 54, .int .u32 84]) ∧ Fr noB w' w'') := fun w' hF => by
    have := endAt_good ao cap mimeF 138 1 54 84 w' (by rw [mimeF_len]; exact hb.fr hF (fun _ _ _ _ _ _ _ h => h)) mimeF_lt mime_ends (by decide) (by decide) (by decide)
    rw [mimeF_len] at this
    exact this
  have HB : Hid (Bs w (.slice ao 160 cap) mimeF) := hb
  have HT : Hid (Tabs w) := hT
  obtain ⟨hc160, hcmax⟩ : 160 ≤ cap ∧ cap ≤ maxLen := by
    obtain ⟨_, _, he, h1, h2, _⟩ := hb
    cases he
    rw [mimeF_len] at h1
    exact ⟨h1, h2⟩
  unfold maxLen at hcmax
  clear hb hT
  go_enter Tryz.func26, Tryz.ntmps26
  go_wp2_with (first
    | (go_at_call 36; refine (HC1.out _ (Fr.refl _ _)).mono ?_; rintro e w1 ⟨rfl, hF1⟩)
    | (go_at_call 37; refine (HC2.out _ hF1).mono ?_; rintro e w2 ⟨rfl, hF2⟩; have hG2 := hF1.trans hF2))
  have t0 := heap_alloc_new w2 (.cells #[.int .u16 1, .int .u32 54, .int .u32 84] 79 (0, 0))
  have hG3 := hG2.alloc (.cells #[.int .u16 1, .int .u32 54, .int .u32 84] 79 (0, 0))
  have hs3 : (w2.alloc (.cells #[.int .u16 1, .int .u32 54, .int .u32 84] 79 (0, 0))).heap.size = w2.heap.size + 1 := by simp
  generalize w2.alloc (.cells #[.int .u16 1, .int .u32 54, .int .u32 84] 79 (0, 0)) = w3 at *
  have htb := hG2.size
  generalize w2.heap.size = tb at *
  have hd : w3.cell? ⟨tb, 2, none⟩ = some (.int .u32 84) := cellOf (w := w3) t0 rfl
  have hd1 : (w3.alloc (.cells #[.slice none 0 0, .int .i64 0, .int .i64 0] 82 (0, 0))).drew.cell? ⟨tb, 2, none⟩ = some (.int .u32 84) := (((Fr.refl noB w3).alloc _).cell (lt_of_block t0) id).trans hd
  have hd2 : w3.drew.cell? ⟨tb, 2, none⟩ = some (.int .u32 84) := hd
  have k1 : (138 : Int) ≤ (cap : Int) := by omega
  have k2 : (84 : Int) ≤ (cap : Int) := by omega
  go_region
  have r0 := heap_alloc_new w3 (.cells #[.slice ao 138 cap, .int .i64 84, .int .i64 42] 82 (0, 0))
  have a4 : Fr noB w3 (w3.alloc (.cells #[.slice ao 138 cap, .int .i64 84, .int .i64 42] 82 (0, 0))).drew := ((Fr.refl noB w3).alloc _).drew
  have hR4 : RdA (w3.alloc (.cells #[.slice ao 138 cap, .int .i64 84, .int .i64 42] 82 (0, 0))).drew (tb + 1) 82 #[.slice ao 138 cap, .int .i64 84, .int .i64 42] ao cap (mimeF.take 138) 42 84 := by
    have := RdA.newT (w := w3) (ao := ao) (cap := cap) (B := mimeF.take 138) 82 #[.slice ao 138 cap, .int .i64 84, .int .i64 42] 84 42 len138 (Bs.head (n := 138) (by rw [mimeF_len]; exact HB.out.fr hG3 (fun _ _ _ _ _ _ _ h => h)) (by rw [mimeF_len]; decide)) (by decide) rfl rfl rfl rfl
    rw [hs3] at this
    exact this.keep ((Fr.refl noB _).drew)
  have hG4 := hG3.trans a4
  have t4 := a4.obj t0 id
  have hs4 : (w3.alloc (.cells #[.slice ao 138 cap, .int .i64 84, .int .i64 42] 82 (0, 0))).drew.heap.size = tb + 1 + 1 := by simp [hs3]
  generalize (w3.alloc (.cells #[.slice ao 138 cap, .int .i64 84, .int .i64 42] 82 (0, 0))).drew = w4 at *
  have a5 : Fr noB w4 (w4.alloc (.cells #[.slice ao 84 cap, .int .i64 0, .int .i64 43, .slice none 0 0, .int .i64 1000] 84 (0, 0))) := (Fr.refl noB w4).alloc _
  have hR5 := hR4.keep a5
  have hG5 := hG4.trans a5
  have t5 := a5.obj t4 id
  have hX5 : RdA (w4.alloc (.cells #[.slice ao 84 cap, .int .i64 0, .int .i64 43, .slice none 0 0, .int .i64 1000] 84 (0, 0))) (tb + 1 + 1) 84 #[.slice ao 84 cap, .int .i64 0, .int .i64 43, .slice none 0 0, .int .i64 1000] ao cap (mimeF.take 84) 43 0 := by
    have := RdA.newT (w := w4) (ao := ao) (cap := cap) (B := mimeF.take 84) 84 #[.slice ao 84 cap, .int .i64 0, .int .i64 43, .slice none 0 0, .int .i64 1000] 0 43 len84 (Bs.head (n := 84) (by rw [mimeF_len]; exact HB.out.fr hG4 (fun _ _ _ _ _ _ _ h => h)) (by rw [mimeF_len]; decide)) (by decide) rfl rfl rfl rfl
    rwa [hs4] at this
  have e4 : w4.cell? ⟨tb, 2, none⟩ = some (.int .u32 84) := cellOf t4 rfl
  have e5 := cellOf (o := 0) t5 rfl
  have HR5 : Hid _ := hR5
  have HX5 : Hid _ := hX5
  have HG5 : Hid _ := hG5
  clear hR4 hR5 hX5 hG5 hG4 hG3 hG2 hd hd1 hd2 r0 a4 a5 t0 t4 t5 hF1 hF2 hs3
  go_wp2_with fail
  generalize w4.alloc (.cells #[.slice ao 84 cap, .int .i64 0, .int .i64 43, .slice none 0 0, .int .i64 1000] 84 (0, 0)) = w5 at *
  refine loop_once (fun a W => (∃ u9 u10 u11 u12 u13 u14 u15 u16 u17 u18 u19 u20 u21 u22 u23 u24 u25 u26 u27 u28 u31 u32 u33 u34 : Value, a = { tmps := #[.slice ao 160 cap, .int .i64 1000, undef, undef, .slice none 0 0, .int .i64 138, .pointer (some ⟨tb, 0, none⟩), .pointer (some ⟨tb + 1, 0, none⟩), .pointer (some ⟨tb + 1 + 1, 0, none⟩), u9, u10, u11, u12, u13, u14, u15, u16, u17, u18, u19, u20, u21, u22, u23, u24, u25, u26, u27, u28, .int .u16 1, .int .u16 1, u31, u32, u33, u34, undef, undef, undef, undef, undef, undef, undef, undef, undef, undef, undef, undef, undef, undef], defers := [] }) ∧ ∃ g lb cp, OneC W lb g ∧ MimeAt W g ∧ w.heap.size ≤ lb ∧ w.heap.size ≤ g ∧ W.heap[tb + 1 + 1]? = some (.cells #[.slice ao 84 cap, .int .i64 84, .int .i64 43, .slice (some ⟨lb, 0, none⟩) 1 cp, .int .i64 954] 84 (0, 0)) ∧ RdA W (tb + 1) 82 #[.slice ao 138 cap, .int .i64 84, .int .i64 42] ao cap (mimeF.take 138) 42 138 ∧ Fr noB w W) ?_ ?_
  · have C1 := recordA (tb + 1) 82 #[.slice ao 138 cap, .int .i64 84, .int .i64 42] ao cap (mimeF.take 138) 42 84 8 0 0 w5 HR5.out lt138 mime_rec.mark mime_rec.nl mime_rec.el mime_rec.kl (by rw [len138]; decide)
    rw [mime_rec.fl, mime_rec.me, mime_rec.s_, mime_rec.l_, mime_rec.n_, mime_rec.name, mime_rec.dk, mime_rec.pl] at C1
    have C1' : Calls Tryz.prog 39 #[.pointer (some ⟨tb + 1, 0, none⟩)] w5 fun e w' => e = .returned (.agg (recC (crc mimeB) mimeN)) ∧ RdA w' (tb + 1) 82 #[.slice ao 138 cap, .int .i64 84, .int .i64 42] ao cap (mimeF.take 138) 42 138 ∧ Fr (oneB (tb + 1)) w5 w' := C1
    clear C1
    have hao : ∀ k off sp, ao = some ⟨k, off, sp⟩ → k < w.heap.size := Bs.olt HB.out (by rw [mimeF_len]; decide) _ _ _ rfl
    have HADD : Hid (∀ w6, Fr (oneB (tb + 1)) w5 w6 → Calls Tryz.prog 38 #[.pointer (some ⟨tb + 1 + 1, 0, none⟩), .agg (recC (crc mimeB) mimeN)] w6 fun e w' => e = .returned (.tuple #[]) ∧ ∃ g lb cp, OneC w' lb g ∧ MimeAt w' g ∧ w6.heap.size ≤ lb ∧ w6.heap.size ≤ g ∧ w'.heap[tb + 1 + 1]? = some (.cells #[.slice ao 84 cap, .int .i64 84, .int .i64 43, .slice (some ⟨lb, 0, none⟩) 1 cp, .int .i64 954] 84 (0, 0)) ∧ Fr (oneB (tb + 1 + 1)) w6 w') := fun w6 hF6 => by
      have hG6 : Fr noB w w6 := HG5.out.then hF6 (fun i hi => Or.inr (by have e' : i = tb + 1 := hi; omega))
      have hX6 := RdA.keepS HX5.out hF6 (fun e => by have e' : tb + 1 + 1 = tb + 1 := e; omega) (fun k off sp ek e => by have e' : k = tb + 1 := e; have := hao k off sp ek; omega)
      have := add_mime (tb + 1 + 1) ao cap (mimeF.take 84) w6 (HT.out.keep hG6) lt84 (by rw [len84]; exact hX6) mime_local mime_crc
      rw [len84] at this
      exact this
    have hs5 := HG5.out.size
    generalize recC (crc mimeB) mimeN = rc at *
    go_wp2_with (first
      | (go_at_call 39; refine C1'.mono ?_; rintro e w6 ⟨rfl, hD6, hF6⟩)
      | (go_at_call 38; refine (HADD.out _ hF6).mono ?_; rintro e w7 ⟨rfl, g, lb, cp, q1, q2, q3, q4, q5, q6⟩))
    have hG6 : Fr noB w w6 := HG5.out.then hF6 (fun i hi => Or.inr (by have e' : i = tb + 1 := hi; omega))
    have hG7 : Fr noB w w7 := hG6.then q6 (fun i hi => Or.inr (by have e' : i = tb + 1 + 1 := hi; omega))
    have hD7 := RdA.keepS hD6 q6 (fun e => by have e' : tb + 1 = tb + 1 + 1 := e; omega) (fun k off sp ek e => by have e' : k = tb + 1 + 1 := e; have := hao k off sp ek; omega)
    have hs6 := hG6.size
    exact ⟨⟨_, _, _, _, _, _, _, _, _, _, _, _, _, _, _, _, _, _, _, _, _, _, _, _, rfl⟩, g, lb, cp, q1, q2, by omega, by omega, q5, hD7, hG7⟩
  · rintro _ w7 ⟨⟨u9, u10, u11, u12, u13, u14, u15, u16, u17, u18, u19, u20, u21, u22, u23, u24, u25, u26, u27, u28, u31, u32, u33, u34, rfl⟩, g, lb, cp, q1, q2, q3, q4, q5, hD7, hG7⟩
    have hao : ∀ k off sp, ao = some ⟨k, off, sp⟩ → k < w.heap.size := Bs.olt HB.out (by rw [mimeF_len]; decide) _ _ _ rfl
    have HL1 : Hid (∀ W, Fr noB w7 W → Calls Tryz.prog 41 #[.pointer (some ⟨tb + 1, 0, none⟩)] W fun e W' => e = .returned (.int .i64 0) ∧ ∃ m, W' = W.drewN m) := fun W hF => left_any (tb + 1) 82 _ ao cap (mimeF.take 138) 138 0 42 W (RdrIs.keep hD7 hF) (by rw [len138])
    have HL2 : Hid (∀ W, Fr noB w7 W → Calls Tryz.prog 41 #[.pointer (some ⟨tb + 1 + 1, 0, none⟩)] W fun e W' => e = .returned (.int .i64 0) ∧ ∃ m, W' = W.drewN m) := fun W hF => by
      have hB := Bs.head (w := W) (ao := ao) (cap := cap) (n := 84) (B := mimeF) (by rw [mimeF_len]; exact HB.out.fr (hG7.trans hF) (fun _ _ _ _ _ _ _ h => h)) (by rw [mimeF_len]; decide)
      obtain ⟨ao', cap', he, h1, h2, h3, h4⟩ := hB
      cases he
      exact left_any (tb + 1 + 1) 84 _ ao cap (mimeF.take 84) 84 0 43 W ⟨hF.obj q5 id, by rw [len84]; rfl, rfl, rfl, h1, h2, h3, h4, fun b off sp e e' => by have := hao b off sp e; omega⟩ (by rw [len84])
    have HBW : Hid (∀ W, Fr noB w7 W → Calls Tryz.prog 29 #[.slice (some ⟨lb, 0, none⟩) 1 cp] W fun e W' => e = .returned (.bool true) ∧ Fr noB W W') := fun W hF => begins_mime lb g cp W (q1.keep hF) (MimeAt.f (hF.obj q2 id))
    have HQ : Hid (w7.heap[tb + 1 + 1]? = some (.cells #[.slice ao 84 cap, .int .i64 84, .int .i64 43, .slice (some ⟨lb, 0, none⟩) 1 cp, .int .i64 954] 84 (0, 0))) := q5
    have HH := hold_t
    have c7 : w7.cell? ⟨tb + 1 + 1, 3, none⟩ = some (.slice (some ⟨lb, 0, none⟩) 1 cp) := cellOf HQ.out rfl
    clear HR5 HX5 HG5 hD7 q5
    go_wp2_with (first
      | (go_at_call 41; with_reducible refine (HL1.out _ (Fr.refl _ _)).mono ?_; rintro e w8 ⟨rfl, m8, rfl⟩; have hF8 := (Fr.refl noB w7).drewN m8)
      | (go_at_call 41; with_reducible refine (HL2.out _ hF8).mono ?_; rintro e w9 ⟨rfl, m9, rfl⟩)
      | (go_at_call 40; refine (HH _ _).mono ?_; rintro e w10 ⟨rfl, rfl⟩)
      | (go_at_call 29; refine (HBW.out _ ((Fr.refl noB w7).drewN _)).mono ?_; rintro e w11 ⟨rfl, hF11⟩; have hF12 := ((Fr.refl noB w7).drewN _).trans hF11; have c12 := cellOf (o := 3) (hF12.obj HQ.out id) rfl))
    go_ret
    exact ⟨g, lb, cp, rfl, q1.keep hF12, hF12.obj q2 id, q3, q4, hG7.trans hF12⟩
#print axioms entries_mime
end Go.Proofs.YtlhikoomghbnjaaGreatDoor
