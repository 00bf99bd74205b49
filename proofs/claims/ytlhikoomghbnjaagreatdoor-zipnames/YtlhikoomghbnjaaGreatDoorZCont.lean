/- The contents of a stored entry; the tests of one entry. -/
import Derived.Test.YtlhikoomghbnjaaGreatDoorZRead
import Derived.Laws.CopyOwn
namespace Go.Proofs.YtlhikoomghbnjaaGreatDoor
open Go.RowKit
attribute [local go_sem ↓] Go.wp_at_zero Go.wp_at_succ

theorem Tryz.size5 : (Tryz.prog.info? 5).map (·.size) = some 1 := by kernel_rfl
theorem row_of_made {w : World} {b n : Nat} {xs : List Value} (h : w.ownsRow b 5 1 (.slice (some ⟨b, 0, none⟩) n n) n xs) : ∃ cur : List Value, cur.length = n ∧ w.heap[b]? = some (.cells cur.toArray 5 (0, 0)) := by
  obtain ⟨_, h2⟩ := h
  rcases h2 with ⟨h2, _⟩ | ⟨g, cap, cur, hv, hg, hh, h3, h4, h5, h6⟩
  · cases h2
  · simp at hv
    obtain ⟨rfl, rfl⟩ := hv
    exact ⟨cur.toList, by simpa using h5, by simpa using hh⟩
theorem splice_all {α : Type} (L cs : List α) (h : cs.length = L.length) : splice L 0 cs = cs := by
  simp [splice, h]

set_option maxRecDepth 100000 in
set_option maxHeartbeats 800000 in
theorem copyOf_any (v : Value) (B : List Nat) (w : World) (hv : Bs w v B) (hl : B.length ≤ 140737488355328) :
    Calls Tryz.prog 17 #[v] w fun e w' => ∃ g, e = .returned (.slice (some ⟨g, 0, none⟩) B.length B.length) ∧ w.heap.size ≤ g ∧ w'.heap[g]? = some (.cells (byteVals B).toArray 5 (0, 0)) ∧ Fr noB w w' := by
  obtain ⟨i0, hi, hz0, hz1, hz2⟩ := info_parts Tryz.info5
  obtain ⟨ao, cap, rfl, h1, h2, _, h3⟩ := hv
  have hmin : (byteVals B).length = Nat.min B.length B.length := by simp
  go_enter Tryz.func17, Tryz.ntmps17
  go_wp2_with (at_make; refine wpList_make_full _ rfl (.tmp 5) (.tmp 5) 22 rfl w.heap.size 5 i0 (.int .u8 0) 1 Tryz.underlying22 hi hz0 hz1 .i64 .i64 _ _ B.length rfl rfl rfl rfl (by rw [hz2]; omega) (by unfold maxLen; omega) (Nat.le_refl _) ?_)
  intro w1 hown hgrow
  obtain ⟨cur, hcur, hrow⟩ := row_of_made hown
  have hb1 : Below w.heap.size w w1 := (Below.refl _ _).grown hgrow (Nat.le_refl _) (by simp)
  have hsrc : Src w1 ao (byteVals B) := Src.of (by
    rcases h3 with h3 | ⟨b, off, rfl, hb, hc⟩
    · exact Or.inl h3
    · exact Or.inr ⟨b, off, rfl, fun i hi => (hb1.cell (p := ⟨b, off + i, none⟩) hb).trans (hc i hi)⟩)
  clear hown hgrow h3
  have hfit : 0 + (byteVals B).length ≤ cur.length := by simp [hcur]
  have HC : Hid (cur.length = B.length) := hcur
  clear hcur
  have HR : Hid (w1.heap[w.heap.size]? = some (.cells cur.toArray 5 (0, 0))) := hrow
  clear hrow
  go_wp2_with (refine wpList_copy_splice rfl (.tmp 7) (.tmp 8) 22 22 rfl 5 Tryz.underlying22 Tryz.size5 _ _ _ _ _ _ rfl rfl w.heap.size 0 cur 5 HR.out (byteVals B) hmin (fun h0 => ⟨rfl, hsrc.get h0⟩) hfit (byteVals_one B) w.heap.size w hb1 (Nat.le_refl _) ?_; intro w2 HG2 hB2)
  go_ret
  have hrow : w2.heap[w.heap.size]? = some (.cells (byteVals B).toArray 5 (0, 0)) := by
    have h := HG2.out
    rw [splice_all _ _ (by simpa using HC.out.symm)] at h
    exact h
  exact ⟨w.heap.size, rfl, Nat.le_refl _, hrow, Fr.ofBelow hB2⟩

set_option maxRecDepth 100000 in
set_option maxHeartbeats 800000 in
theorem described_not (me s l n : Nat) (nm : ByteArray) (w : World) :
    Calls Tryz.prog 60 #[.agg #[.int .u16 0, .int .u16 (me : Int), .int .u32 (s : Int), .int .u32 (l : Int), .int .u32 (n : Int), .string nm]] w fun e w' => e = .returned (.bool false) ∧ Fr noB w w' := by
  have hF := (Fr.refl noB w).alloc (.cells #[.int .u16 0, .int .u16 (me : Int), .int .u32 (s : Int), .int .u32 (l : Int), .int .u32 (n : Int), .string nm] 69 (0, 0))
  have hb8 : bits .and .u16 0 8 = 0 := by decide
  go_enter Tryz.func60, Tryz.ntmps60
  go_wp2_with fail
  go_ret
  exact ⟨rfl, hF⟩

set_option maxRecDepth 100000 in
set_option maxHeartbeats 1600000 in
theorem taken_stored (s l n place : Nat) (nm : ByteArray) (w : World) (hs : s ≠ 4294967295) (hl : l ≠ 4294967295) (hn : n ≠ 4294967295) (hp : place ≠ 4294967295) :
    Calls Tryz.prog 55 #[.agg #[.int .u16 0, .int .u16 0, .int .u32 (s : Int), .int .u32 (l : Int), .int .u32 (n : Int), .string nm, .int .u16 0, .int .u32 (place : Int)]] w fun e w' => e = .returned (.bool true) ∧ Fr noB w w' := by
  have hF := ((Fr.refl noB w).alloc (.cells #[.int .u16 0, .int .u16 0, .int .u32 (s : Int), .int .u32 (l : Int), .int .u32 (n : Int), .string nm, .int .u16 0, .int .u32 (place : Int)] 72 (0, 0))).alloc (.cells #[.int .u32 (s : Int), .int .u32 (l : Int), .int .u32 (n : Int)] 67 (0, 0))
  have u1 : ((s : Int) != 4294967295) = true := by simp; omega
  have u2 : ((l : Int) != 4294967295) = true := by simp; omega
  have u3 : ((n : Int) != 4294967295) = true := by simp; omega
  have u4 : ((place : Int) == 4294967295) = false := by simp; omega
  have v1 : ¬ (s : Int) = 4294967295 := by omega
  have v2 : ¬ (l : Int) = 4294967295 := by omega
  have v3 : ¬ (n : Int) = 4294967295 := by omega
  have v4 : ¬ (place : Int) = 4294967295 := by omega
  have hba : bits .andNot .u16 0 2062 = 0 := by decide
  clear hs hl hn hp
  go_enter Tryz.func55, Tryz.ntmps55
  go_wp2_with fail
  go_ret
  exact ⟨rfl, hF⟩

set_option maxRecDepth 100000 in
set_option maxHeartbeats 1600000 in
theorem fits_same (me s l n place : Nat) (nm : ByteArray) (w : World) :
    Calls Tryz.prog 56 #[.agg #[.int .u16 0, .int .u16 (me : Int), .int .u32 (s : Int), .int .u32 (l : Int), .int .u32 (n : Int), .string nm, .int .u16 0, .int .u32 (place : Int)], .agg #[.int .u16 0, .int .u16 (me : Int), .int .u32 (s : Int), .int .u32 (l : Int), .int .u32 (n : Int), .string nm]] w fun e w' => e = .returned (.bool true) ∧ Fr noB w w' := by
  have HD : Hid (∀ w', Calls Tryz.prog 60 #[.agg #[.int .u16 0, .int .u16 (me : Int), .int .u32 (s : Int), .int .u32 (l : Int), .int .u32 (n : Int), .string nm]] w' fun e w'' => e = .returned (.bool false) ∧ Fr noB w' w'') := fun w' => described_not me s l n nm w'
  obtain ⟨ht, hh, hF⟩ := two_newB w (.cells #[.int .u16 0, .int .u16 (me : Int), .int .u32 (s : Int), .int .u32 (l : Int), .int .u32 (n : Int), .string nm, .int .u16 0, .int .u32 (place : Int)] 72 (0, 0)) (.cells #[.int .u16 0, .int .u16 (me : Int), .int .u32 (s : Int), .int .u32 (l : Int), .int .u32 (n : Int), .string nm] 69 (0, 0))
  have HT : Hid _ := ht
  have HH : Hid _ := hh
  have HF : Hid _ := hF
  clear ht hh hF
  go_enter Tryz.func56, Tryz.ntmps56
  go_upto_region 1 with fail
  go_wp2_with fail
  refine (HD.out _).mono ?_
  rintro e w1 ⟨rfl, hF1⟩
  have ht1 := hF1.obj HT.out id
  have hh1 := hF1.obj HH.out id
  have t0 : w1.cell? ⟨w.heap.size, 0, none⟩ = some (.int .u16 0) := cellOf ht1 rfl
  have t1 : w1.cell? ⟨w.heap.size, 1, none⟩ = some (.int .u16 (me : Int)) := cellOf ht1 rfl
  have t2 : w1.cell? ⟨w.heap.size, 2, none⟩ = some (.int .u32 (s : Int)) := cellOf ht1 rfl
  have t3 : w1.cell? ⟨w.heap.size, 3, none⟩ = some (.int .u32 (l : Int)) := cellOf ht1 rfl
  have t4 : w1.cell? ⟨w.heap.size, 4, none⟩ = some (.int .u32 (n : Int)) := cellOf ht1 rfl
  have t5 : w1.cell? ⟨w.heap.size, 5, none⟩ = some (.string nm) := cellOf ht1 rfl
  have k0 : w1.cell? ⟨w.heap.size + 1, 0, none⟩ = some (.int .u16 0) := cellOf hh1 rfl
  have k1 : w1.cell? ⟨w.heap.size + 1, 1, none⟩ = some (.int .u16 (me : Int)) := cellOf hh1 rfl
  have k2 : w1.cell? ⟨w.heap.size + 1, 2, none⟩ = some (.int .u32 (s : Int)) := cellOf hh1 rfl
  have k3 : w1.cell? ⟨w.heap.size + 1, 3, none⟩ = some (.int .u32 (l : Int)) := cellOf hh1 rfl
  have k4 : w1.cell? ⟨w.heap.size + 1, 4, none⟩ = some (.int .u32 (n : Int)) := cellOf hh1 rfl
  have k5 : w1.cell? ⟨w.heap.size + 1, 5, none⟩ = some (.string nm) := cellOf hh1 rfl
  clear ht1 hh1
  go_wp2_with fail
  go_ret
  exact ⟨rfl, HF.out.trans hF1⟩

set_option maxRecDepth 100000 in
set_option maxHeartbeats 1600000 in
theorem contents_stored (s n : Nat) (nm : ByteArray) (ao : Option Addr) (cp : Nat) (C : List Nat) (w : World) (hb : Bs w (.slice ao C.length cp) C) (hl : C.length ≤ 140737488355328) :
    Calls Tryz.prog 58 #[.agg #[.int .u16 0, .int .u16 0, .int .u32 (s : Int), .int .u32 (n : Int), .int .u32 (n : Int), .string nm], .slice ao C.length cp] w fun e w' => ∃ g, e = .returned (.slice (some ⟨g, 0, none⟩) C.length C.length) ∧ w.heap.size ≤ g ∧ w'.heap[g]? = some (.cells (byteVals C).toArray 5 (0, 0)) ∧ Fr noB w w' := by
  have hF := (Fr.refl noB w).alloc (.cells #[.int .u16 0, .int .u16 0, .int .u32 (s : Int), .int .u32 (n : Int), .int .u32 (n : Int), .string nm] 69 (0, 0))
  have C1 := copyOf_any _ C _ (hb.fr hF (fun _ _ _ _ _ _ _ h => h)) hl
  have HF : Hid _ := hF
  clear hb hF
  go_enter Tryz.func58, Tryz.ntmps58
  go_wp2_with (first | (go_at_call 40; with_reducible refine (hold_true _ _).mono ?_; rintro e w1 ⟨rfl, rfl⟩) | (go_at_call 17; refine C1.mono ?_; rintro e w2 ⟨g, rfl, hg, hrow, hF2⟩))
  go_ret
  have hsz := HF.out.size
  exact ⟨g, rfl, by omega, hrow, HF.out.trans hF2⟩
#print axioms contents_stored
end Go.Proofs.YtlhikoomghbnjaaGreatDoor
