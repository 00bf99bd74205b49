/- The contracts of short and of a stored block that is right. -/
import Derived.Test.YthgnhcdodfildaaDoorInf
import Derived.Test.YthgnhcdodfildaaDoorK06
import Derived.Test.YthgnhcdodfildaaDoorBit64
import Derived.Deep.AppendLies
namespace Go.Proofs.YthgnhcdodfildaaDoor
open Go.RowKit
attribute [local go_sem ↓] Go.wp_at_zero Go.wp_at_succ

theorem or_two (a b : Nat) (ha : a < 256) (hb : b < 256) : bits .or .i64 (a : Int) ((b : Int) * 256) = ((a + 256 * b : Nat) : Int) := by
  have h3 : ((b : Int) * 256) = ((b * 2 ^ 8 : Nat) : Int) := by simp
  rw [h3, i64_or_nat _ _ (by omega) (by omega), Nat.or_comm, nat_join 8 (b * 2 ^ 8) a (by simp) (by omega), Nat.add_comm, Nat.mul_comm 256 b]

set_option maxHeartbeats 400000 in
theorem short_any (a b : Nat) (w : World) (ha : a < 256) (hb : b < 256) :
    Calls Tryd.prog 50 #[.int .u8 (a : Int), .int .u8 (b : Int)] w fun e w' => e = .returned (.int .i64 ((a + 256 * b : Nat) : Int)) ∧ w' = w := by
  go_enter Tryd.func50, Tryd.ntmps50
  go_wp2_with fail
  go_ret
  exact ⟨ret_int (or_two a b ha hb), rfl⟩

theorem four_cells {w : World} {base : Nat} {v : Value} {a b c d : Nat} (h : w.ownsRow base 5 1 v 4 (byteVals [a, b, c, d])) : ∃ g cap, v = .slice (some ⟨g, 0, none⟩) 4 cap ∧ base ≤ g ∧ g < w.heap.size ∧ w.cell? ⟨g, 0, none⟩ = some (.int .u8 (a : Int)) ∧ w.cell? ⟨g, 1, none⟩ = some (.int .u8 (b : Int)) ∧ w.cell? ⟨g, 2, none⟩ = some (.int .u8 (c : Int)) ∧ w.cell? ⟨g, 3, none⟩ = some (.int .u8 (d : Int)) := by
  obtain ⟨g, cap, cur, hv, hg, hh, h1, h2, h3, h4⟩ := own_row h (by decide)
  have hc : ∀ i (hi : i < 4), w.cell? ⟨g, i, none⟩ = (byteVals [a, b, c, d])[i]? := by
    intro i hi
    have e := congrArg (fun l => l[i]?) h4
    simp only [List.getElem?_take_of_lt hi] at e
    have hb : (byteVals [a, b, c, d])[i]? = some ((byteVals [a, b, c, d])[i]'(by simpa using hi)) := List.getElem?_eq_getElem _
    rw [hb] at e ⊢
    exact cellOf hh (by simpa using e)
  exact ⟨g, cap, hv, hg, lt_of_block hh, hc 0 (by decide), hc 1 (by decide), hc 2 (by decide), hc 3 (by decide)⟩

set_option maxRecDepth 100000 in
set_option maxHeartbeats 1600000 in
theorem stored_good (fb rb g p f a b c d : Nat) (B sd T : List Nat) (most : Int) (sv : Value) (lt ds : Option Addr) (w : World) (h : InfIs w fb rb g B p most sv sd lt ds) (hB : ∀ x ∈ B, x < 256) (hp : p ≤ 8 * B.length) (hl : B.length ≤ 1073741824) (hf : f = (p + 7) / 8)
    (h4 : (B.drop f).take 4 = [a, b, c, d]) (hab : a + 256 * b + (c + 256 * d) = 65535) (hT : (B.drop (f + 4)).take (a + 256 * b) = T) (hTl : f + 4 + (a + 256 * b) ≤ B.length) (hm : (sd.length : Int) + ((a + 256 * b : Nat) : Int) ≤ most) (hm2 : most ≤ 9223372036854775807) (hsd : sd.length ≤ 35184372088832) :
    Calls Tryd.prog 36 #[.pointer (some ⟨fb, 0, none⟩)] w fun e w' => e = .returned (.int .i64 0) ∧ ∃ sv', InfIs w' fb rb g B (8 * (f + 4 + (a + 256 * b))) most sv' (sd ++ T) lt ds ∧ Fr (iS w fb rb) w w' := by
  have hx4 : ∀ y ∈ [a, b, c, d], y < 256 := by rw [← h4]; intro y hy; exact hB y (List.mem_of_mem_drop (List.mem_of_mem_take hy))
  have ha := hx4 a (by simp)
  have hb := hx4 b (by simp)
  have hc := hx4 c (by simp)
  have hd := hx4 d (by simp)
  have H4 := ibytes_good fb rb g p 4 f B sd most sv lt ds w h hp (by omega) hf (by omega)
  rw [h4] at H4
  obtain ⟨i0, hi, hz0, hz1, hz2⟩ := info_parts Tryd.info5'
  have HTT : Hid ((B.drop (f + 4)).take (a + 256 * b) = T) := hT
  have HS1 : ∀ w, Calls Tryd.prog 50 #[.int .u8 (a : Int), .int .u8 (b : Int)] w fun e w' => e = .returned (.int .i64 ((a + 256 * b : Nat) : Int)) ∧ w' = w := fun w => short_any a b w ha hb
  have HS2 : ∀ w, Calls Tryd.prog 50 #[.int .u8 (c : Int), .int .u8 (d : Int)] w fun e w' => e = .returned (.int .i64 ((c + 256 * d : Nat) : Int)) ∧ w' = w := fun w => short_any c d w hc hd
  have HXo : bits .xor .i64 ((a + 256 * b : Nat) : Int) ((c + 256 * d : Nat) : Int) = 65535 := by
    rw [i64_xor_nat _ _ (by omega) (by omega), show c + 256 * d = 65535 - (a + 256 * b) by omega, xor_compl _ (by omega)]
    rfl
  have HTl : Hid (T.length = a + 256 * b) := by
    rw [← hT, List.length_take, List.length_drop]
    show min (a + 256 * b) (B.length - (f + 4)) = a + 256 * b
    omega
  obtain ⟨n, hn⟩ : ∃ n, a + 256 * b = n := ⟨_, rfl⟩
  obtain ⟨m, hm'⟩ : ∃ m, c + 256 * d = m := ⟨_, rfl⟩
  rw [hn] at hm hTl HS1 HXo HTT HTl ⊢
  rw [hm'] at HS2 HXo
  have hnm : n ≤ 65535 ∧ m ≤ 65535 := by omega
  have HH1 : Hid _ := HS1
  have HH2 : Hid _ := HS2
  clear hn hm' hab hT HS1 HS2 hx4 h4 hf h
  go_enter Tryd.func36, Tryd.ntmps36
  go_wp2_with fail
  refine H4.mono ?_
  rintro e w1 ⟨v, rfl, hown, hI1, hF1⟩
  obtain ⟨g4, cap4, rfl, hg4, hg4l, e0, e1, e2, e3⟩ := four_cells hown
  have HI1 : Hid (InfIs w1 fb rb g B (8 * (f + 4)) most sv sd lt ds) := hI1
  have d0 : w1.drew.cell? ⟨g4, 0, none⟩ = some (.int .u8 (a : Int)) := e0
  have d1 : w1.drew.cell? ⟨g4, 1, none⟩ = some (.int .u8 (b : Int)) := e1
  have d2 : w1.drew.cell? ⟨g4, 2, none⟩ = some (.int .u8 (c : Int)) := e2
  have d3 : w1.drew.cell? ⟨g4, 3, none⟩ = some (.int .u8 (d : Int)) := e3
  clear hown hI1 H4
  go_wp2_with fail
  go_region_held3 (fun w' => w'.cell? ⟨g4, 0, none⟩ = some (.int .u8 (a : Int)) ∧ w'.cell? ⟨g4, 1, none⟩ = some (.int .u8 (b : Int)) ∧ w'.cell? ⟨g4, 2, none⟩ = some (.int .u8 (c : Int)) ∧ w'.cell? ⟨g4, 3, none⟩ = some (.int .u8 (d : Int)))
    (exact ⟨d0, d1, d2, d3⟩)
    (first | (go_at_call_of 50 (Value.int IntKind.u8 (a : Int)); refine (HH1.out _).mono ?_; rintro e w' ⟨rfl, rfl⟩) | (go_at_call_of 50 (Value.int IntKind.u8 (c : Int)); refine (HH2.out _).mono ?_; rintro e w' ⟨rfl, rfl⟩))
  have hId : InfIs w1.drew fb rb g B (8 * (f + 4)) most sv sd lt ds := HI1.out.keep (Fr.refl noB w1).drew id id id (fun _ _ _ _ h => h)
  have HRm := room_any' fb rb g (8 * (f + 4)) B sd most sv lt ds w1.drew hId (by omega) (by omega) (by omega)
  have hb1 : (((n : Int)) ≤ most - (sd.length : Int)) := by omega
  clear d0 d1 d2 d3 e0 e1 e2 e3
  have HID : Hid (InfIs w1.drew fb rb g B (8 * (f + 4)) most sv sd lt ds) := hId
  clear hId
  obtain ⟨q, hq⟩ : ∃ q, sd.length = q := ⟨_, rfl⟩
  have HQ : Hid (sd.length = q) := hq
  rw [hq] at HRm hb1 hm hsd
  clear hq
  go_wp2_with fail
  refine HRm.mono ?_
  rintro e w2 ⟨rfl, hI2, hF2⟩
  have HBy := ibytes_good fb rb g (8 * (f + 4)) n (f + 4) B sd most sv lt ds w2 hI2 (by omega) (by omega) (by omega) (by omega)
  rw [HTT.out] at HBy
  clear hI2 HRm
  go_wp2_with fail
  refine HBy.mono ?_
  rintro e w3 ⟨v, rfl, hown3, hI3, hF3⟩
  obtain ⟨so3, sc3, rfl, hle3, hmx3, hnil3, hsrc3, hob3⟩ := own_slice hown3
  obtain ⟨so, sc, hsv, hle, hmx, hnil, hsrc, hob⟩ := own_slice hI3.own
  have c2 := cellOf (o := 2) hI3.at_ rfl
  have hfree := freeOf (o := 2) hI3.at_
  have HI3 : Hid (InfIs w3 fb rb g B (8 * (f + 4 + n)) most sv sd lt ds) := hI3
  have hfb3 : fb < w3.heap.size := lt_of_block hI3.at_
  have hO3 : Hid (w3.ownsRow (fb + 1) 5 1 sv q (byteVals sd)) := by
    have := hI3.own
    rw [HQ.out] at this
    exact this
  rw [HQ.out] at hsv
  subst hsv
  have HTq : Hid ((byteVals T).length = n) := by rw [length_byteVals]; exact HTl.out
  clear hI3 HBy hown3
  go_wp2_with (at_builtin; refine wpList_append_src rfl (.tmp 51) (.tmp 52) 22 rfl (fb + 1) 5 i0 (.int .u8 0) 1 Tryd.underlying22 hi hz0 hz1 hz2 rfl _ q (byteVals sd) rfl hO3.out so3 n sc3 rfl hnil3 hle3 (byteVals T) HTq.out hsrc3 (byteVals_one _) (by unfold maxLen; omega) (by omega) (by omega) ?_)
  intro v4 w4 hown4 hg4
  have hne4 : (Value.slice so q sc).ownBlock ≠ some fb := fun e => by have := (hob fb e).1; omega
  have c4 : w4.cell? ⟨fb, 2, none⟩ = some (.slice so q sc) := (hg4.cell_far _ hfb3 (Ne.symm hne4)).trans c2
  have f4 : w4.frozen? ⟨fb, 2, none⟩ = false := (hg4.frozen_far _ hfb3 (Ne.symm hne4)).trans hfree
  have hown4' : w4.ownsRow (fb + 1) 5 1 v4 (sd ++ T).length (byteVals (sd ++ T)) := by
    rw [List.length_append, HQ.out, HTl.out]
    have e : byteVals (sd ++ T) = byteVals sd ++ byteVals T := by simp [byteVals]
    rw [e]
    exact hown4
  obtain ⟨so4, sc4, hv4, -⟩ := own_slice hown4'
  rw [List.length_append, HQ.out, HTl.out] at hv4
  subst hv4
  have HO4 : Hid _ := hown4'
  have hFg : Fr (fun b => (Value.slice so q sc).ownBlock = some b) w3 w4 := (Fr.refl _ w3).grown hg4 (fun b hb => Or.inl hb)
  clear hown4 hown4'
  go_wp2_with fail
  go_ret
  have hI3 := HI3.out
  refine ⟨rfl, .slice so4 (q + n) sc4, ⟨?_, ?_, ?_, ?_, hI3.rlt, hI3.glt, hI3.ne⟩, ?_⟩
  · have h0 := hFg.obj hI3.at_ hne4
    have h1 := setOf 2 (.slice so4 (q + n) sc4) h0
    exact h1
  · obtain ⟨o1, o2⟩ := HO4.out
    refine ⟨o1, ?_⟩
    rcases o2 with o2 | ⟨g', cap', cur', k1, k2, k3, k4⟩
    · exact Or.inl o2
    · exact Or.inr ⟨g', cap', cur', k1, k2, (Below.heap_setCell _ _ _ _ (by show g' ≠ fb; omega)).trans k3, k4⟩
  · have h0 := hFg.obj hI3.rd (fun e => by have := (hob rb e).1; have := hI3.rlt; omega)
    exact (Below.heap_setCell _ _ _ _ (by show rb ≠ fb; have := hI3.rlt; omega)).trans h0
  · have h0 := hFg.obj hI3.row (fun e => by have := (hob g e).1; have := hI3.glt; omega)
    exact (Below.heap_setCell _ _ _ _ (by show g ≠ fb; have := hI3.glt; omega)).trans h0
  · have hA : Fr (iS w fb rb) w w3 := (hF1.toI.drew.trans hF2.weak).trans (hF3.mono fun k _ hk => Or.inl hk)
    refine (hA.then hFg (fun k hk => ?_)).setCell _ (Or.inl (Or.inr (Or.inl rfl))) _
    obtain ⟨hk1, cur, hk2⟩ := hob k hk
    rcases Nat.lt_or_ge k w.heap.size with hlt | hge
    · by_cases hrb : k = rb
      · exact Or.inl (Or.inl hrb)
      · have hb' := hA.block k hlt
        left
        right
        right
        refine ⟨by omega, cur, (0, 0), ?_⟩
        have hkeep : w3.heap[k]? = w.heap[k]? := by
          have e1 := hF1.block k hlt (fun e => hrb e)
          have e2 : w1.drew.heap[k]? = w1.heap[k]? := rfl
          have e3 := hF2.block k (Nat.lt_of_lt_of_le hlt hF1.size) id
          have e4 := hF3.block k (Nat.lt_of_lt_of_le hlt (Nat.le_trans hF1.size hF2.size)) (fun e => hrb e)
          exact e4.trans (e3.trans (e2.trans e1))
        rw [← hkeep]
        exact hk2
    · exact Or.inr hge
#print axioms stored_good
end Go.Proofs.YthgnhcdodfildaaDoor
