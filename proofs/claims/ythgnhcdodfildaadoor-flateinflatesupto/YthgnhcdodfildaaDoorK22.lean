/- The inflater where bits or bytes end; a symbol, a number behind it. -/
import Derived.Test.YthgnhcdodfildaaDoorInf2
import Derived.Test.YthgnhcdodfildaaDoorDRead
namespace Go.Proofs.YthgnhcdodfildaaDoor
open Go.RowKit
attribute [local go_sem ↓] Go.wp_at_zero Go.wp_at_succ

set_option maxHeartbeats 800000 in
theorem ibits_ends (fb rb g p n : Nat) (B sd : List Nat) (most : Int) (sv : Value) (lt ds : Option Addr) (w : World) (h : InfIs w fb rb g B p most sv sd lt ds) (hp : p ≤ 8 * B.length) (hl : B.length ≤ 140737488355328) (hn : n ≤ 32) (hle : 8 * B.length < p + n) :
    Calls Tryd.prog 35 #[.pointer (some ⟨fb, 0, none⟩), .int .i64 (n : Int)] w fun e w' => e = .returned (.tuple #[.int .i64 0, .int .i64 33]) ∧ InfIs w' fb rb g B p most sv sd lt ds ∧ Fr noB w w' := by
  have HC := bits_ends rb g B.length p n w h.rd hp hl hn hle
  have c0 := cellOf (o := 0) h.at_ rfl
  have HI : Hid (InfIs w fb rb g B p most sv sd lt ds) := h
  clear h
  go_enter Tryd.func35, Tryd.ntmps35
  go_wp2_with fail
  refine HC.mono ?_
  rintro e w1 ⟨rfl, m, rfl⟩
  go_wp2_with fail
  go_ret2
  exact ⟨rfl, HI.out.keep ((Fr.refl noB w).drewN _) id id id (fun _ _ _ _ h => h), (Fr.refl noB w).drewN _⟩

set_option maxHeartbeats 800000 in
theorem ibytes_ends (fb rb g p n : Nat) (B sd : List Nat) (most : Int) (sv : Value) (lt ds : Option Addr) (w : World) (h : InfIs w fb rb g B p most sv sd lt ds) (hp : p ≤ 8 * B.length) (hl : B.length ≤ 140737488355328) (hn : B.length < (p + 7) / 8 + n) :
    Calls Tryd.prog 49 #[.pointer (some ⟨fb, 0, none⟩), .int .i64 (n : Int)] w fun e w' => e = .returned (.tuple #[.slice none 0 0, .int .i64 33]) ∧ w' = w := by
  have HC := bytes_ends rb g B.length p n w h.rd hp hl hn
  have c0 := cellOf (o := 0) h.at_ rfl
  clear h
  go_enter Tryd.func49, Tryd.ntmps49
  go_wp2_with fail
  refine HC.mono ?_
  rintro e w1 ⟨rfl, rfl⟩
  go_wp2_with fail
  go_ret2
  exact ⟨rfl, rfl⟩

/-- The number of n bits at p, as bits tells it: what it is, the error, the place behind. -/
def bitA (B : List Nat) (p n : Nat) : Nat × Nat × Nat := if p + n ≤ 8 * B.length then (numAt B p n, 0, p + n) else (0, 33, p)
theorem ibits_any (fb rb g p n : Nat) (B sd : List Nat) (most : Int) (sv : Value) (lt ds : Option Addr) (w : World) (h : InfIs w fb rb g B p most sv sd lt ds) (hB : ∀ x ∈ B, x < 256) (hp : p ≤ 8 * B.length) (hl : B.length ≤ 140737488355328) (hn : n ≤ 32) :
    Calls Tryd.prog 35 #[.pointer (some ⟨fb, 0, none⟩), .int .i64 (n : Int)] w fun e w' => e = .returned (.tuple #[.int .i64 (((bitA B p n).1 : Nat) : Int), .int .i64 (((bitA B p n).2.1 : Nat) : Int)]) ∧ InfIs w' fb rb g B (bitA B p n).2.2 most sv sd lt ds ∧ Fr (oneB rb) w w' := by
  unfold bitA
  by_cases hle : p + n ≤ 8 * B.length
  · rw [if_pos hle]
    exact ibits_good fb rb g p n B sd most sv lt ds w h hB hl hn hle
  · rw [if_neg hle]
    refine (ibits_ends fb rb g p n B sd most sv lt ds w h hp hl hn (by omega)).mono ?_
    rintro e w1 ⟨rfl, h1, h2⟩
    exact ⟨rfl, h1, h2.weak⟩
theorem bitA_le (B : List Nat) (p n : Nat) (hp : p ≤ 8 * B.length) : (bitA B p n).2.2 ≤ 8 * B.length := by
  unfold bitA; split <;> simp <;> omega
theorem bitA_lt (B : List Nat) (p n : Nat) : (bitA B p n).1 < 2 ^ n := by
  unfold bitA
  split
  · exact numAt_lt B p n
  · exact Nat.two_pow_pos n

set_option maxHeartbeats 800000 in
theorem number_any (fb rb g p n f : Nat) (B sd : List Nat) (most : Int) (sv : Value) (lt ds : Option Addr) (w : World) (h : InfIs w fb rb g B p most sv sd lt ds) (hB : ∀ x ∈ B, x < 256) (hp : p ≤ 8 * B.length) (hl : B.length ≤ 140737488355328) (hn : n ≤ 32) (hf : f ≤ 4294967296) :
    Calls Tryd.prog 91 #[.pointer (some ⟨fb, 0, none⟩), .agg #[.int .i64 (f : Int), .int .i64 (n : Int)]] w fun e w' => e = .returned (.tuple #[.int .i64 ((if (bitA B p n).2.1 = 0 then f + (bitA B p n).1 else 0 : Nat) : Int), .int .i64 (((bitA B p n).2.1 : Nat) : Int)]) ∧ InfIs w' fb rb g B (bitA B p n).2.2 most sv sd lt ds ∧ Fr (oneB rb) w w' := by
  have HC := ibits_any fb rb g p n B sd most sv lt ds (w.alloc (.cells #[.int .i64 (f : Int), .int .i64 (n : Int)] 139 (0, 0))) (h.keep ((Fr.refl noB w).alloc _) id id id (fun _ _ _ _ h => h)) hB hp hl hn
  have hlt : (bitA B p n).1 < 4294967296 := Nat.lt_of_lt_of_le (bitA_lt B p n) (Nat.pow_le_pow_right (n := 2) (by decide) hn)
  have hrb : rb < w.heap.size := lt_of_block h.rd
  clear h
  generalize (bitA B p n).2.2 = p' at *
  have hc : (bitA B p n).2.1 = 0 ∨ (bitA B p n).2.1 = 33 := by unfold bitA; split <;> simp
  generalize (bitA B p n).1 = x at *
  generalize (bitA B p n).2.1 = e0 at *
  go_enter Tryd.func91, Tryd.ntmps91
  go_wp2_with fail
  refine HC.mono ?_
  rintro e w1 ⟨rfl, hI, hF⟩
  have hb := hF.obj (heap_alloc_new w (.cells #[.int .i64 (f : Int), .int .i64 (n : Int)] 139 (0, 0))) (fun e => by have e' : w.heap.size = rb := e; omega)
  have c0 := cellOf (o := 0) hb rfl
  have HI : Hid (InfIs w1 fb rb g B p' most sv sd lt ds) := hI
  have HF : Hid (Fr (oneB rb) w w1) := ((Fr.refl _ w).alloc _).trans hF
  clear HC hI hF hb
  rcases hc with rfl | rfl
  · go_wp2_with fail
    go_ret2
    exact ⟨by simp, HI.out, HF.out⟩
  · go_wp2_with fail
    go_ret2
    exact ⟨by simp, HI.out, HF.out⟩

/-- A symbol as the inflater reads it: what it is, the error, the place behind. -/
def symA (M B : List Nat) (p : Nat) : Nat × Nat × Nat := if 8 * B.length ≤ p then (0, 33, p) else if (rdA M B p).2.1 = 0 then ((rdA M B p).1, 0, (rdA M B p).2.2) else if (rdA M B p).2.1 = 22 then (0, 31, p) else (0, 33, p)
theorem rdT_err (M B : List Nat) (p f k : Nat) : (rdT M B p f k).2.1 = 0 ∨ (rdT M B p f k).2.1 = 22 ∨ (rdT M B p f k).2.1 = 11 := by
  induction f generalizing k with
  | zero => simp [rdT]
  | succ f ih =>
    unfold rdT
    split
    · simp
    · split
      · simp
      · split
        · simp
        · exact ih _

set_option maxRecDepth 100000 in
set_option maxHeartbeats 1600000 in
theorem symbol_any (fb rb g p db sb : Nat) (M B sd : List Nat) (most : Int) (sv : Value) (lt ds : Option Addr) (w : World) (h : InfIs w fb rb g B p most sv sd lt ds) (hd : DecIs w db sb M) (h1 : db ≠ rb) (h2 : sb ≠ rb) (hM : Code M) (hB : ∀ x ∈ B, x < 256) (hp : p ≤ 8 * B.length) (hl : B.length ≤ 140737488355328) :
    Calls Tryd.prog 76 #[.pointer (some ⟨fb, 0, none⟩), .pointer (some ⟨db, 0, none⟩)] w fun e w' => e = .returned (.tuple #[.int .i64 (((symA M B p).1 : Nat) : Int), .int .i64 (((symA M B p).2.1 : Nat) : Int)]) ∧ ((symA M B p).2.1 = 0 → InfIs w' fb rb g B (symA M B p).2.2 most sv sd lt ds) ∧ Fr (oneB rb) w w' := by
  have HC := left_any rb g B.length p w h.rd hp hl
  have c0 := cellOf (o := 0) h.at_ rfl
  have HI : Hid (InfIs w fb rb g B p most sv sd lt ds) := h
  have HR := fun m => read_any db sb rb g p M B (w.drewN m) ⟨hd.keep ((Fr.refl noB w).drewN m) id id, h.rd.drewN m, h.row.drewN m, h1, h2, Ne.symm h.ne⟩ hM hB hl hp
  clear h hd
  unfold symA
  by_cases hle : 8 * B.length ≤ p
  · have h0 : 8 * B.length - p = 0 := by omega
    rw [h0] at HC
    simp only [if_pos hle]
    clear HR
    go_enter Tryd.func76, Tryd.ntmps76
    go_wp2_with fail
    refine HC.mono ?_
    rintro e w1 ⟨rfl, m, rfl⟩
    go_wp2_with fail
    go_ret2
    exact ⟨rfl, by simp, (Fr.refl _ w).drewN m⟩
  · simp only [if_neg hle]
    have h0 : ((8 * B.length - p : Nat) : Int) ≠ 0 := by omega
    generalize ((8 * B.length - p : Nat) : Int) = L at *
    have he := rdT_err M B p 16 0
    change (rdA M B p).2.1 = 0 ∨ (rdA M B p).2.1 = 22 ∨ (rdA M B p).2.1 = 11 at he
    generalize (rdA M B p).2.2 = p' at *
    generalize (rdA M B p).1 = x at *
    generalize (rdA M B p).2.1 = e0 at *
    have HHR : Hid _ := HR
    clear HR
    go_enter Tryd.func76, Tryd.ntmps76
    go_wp2_with fail
    refine HC.mono ?_
    rintro e w1 ⟨rfl, m, rfl⟩
    have c0' : (w.drewN m).cell? ⟨fb, 0, none⟩ = some (.pointer (some ⟨rb, 0, none⟩)) := c0
    have HRm := HHR.out m
    clear HHR
    go_wp2_with fail
    refine HRm.mono ?_
    rintro e w1 ⟨rfl, hr, hF⟩
    have HRt : Hid (e0 = 0 → RdAt w1 rb g B.length p') := hr
    have HF : Hid (Fr (oneB rb) w w1) := ((Fr.refl _ w).drewN m).trans hF
    clear hr hF HRm HC
    rcases he with rfl | rfl | rfl
    · go_wp2_with fail
      go_ret2
      exact ⟨by simp, HI.out.rdr HF.out (by have := HRt.out; simpa using this), HF.out⟩
    · go_wp2_with fail
      go_ret2
      first | exact ⟨by simp, HF.out⟩ | exact ⟨by simp, by simp, HF.out⟩ | exact ⟨rfl, HF.out⟩
    · go_wp2_with fail
      go_ret2
      first | exact ⟨by simp, HF.out⟩ | exact ⟨by simp, by simp, HF.out⟩ | exact ⟨rfl, HF.out⟩
#print axioms symbol_any
#print axioms number_any
end Go.Proofs.YthgnhcdodfildaaDoor
/- The spans of lengths and distances; a literal. -/
namespace Go.Proofs.YthgnhcdodfildaaDoor
open Go.RowKit
attribute [local go_sem ↓] Go.wp_at_zero Go.wp_at_succ

/-- The first length of the symbol 257 + k, and how many bits stand behind it. -/
def lenF (k : Nat) : Nat := if k = 28 then 258 else if k < 8 then 3 + k else 3 + (4 + k % 4) * 2 ^ (k / 4 - 1)
def lenB (k : Nat) : Nat := if k = 28 then 0 else if k < 8 then 0 else k / 4 - 1
/-- The first distance of the symbol k, and how many bits stand behind it. -/
def disF (k : Nat) : Nat := if k < 4 then 1 + k else 1 + (2 + k % 2) * 2 ^ (k / 2 - 1)
def disB (k : Nat) : Nat := if k < 4 then 0 else k / 2 - 1

set_option maxRecDepth 100000 in
set_option maxHeartbeats 3200000 in
theorem lengthSpan_any (k : Nat) (w : World) (hk : k ≤ 28) :
    Calls Tryd.prog 92 #[.int .i64 (k : Int)] w fun e w' => e = .returned (.agg #[.int .i64 ((lenF k : Nat) : Int), .int .i64 ((lenB k : Nat) : Int)]) ∧ Fr noB w w' := by
  have hk' : k = 0 ∨ k = 1 ∨ k = 2 ∨ k = 3 ∨ k = 4 ∨ k = 5 ∨ k = 6 ∨ k = 7 ∨ k = 8 ∨ k = 9 ∨ k = 10 ∨ k = 11 ∨ k = 12 ∨ k = 13 ∨ k = 14 ∨ k = 15 ∨ k = 16 ∨ k = 17 ∨ k = 18 ∨ k = 19 ∨ k = 20 ∨ k = 21 ∨ k = 22 ∨ k = 23 ∨ k = 24 ∨ k = 25 ∨ k = 26 ∨ k = 27 ∨ k = 28 := by omega
  clear hk
  rcases hk' with rfl | rfl | rfl | rfl | rfl | rfl | rfl | rfl | rfl | rfl | rfl | rfl | rfl | rfl | rfl | rfl | rfl | rfl | rfl | rfl | rfl | rfl | rfl | rfl | rfl | rfl | rfl | rfl | rfl
  all_goals
    go_enter Tryd.func92, Tryd.ntmps92
    go_wp2_with fail
    refine bodyPost_ret ?_ rfl ⟨rfl, (Fr.refl noB w).alloc _⟩
    simp [results, Tryd.results92, go_sem, lenF, lenB]

set_option maxRecDepth 100000 in
set_option maxHeartbeats 3200000 in
theorem distanceSpan_any (k : Nat) (w : World) (hk : k ≤ 29) :
    Calls Tryd.prog 93 #[.int .i64 (k : Int)] w fun e w' => e = .returned (.agg #[.int .i64 ((disF k : Nat) : Int), .int .i64 ((disB k : Nat) : Int)]) ∧ Fr noB w w' := by
  have hk' : k = 0 ∨ k = 1 ∨ k = 2 ∨ k = 3 ∨ k = 4 ∨ k = 5 ∨ k = 6 ∨ k = 7 ∨ k = 8 ∨ k = 9 ∨ k = 10 ∨ k = 11 ∨ k = 12 ∨ k = 13 ∨ k = 14 ∨ k = 15 ∨ k = 16 ∨ k = 17 ∨ k = 18 ∨ k = 19 ∨ k = 20 ∨ k = 21 ∨ k = 22 ∨ k = 23 ∨ k = 24 ∨ k = 25 ∨ k = 26 ∨ k = 27 ∨ k = 28 ∨ k = 29 := by omega
  clear hk
  rcases hk' with rfl | rfl | rfl | rfl | rfl | rfl | rfl | rfl | rfl | rfl | rfl | rfl | rfl | rfl | rfl | rfl | rfl | rfl | rfl | rfl | rfl | rfl | rfl | rfl | rfl | rfl | rfl | rfl | rfl | rfl
  all_goals
    go_enter Tryd.func93, Tryd.ntmps93
    go_wp2_with fail
    refine bodyPost_ret ?_ rfl ⟨rfl, (Fr.refl noB w).alloc _⟩
    simp [results, Tryd.results93, go_sem, disF, disB]

theorem lenF_le (k : Nat) (hk : k ≤ 28) : 3 ≤ lenF k ∧ lenF k + 2 ^ lenB k ≤ 259 := by
  have hk' : k = 0 ∨ k = 1 ∨ k = 2 ∨ k = 3 ∨ k = 4 ∨ k = 5 ∨ k = 6 ∨ k = 7 ∨ k = 8 ∨ k = 9 ∨ k = 10 ∨ k = 11 ∨ k = 12 ∨ k = 13 ∨ k = 14 ∨ k = 15 ∨ k = 16 ∨ k = 17 ∨ k = 18 ∨ k = 19 ∨ k = 20 ∨ k = 21 ∨ k = 22 ∨ k = 23 ∨ k = 24 ∨ k = 25 ∨ k = 26 ∨ k = 27 ∨ k = 28 := by omega
  rcases hk' with rfl | rfl | rfl | rfl | rfl | rfl | rfl | rfl | rfl | rfl | rfl | rfl | rfl | rfl | rfl | rfl | rfl | rfl | rfl | rfl | rfl | rfl | rfl | rfl | rfl | rfl | rfl | rfl | rfl <;> decide
theorem disF_le (k : Nat) (hk : k ≤ 29) : 1 ≤ disF k ∧ disF k + 2 ^ disB k ≤ 32769 ∧ disB k ≤ 13 := by
  have hk' : k = 0 ∨ k = 1 ∨ k = 2 ∨ k = 3 ∨ k = 4 ∨ k = 5 ∨ k = 6 ∨ k = 7 ∨ k = 8 ∨ k = 9 ∨ k = 10 ∨ k = 11 ∨ k = 12 ∨ k = 13 ∨ k = 14 ∨ k = 15 ∨ k = 16 ∨ k = 17 ∨ k = 18 ∨ k = 19 ∨ k = 20 ∨ k = 21 ∨ k = 22 ∨ k = 23 ∨ k = 24 ∨ k = 25 ∨ k = 26 ∨ k = 27 ∨ k = 28 ∨ k = 29 := by omega
  rcases hk' with rfl | rfl | rfl | rfl | rfl | rfl | rfl | rfl | rfl | rfl | rfl | rfl | rfl | rfl | rfl | rfl | rfl | rfl | rfl | rfl | rfl | rfl | rfl | rfl | rfl | rfl | rfl | rfl | rfl | rfl <;> decide
#print axioms lengthSpan_any
#print axioms distanceSpan_any
end Go.Proofs.YthgnhcdodfildaaDoor
/- A literal, a repetition of what was said. -/
namespace Go.Proofs.YthgnhcdodfildaaDoor
open Go.RowKit
attribute [local go_sem ↓] Go.wp_at_zero Go.wp_at_succ

set_option maxRecDepth 100000 in
set_option maxHeartbeats 1600000 in
theorem literal_long (fb rb g p c : Nat) (B sd : List Nat) (most : Int) (sv : Value) (lt ds : Option Addr) (w : World) (h : InfIs w fb rb g B p most sv sd lt ds) (hm : 0 ≤ most) (hm2 : most ≤ 9223372036854775807) (hsd : sd.length ≤ 35184372088832) (hle : most ≤ (sd.length : Int)) :
    Calls Tryd.prog 77 #[.pointer (some ⟨fb, 0, none⟩), .int .u8 (c : Int)] w fun e w' => e = .returned (.int .i64 3) ∧ InfIs w' fb rb g B p most sv sd lt ds ∧ Fr noB w w' := by
  have HR := room_any' fb rb g p B sd most sv lt ds w h (by omega) hm hm2
  clear h
  go_enter Tryd.func77, Tryd.ntmps77
  go_wp2_with fail
  refine HR.mono ?_
  rintro e w1 ⟨rfl, hI, hF⟩
  have HI : Hid (InfIs w1 fb rb g B p most sv sd lt ds) := hI
  have hlt : most - (sd.length : Int) < 1 := by omega
  clear hI HR
  go_wp2_with fail
  go_ret
  exact ⟨rfl, HI.out, hF⟩

/-- What was said grows by T, in place or elsewhere, and the inflater holds it. -/
theorem InfIs.say {w w4 : World} {fb rb g p : Nat} {B sd : List Nat} (T : List Nat) {most : Int} {sv v4 : Value} {lt ds : Option Addr} (h : InfIs w fb rb g B p most sv sd lt ds)
    (ho : w4.ownsRow (fb + 1) 5 1 v4 (sd ++ T).length (byteVals (sd ++ T))) (hF : Fr (fun b => sv.ownBlock = some b) w w4) :
    InfIs (w4.setCell ⟨fb, 2, none⟩ v4) fb rb g B p most v4 (sd ++ T) lt ds ∧ Fr (iS w fb rb) w (w4.setCell ⟨fb, 2, none⟩ v4) := by
  obtain ⟨so, sc, rfl, -, -, -, -, hob⟩ := own_slice h.own
  have hne4 : ¬ (Value.slice so sd.length sc).ownBlock = some fb := fun e => by have := (hob fb e).1; omega
  refine ⟨⟨?_, ?_, ?_, ?_, h.rlt, h.glt, h.ne⟩, ?_⟩
  · have h0 := hF.obj h.at_ hne4
    have h1 := setOf 2 v4 h0
    exact h1
  · obtain ⟨o1, o2⟩ := ho
    refine ⟨o1, ?_⟩
    rcases o2 with o2 | ⟨g', cap', cur', k1, k2, k3, k4⟩
    · exact Or.inl o2
    · exact Or.inr ⟨g', cap', cur', k1, k2, (Below.heap_setCell _ _ _ _ (by show g' ≠ fb; omega)).trans k3, k4⟩
  · have h0 := hF.obj h.rd (fun e => by have := (hob rb e).1; have := h.rlt; omega)
    exact (Below.heap_setCell _ _ _ _ (by show rb ≠ fb; have := h.rlt; omega)).trans h0
  · have h0 := hF.obj h.row (fun e => by have := (hob g e).1; have := h.glt; omega)
    exact (Below.heap_setCell _ _ _ _ (by show g ≠ fb; have := h.glt; omega)).trans h0
  · refine (hF.mono (fun k _ hk => ?_)).setCell _ (Or.inl (Or.inr (Or.inl rfl))) _
    obtain ⟨hk1, cur, hk2⟩ := hob k hk
    exact Or.inr (Or.inr ⟨by omega, cur, (0, 0), hk2⟩)

set_option maxRecDepth 100000 in
set_option maxHeartbeats 1600000 in
theorem literal_good (fb rb g p c : Nat) (B sd : List Nat) (most : Int) (sv : Value) (lt ds : Option Addr) (w : World) (h : InfIs w fb rb g B p most sv sd lt ds) (hm2 : most ≤ 9223372036854775807) (hsd : sd.length < 35184372088832) (hle : (sd.length : Int) < most) :
    Calls Tryd.prog 77 #[.pointer (some ⟨fb, 0, none⟩), .int .u8 (c : Int)] w fun e w' => e = .returned (.int .i64 0) ∧ ∃ sv', InfIs w' fb rb g B p most sv' (sd ++ [c]) lt ds ∧ Fr (iS w fb rb) w w' := by
  have HR := room_any' fb rb g p B sd most sv lt ds w h (by omega) (by omega) hm2
  obtain ⟨i0, hi, hz0, hz1, hz2⟩ := info_parts Tryd.info5'
  obtain ⟨q, hq⟩ : ∃ q, sd.length = q := ⟨_, rfl⟩
  have HQ : Hid (sd.length = q) := hq
  rw [hq] at HR hle hsd
  clear h hq
  go_enter Tryd.func77, Tryd.ntmps77
  go_wp2_with fail
  refine HR.mono ?_
  rintro e w1 ⟨rfl, hI, hF⟩
  have HI : Hid (InfIs w1 fb rb g B p most sv sd lt ds) := hI
  obtain ⟨so, sc, hsv, -, -, -, -, hob⟩ := own_slice hI.own
  have c2 := cellOf (o := 2) hI.at_ rfl
  have hfree := freeOf (o := 2) hI.at_
  have hfb : fb < w1.heap.size := lt_of_block hI.at_
  rw [HQ.out] at hsv
  subst hsv
  have hlt : ¬ (most - (q : Int) < 1) := by omega
  have hO : Hid ((w1.alloc (.cells #[.int .u8 (c : Int)] 5 (0, 0))).ownsRow (fb + 1) 5 1 (.slice so q sc) q (byteVals sd)) := by
    have := hI.own
    rw [HQ.out] at this
    exact World.ownsRow.alloc this _
  have hsrc : Hid (Src (w1.alloc (.cells #[.int .u8 (c : Int)] 5 (0, 0))) (some ⟨w1.heap.size, 0, none⟩) [.int .u8 (c : Int)]) :=
    ⟨fun _ => ⟨_, rfl, fun j v hj => by
      match j, hj with
      | 0, hj => simp at hj; subst hj; simp [Addr.add]⟩⟩
  have hone : ∀ u ∈ [Value.int .u8 (c : Int)], u.oneCell' = true := by intro u hu; simp at hu; subst hu; rfl
  have HOb : Hid _ := hob
  clear hI HR hob
  go_wp2_with (at_builtin; refine wpList_append_src rfl (.tmp 12) (.tmp 14) 22 rfl (fb + 1) 5 i0 (.int .u8 0) 1 Tryd.underlying22 hi hz0 hz1 hz2 rfl _ q (byteVals sd) rfl hO.out _ 1 1 rfl (by simp) (by omega) [.int .u8 (c : Int)] rfl hsrc.out hone (by unfold maxLen; omega) (by omega) (by simp; omega) ?_)
  intro v4 w4 hown4 hg4
  have hFg : Fr (fun b => (Value.slice so q sc).ownBlock = some b) w1 w4 := ((Fr.refl _ w1).alloc _).grown hg4 (fun b hb => Or.inl hb)
  have hne4 : ¬ (Value.slice so q sc).ownBlock = some fb := fun e => by have := (HOb.out fb e).1; omega
  have hown4' : w4.ownsRow (fb + 1) 5 1 v4 (sd ++ [c]).length (byteVals (sd ++ [c])) := by
    rw [List.length_append, HQ.out]
    have e : byteVals (sd ++ [c]) = byteVals sd ++ [.int .u8 (c : Int)] := by simp [byteVals]
    rw [e]
    exact hown4
  obtain ⟨so4, sc4, hv4, -⟩ := own_slice hown4'
  rw [List.length_append, HQ.out] at hv4
  have hat4 := hFg.obj HI.out.at_ hne4
  have c4 := cellOf (o := 2) hat4 rfl
  have f4 := freeOf (o := 2) hat4
  have HS := HI.out.say [c] hown4' hFg
  subst hv4
  have HSS : Hid _ := HS
  have HF : Hid (Fr noB w w1) := hF
  clear hown4 hown4' HS hFg hat4 hg4 hO hsrc hF c2
  go_wp2_with fail
  go_ret
  refine ⟨rfl, _, HSS.out.1, itrans (fb := fb) (rb := rb) HF.out.weak HSS.out.2⟩
#print axioms literal_long
#print axioms literal_good
end Go.Proofs.YthgnhcdodfildaaDoor
