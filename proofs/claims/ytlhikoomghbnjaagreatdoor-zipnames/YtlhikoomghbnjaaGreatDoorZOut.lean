/- The output that a file is written into: the contracts of its methods. -/
import Derived.Test.YtlhikoomghbnjaaGreatDoorZBas
import Derived.Lib.AppendStr
import Derived.Laws.ResultCell
namespace Go.Proofs.YtlhikoomghbnjaaGreatDoor
open Go.RowKit

/-- What an output at ob, whose bytes lie at base or above, may change. -/
def outS (w : World) (ob base : Nat) : Nat → Prop := fun k => k = ob ∨ (base ≤ k ∧ ∃ cs fr, w.heap[k]? = some (.cells cs 5 fr))
theorem otrans {a b c : World} {ob base : Nat} (h : Fr (outS a ob base) a b) (k : Fr (outS b ob base) b c) : Fr (outS a ob base) a c := by
  refine ⟨k.os.trans h.os, k.tape.trans h.tape, k.output.trans h.output, Nat.le_trans h.size k.size, fun i hi hn => ?_⟩
  have e := h.block i hi hn
  refine (k.block i (Nat.lt_of_lt_of_le hi h.size) (fun hs => hn ?_)).trans e
  rcases hs with hs | ⟨hs, cs, fr, hh⟩
  · exact Or.inl hs
  · rw [e] at hh
    exact Or.inr ⟨hs, cs, fr, hh⟩
theorem onew {a b c : World} {ob base : Nat} (h : Fr noB a b) (k : Fr (outS b ob base) b c) : Fr (outS a ob base) a c := otrans h.weak k
/-- The output at ob holds the bytes B. -/
structure OutIs (w : World) (ob base : Nat) (v : Value) (B : List Nat) : Prop where
  at_ : w.heap[ob]? = some (.cells #[v] 63 (0, 0))
  own : w.ownsRow base 5 1 v B.length (byteVals B)
  lt : ob < base
  le : base ≤ w.heap.size
theorem OutIs.keep {S : Nat → Prop} {w w' : World} {ob base : Nat} {v : Value} {B : List Nat} (h : OutIs w ob base v B) (hF : Fr S w w') (h1 : ¬ S ob) (h2 : ∀ k cur, base ≤ k → w.heap[k]? = some (.cells cur 5 (0, 0)) → ¬ S k) : OutIs w' ob base v B := by
  refine ⟨hF.obj h.at_ h1, ?_, h.lt, Nat.le_trans h.le hF.size⟩
  obtain ⟨o1, o2⟩ := h.own
  refine ⟨o1, ?_⟩
  rcases o2 with o2 | ⟨g', cap', cur', k1, k2, k3, k4⟩
  · exact Or.inl o2
  · exact Or.inr ⟨g', cap', cur', k1, k2, hF.obj k3 (h2 g' _ k2 k3), k4⟩
theorem OutIs.new {w w' : World} {ob base : Nat} {v : Value} {B : List Nat} (h : OutIs w ob base v B) (hF : Fr noB w w') : OutIs w' ob base v B := h.keep hF id (fun _ _ _ _ => id)
theorem byteVals_append (A B : List Nat) : byteVals (A ++ B) = byteVals A ++ byteVals B := by simp [byteVals]
theorem own_slice5 {base : Nat} {w : World} {v : Value} {B : List Nat} (h : w.ownsRow base 5 1 v B.length (byteVals B)) : ∃ so sc, v = .slice so B.length sc ∧ B.length ≤ sc ∧ (so = none → sc = 0) ∧ sc ≤ maxLen := by
  obtain ⟨_, h2⟩ := h
  rcases h2 with ⟨h2, h3⟩ | ⟨g, cap, cur, hv, _, _, h4, h5, _⟩
  · exact ⟨none, 0, by rw [h2, h3], by omega, fun _ => rfl, by unfold maxLen; omega⟩
  · exact ⟨_, cap, hv, h4, by simp, h5⟩
/-- Behind an append: the output with its new bytes. -/
theorem OutIs.grow {w w' : World} {ob base : Nat} {v v' : Value} {B C : List Nat} (h : OutIs w ob base v B) (hown : w'.ownsRow base 5 1 v' (B.length + C.length) (byteVals B ++ byteVals C)) (hg : w.grownBy w' v.ownBlock) :
    OutIs (w'.setCell ⟨ob, 0, none⟩ v') ob base v' (B ++ C) ∧ Fr (outS w ob base) w (w'.setCell ⟨ob, 0, none⟩ v') ∧ w'.heap[ob]? = some (.cells #[v] 63 (0, 0)) := by
  have hF : Fr (outS w ob base) w w' := (Fr.refl _ w).grown hg (fun k hk => by
    obtain ⟨_, h2⟩ := h.own
    rcases h2 with ⟨h2, _⟩ | ⟨g, cap, cur, hv, hg, hh, _⟩
    · rw [h2] at hk; simp [Value.ownBlock] at hk
    · rw [hv] at hk
      simp [Value.ownBlock] at hk
      subst hk
      exact Or.inl (Or.inr ⟨hg, _, _, hh⟩))
  have hob : w'.heap[ob]? = some (.cells #[v] 63 (0, 0)) := by
    refine (hg.block ob (lt_of_block h.at_) (fun e => ?_)).trans h.at_
    obtain ⟨_, h2⟩ := h.own
    rcases h2 with ⟨h2, _⟩ | ⟨g, cap, cur, hv, hgb, hh, _⟩
    · rw [h2] at e; simp [Value.ownBlock] at e
    · rw [hv] at e
      simp [Value.ownBlock] at e
      have := h.lt
      omega
  refine ⟨⟨?_, ?_, h.lt, ?_⟩, hF.setCell _ (Or.inl (Or.inl rfl)) _, hob⟩
  · have := setOf 0 v' hob
    simpa using this
  · rw [List.length_append, byteVals_append]
    obtain ⟨o1, o2⟩ := hown
    refine ⟨o1, ?_⟩
    rcases o2 with o2 | ⟨g', cap', cur', k1, k2, k3, k4⟩
    · exact Or.inl o2
    · refine Or.inr ⟨g', cap', cur', k1, k2, ?_, k4⟩
      rw [Below.heap_setCell _ _ _ _ (by have := h.lt; show g' ≠ ob; omega)]
      exact k3
  · have := hF.size
    have := h.le
    simp [World.setCell]
    omega
theorem Tryz.info5 : (Tryz.prog.info? 5).map (fun i => (i.zero, i.size, i.bytes)) = some (some (.int .u8 0), 1, 1) := by kernel_rfl

/-- Shorts as bytes. -/
def shortsB : List Nat → List Nat
  | [] => []
  | n :: L => n % 256 :: n / 256 % 256 :: shortsB L
theorem shortsB_append (A C : List Nat) : shortsB (A ++ C) = shortsB A ++ shortsB C := by
  induction A with
  | nil => rfl
  | cons a A ih => simp [shortsB, ih]
theorem shortsB_length (A : List Nat) : (shortsB A).length = 2 * A.length := by
  induction A with
  | nil => rfl
  | cons a A ih => simp [shortsB, ih]; omega
theorem shortsB_take (L : List Nat) (k : Nat) (h : k < L.length) : shortsB (L.take (k + 1)) = shortsB (L.take k) ++ [L[k] % 256, L[k] / 256 % 256] := by
  rw [List.take_add_one, List.getElem?_eq_getElem h, shortsB_append]
  rfl
/-- A block of shorts. -/
def RowU (w : World) (g : Nat) (L : List Nat) : Prop := w.heap[g]? = some (.cells (L.map fun n : Nat => Value.int .u16 (n : Int)).toArray 65 (0, 0))
theorem RowU.cell {w : World} {g : Nat} {L : List Nat} (h : RowU w g L) (i : Nat) (hi : i < L.length) : w.cell? ⟨g, i, none⟩ = some (.int .u16 ((L[i] : Nat) : Int)) := cellOf h (by simp [hi])

theorem two_new (w : World) (a b : Nat) : Src (w.alloc (.cells #[.int .u8 (a : Int), .int .u8 (b : Int)] 5 (0, 0))) (some ⟨w.heap.size, 0, none⟩) (byteVals [a, b]) :=
  Src.of (Or.inr ⟨w.heap.size, 0, rfl, fun i hi => by
    rw [Nat.zero_add]
    refine cellOf (heap_alloc_new w _) ?_
    match i, hi with
    | 0, _ => rfl
    | 1, _ => rfl⟩)

set_option maxRecDepth 100000 in
set_option maxHeartbeats 1600000 in
theorem shorts_any (ob base g : Nat) (v : Value) (B L : List Nat) (w : World) (ho : OutIs w ob base v B) (hr : RowU w g L) (hL : ∀ x ∈ L, x < 65536) (hg : g ≠ ob) (hlen : B.length + 2 * L.length ≤ 140737488355328) :
    Calls Tryz.prog 47 #[.pointer (some ⟨ob, 0, none⟩), .slice (some ⟨g, 0, none⟩) L.length L.length] w fun e w' => e = .returned (.tuple #[]) ∧ ∃ v', OutIs w' ob base v' (B ++ shortsB L) ∧ Fr (outS w ob base) w w' := by
  obtain ⟨i0, hi, hz0, hz1, hz2⟩ := info_parts Tryz.info5
  have hll : L.length ≤ 70368744177664 := by omega
  have HO : Hid (OutIs w ob base v B) := ho
  have HR : Hid (RowU w g L) := hr
  have HL : Hid (∀ x ∈ L, x < 65536) := hL
  clear ho hr hL
  go_enter Tryz.func47, Tryz.ntmps47
  go_wp2_with fail
  go_loopw [8] (fun i wr => ∃ k : Nat, k ≤ L.length ∧ i = .int .i64 (k : Int) ∧ ∃ v', OutIs wr ob base v' (B ++ shortsB (L.take k)) ∧ Fr (outS w ob base) w wr) (fun i _ => L.length - (intOf i).toNat)
  case atStart => exact ⟨0, Nat.zero_le _, rfl, v, by simpa [shortsB] using HO.out, Fr.refl _ _⟩
  case round =>
    obtain ⟨k, hk, rfl, v', ho, hF⟩ := hrel
    by_cases hlt : k < L.length
    · have hrow : RowU wr g L := hF.obj HR.out (fun hs => by
        rcases hs with hs | ⟨_, cs, fr, hh⟩
        · exact hg hs
        · have h2 := HR.out
          unfold RowU at h2
          rw [h2] at hh
          cases hh)
      have ck := hrow.cell k hlt
      have hx : L[k] < 65536 := HL.out _ (List.getElem_mem hlt)
      have HT : Hid _ := shortsB_take L k hlt
      have HS : Hid ((B ++ shortsB (L.take k)).length + 2 ≤ 140737488355328) := by
        show (B ++ shortsB (L.take k)).length + 2 ≤ 140737488355328
        rw [List.length_append, shortsB_length, List.length_take]
        omega
      generalize L[k] = x at *
      generalize hC : B ++ shortsB (L.take k) = C at *
      have HC : Hid (B ++ shortsB (L.take k) = C) := hC
      obtain ⟨so, sc, rfl, hs1, hs2, hs3⟩ := own_slice5 ho.own
      have c0 : wr.cell? ⟨ob, 0, none⟩ = some (.slice so C.length sc) := cellOf ho.at_ rfl
      have z0 : wr.frozen? ⟨ob, 0, none⟩ = false := freeOf 0 ho.at_
      have hbl := ho.le
      have HO' : Hid (OutIs wr ob base (.slice so C.length sc) C) := ho
      have hob := lt_of_block ho.at_
      obtain ⟨lo, hlo⟩ : ∃ lo, x % 256 = lo := ⟨_, rfl⟩
      obtain ⟨up, hup⟩ : ∃ up, x / 256 % 256 = up := ⟨_, rfl⟩
      have elo : (x : Int) % 256 = (lo : Int) := by omega
      have eup : (x : Int) / 256 = (up : Int) := by omega
      have hlo2 : lo < 256 := by omega
      have hup2 : up < 256 := by omega
      rw [hlo, hup] at HT
      clear hC hrow ho hlo hup
      go_wp2_with (at_builtin; refine wpList_append_src rfl (.tmp 16) (.tmp 22) 22 rfl base 5 i0 (.int .u8 0) 1 Tryz.underlying22 hi hz0 hz1 hz2 rfl _ C.length (byteVals C) rfl (HO'.out.new ((Fr.refl noB wr).alloc _)).own (some ⟨wr.heap.size, 0, none⟩) 2 2 rfl (by simp) (Nat.le_refl _) (byteVals [lo, up]) (by simp) (two_new _ _ _) (byteVals_one _) (by have := HS.out; unfold maxLen; omega) (by have := HS.out; omega) (by simp; omega) ?_)
      intro v1 w1 hown1 hg1
      have HG := (HO'.out.new ((Fr.refl noB wr).alloc (.cells #[.int .u8 (lo : Int), .int .u8 (up : Int)] 5 (0, 0)))).grow (C := [lo, up]) hown1 hg1
      obtain ⟨HG1, HG2, hob1⟩ := HG
      have c1 : w1.cell? ⟨ob, 0, none⟩ = some (.slice so C.length sc) := cellOf hob1 rfl
      have z1 : w1.frozen? ⟨ob, 0, none⟩ = false := freeOf 0 hob1
      have HF2 : Fr (outS w ob base) w (w1.setCell ⟨ob, 0, none⟩ v1) := otrans hF (onew ((Fr.refl noB wr).alloc _) HG2)
      have HT2 : B ++ shortsB (L.take (k + 1)) = C ++ [lo, up] := by rw [HT.out, ← List.append_assoc, HC.out]
      have hl2 : ([lo, up] : List Nat).length = 2 := rfl
      rw [← HT2] at HG1
      obtain ⟨D, hD⟩ : ∃ D, B ++ shortsB (L.take (k + 1)) = D := ⟨_, rfl⟩
      have HD : Hid (B ++ shortsB (L.take (k + 1)) = D) := hD
      rw [hD] at HG1 HT2
      obtain ⟨so', sc', rfl, -⟩ := own_slice5 (B := D) (by rw [HT2, byteVals_append, List.length_append]; exact hown1)
      have HGG : Hid _ := HG1
      have HFF : Hid _ := HF2
      clear HG1 HG2 HF2 hown1 hg1 hob1 HT2 hD
      go_wp2_with fail
      go_round
      case rel => exact ⟨k + 1, by omega, by go_num, _, by rw [HD.out]; exact HGG.out, HFF.out⟩
      case measure => simp [intOf]; omega
    · have e : k = L.length := by omega
      subst e
      rw [List.take_length] at ho
      go_wp2_with fail
      go_end0
      exact ⟨rfl, v', ho, hF⟩

/-- Shorts that were laid just ahead of the call. -/
theorem shorts_new (ob base : Nat) (L : List Nat) (v : Value) (B : List Nat) (w : World) (ho : OutIs w ob base v B) (hL : ∀ x ∈ L, x < 65536) (hlen : B.length + 2 * L.length ≤ 140737488355328) :
    Calls Tryz.prog 47 #[.pointer (some ⟨ob, 0, none⟩), .slice (some ⟨w.heap.size, 0, none⟩) L.length L.length] (w.alloc (.cells (L.map fun n : Nat => Value.int .u16 (n : Int)).toArray 65 (0, 0))) fun e w' => e = .returned (.tuple #[]) ∧ ∃ v', OutIs w' ob base v' (B ++ shortsB L) ∧ Fr (outS w ob base) w w' := by
  have hob := lt_of_block ho.at_
  refine (shorts_any ob base w.heap.size v B L _ (ho.new ((Fr.refl noB w).alloc _)) (heap_alloc_new w _) hL (by omega) hlen).mono ?_
  rintro e w' ⟨rfl, v', h1, h2⟩
  exact ⟨rfl, v', h1, onew ((Fr.refl noB w).alloc _) h2⟩
/-- A long as bytes. -/
def longB (n : Nat) : List Nat := shortsB [n % 65536, n / 65536]
theorem longB_length (n : Nat) : (longB n).length = 4 := rfl

set_option maxRecDepth 100000 in
set_option maxHeartbeats 800000 in
theorem long_any (ob base n : Nat) (v : Value) (B : List Nat) (w : World) (ho : OutIs w ob base v B) (hn : n < 4294967296) (hlen : B.length + 4 ≤ 140737488355328) :
    Calls Tryz.prog 46 #[.pointer (some ⟨ob, 0, none⟩), .int .u32 (n : Int)] w fun e w' => e = .returned (.tuple #[]) ∧ ∃ v', OutIs w' ob base v' (B ++ longB n) ∧ Fr (outS w ob base) w w' := by
  obtain ⟨lo, hlo⟩ : ∃ lo, n % 65536 = lo := ⟨_, rfl⟩
  obtain ⟨up, hup⟩ : ∃ up, n / 65536 = up := ⟨_, rfl⟩
  have elo : IntKind.u16.wrap (n : Int) = (lo : Int) := by rw [IntKind.wrap_u16]; omega
  have eup : (n : Int) / 65536 = (up : Int) := by omega
  have hob := lt_of_block ho.at_
  have HC := shorts_any ob base w.heap.size v B [lo, up] (w.alloc (.cells #[.int .u16 (lo : Int), .int .u16 (up : Int)] 65 (0, 0))) (ho.new ((Fr.refl noB w).alloc _)) (heap_alloc_new w _) (by intro x hx; simp at hx; omega) (by omega) hlen
  have HN : Hid (longB n = shortsB [lo, up]) := by
    show longB n = _
    unfold longB
    rw [hlo, hup]
  have hup2 : up < 65536 := by omega
  clear hlo hup ho
  go_enter Tryz.func46, Tryz.ntmps46
  go_wp2_with fail
  refine HC.mono ?_
  rintro e w1 ⟨rfl, v', h1, h2⟩
  go_wp2_with fail
  go_end0
  exact ⟨rfl, v', by rw [HN.out]; exact h1, onew ((Fr.refl noB w).alloc _) h2⟩

set_option maxRecDepth 100000 in
set_option maxHeartbeats 800000 in
theorem raw_any (ob base : Nat) (v sv : Value) (B C : List Nat) (w : World) (ho : OutIs w ob base v B) (hs : Bs w sv C) (hlen : B.length + C.length ≤ 140737488355328) :
    Calls Tryz.prog 33 #[.pointer (some ⟨ob, 0, none⟩), sv] w fun e w' => e = .returned (.tuple #[]) ∧ ∃ v', OutIs w' ob base v' (B ++ C) ∧ Fr (outS w ob base) w w' := by
  obtain ⟨i0, hi, hz0, hz1, hz2⟩ := info_parts Tryz.info5
  obtain ⟨ao, cap, rfl, h1, h2, h4, h3⟩ := hs
  have hsrc : Src w ao (byteVals C) := Src.of (h3.imp id (fun ⟨b, off, e, _, h⟩ => ⟨b, off, e, h⟩))
  obtain ⟨so, sc, rfl, hs1, hs2, hs3⟩ := own_slice5 ho.own
  have c0 : w.cell? ⟨ob, 0, none⟩ = some (.slice so B.length sc) := cellOf ho.at_ rfl
  have HO : Hid (OutIs w ob base (.slice so B.length sc) B) := ho
  have hbl := ho.le
  have HL : Hid (B.length + C.length ≤ 140737488355328) := hlen
  clear ho h3
  go_enter Tryz.func33, Tryz.ntmps33
  go_wp2_with (at_builtin; refine wpList_append_src rfl (.tmp 8) (.tmp 9) 22 rfl base 5 i0 (.int .u8 0) 1 Tryz.underlying22 hi hz0 hz1 hz2 rfl _ B.length (byteVals B) rfl HO.out.own ao C.length cap rfl h4 h1 (byteVals C) (by simp) hsrc (byteVals_one _) (by have := HL.out; unfold maxLen; omega) (by have := HL.out; omega) hbl ?_)
  intro v1 w1 hown1 hg1
  obtain ⟨HG1, HG2, hob1⟩ := HO.out.grow (C := C) hown1 hg1
  have z1 : w1.frozen? ⟨ob, 0, none⟩ = false := freeOf 0 hob1
  have c1 : w1.cell? ⟨ob, 0, none⟩ = some (.slice so B.length sc) := cellOf hob1 rfl
  obtain ⟨D, hD⟩ : ∃ D, B ++ C = D := ⟨_, rfl⟩
  have HD : Hid (B ++ C = D) := hD
  rw [hD] at HG1
  obtain ⟨so', sc', rfl, -⟩ := own_slice5 (B := D) (by rw [← hD, byteVals_append, List.length_append]; exact hown1)
  have HGG : Hid _ := HG1
  have HFF : Hid _ := HG2
  clear HG1 HG2 hown1 hg1 hob1 hD
  go_wp2_with fail
  go_end0
  exact ⟨rfl, _, by rw [HD.out]; exact HGG.out, HFF.out⟩

/-- A text's bytes as numbers. -/
def txtB (s : ByteArray) : List Nat := s.data.toList.map UInt8.toNat
theorem txtB_length (s : ByteArray) : (txtB s).length = s.size := by simp [txtB]
theorem txtB_cells (s : ByteArray) : Lib.strCells s = byteVals (txtB s) := by
  unfold Lib.strCells byteVals txtB
  rw [List.map_map]
  rfl

set_option maxRecDepth 100000 in
set_option maxHeartbeats 800000 in
theorem text_any (ob base : Nat) (v : Value) (B : List Nat) (s : ByteArray) (w : World) (ho : OutIs w ob base v B) (hlen : B.length + s.size ≤ 140737488355328) :
    Calls Tryz.prog 49 #[.pointer (some ⟨ob, 0, none⟩), .string s] w fun e w' => e = .returned (.tuple #[]) ∧ ∃ v', OutIs w' ob base v' (B ++ txtB s) ∧ Fr (outS w ob base) w w' := by
  obtain ⟨i0, hi, hz0, hz1, hz2⟩ := info_parts Tryz.info5
  obtain ⟨so, sc, rfl, hs1, hs2, hs3⟩ := own_slice5 ho.own
  have c0 : w.cell? ⟨ob, 0, none⟩ = some (.slice so B.length sc) := cellOf ho.at_ rfl
  have HO : Hid (OutIs w ob base (.slice so B.length sc) B) := ho
  have hbl := ho.le
  have HL : Hid (B.length + s.size ≤ 140737488355328) := hlen
  clear ho
  go_enter Tryz.func49, Tryz.ntmps49
  go_wp2_with (at_builtin; refine Lib.wpList_append_own_string w rfl (.tmp 8) (.tmp 9) 22 9 rfl base 5 i0 Tryz.underlying22 Tryz.underlying9 hi hz0 hz1 hz2 _ B.length (byteVals B) rfl HO.out.own s rfl (by have := HL.out; unfold maxLen; omega) (by have := HL.out; omega) hbl ?_)
  intro v1 w1 hown1 hg1 _
  rw [txtB_cells, ← txtB_length] at hown1
  obtain ⟨HG1, HG2, hob1⟩ := HO.out.grow (C := txtB s) hown1 hg1
  have z1 : w1.frozen? ⟨ob, 0, none⟩ = false := freeOf 0 hob1
  have c1 : w1.cell? ⟨ob, 0, none⟩ = some (.slice so B.length sc) := cellOf hob1 rfl
  obtain ⟨D, hD⟩ : ∃ D, B ++ txtB s = D := ⟨_, rfl⟩
  have HD : Hid (B ++ txtB s = D) := hD
  rw [hD] at HG1
  obtain ⟨so', sc', rfl, -⟩ := own_slice5 (B := D) (by rw [← hD, byteVals_append, List.length_append]; exact hown1)
  have HGG : Hid _ := HG1
  have HFF : Hid _ := HG2
  clear HG1 HG2 hown1 hg1 hob1 hD
  go_wp2_with fail
  go_end0
  exact ⟨rfl, _, by rw [HD.out]; exact HGG.out, HFF.out⟩

theorem box_keep {w w' : World} {ob base hb : Nat} {cs : Array Value} {t : TypeId} (h : w.heap[hb]? = some (.cells cs t (0, 0))) (hF : Fr (outS w ob base) w w') (ht : t ≠ 5) (hne : hb ≠ ob) : w'.heap[hb]? = some (.cells cs t (0, 0)) :=
  hF.obj h (fun hs => by
    rcases hs with hs | ⟨_, cs', fr, hh⟩
    · exact hne hs
    · rw [h] at hh
      cases hh
      exact ht rfl)
/-- The three longs of an entry. -/
def lg3 (s l n : Nat) : Value := .agg #[.int .u32 (s : Int), .int .u32 (l : Int), .int .u32 (n : Int)]
/-- A head. -/
def hdV (fl me s l n : Nat) (nm : ByteArray) : Value := .agg #[.int .u16 (fl : Int), .int .u16 (me : Int), .int .u32 (s : Int), .int .u32 (l : Int), .int .u32 (n : Int), .string nm]

set_option maxRecDepth 100000 in
set_option maxHeartbeats 800000 in
theorem longs_any (ob base s l n : Nat) (v : Value) (B : List Nat) (w : World) (ho : OutIs w ob base v B) (hs : s < 4294967296) (hl : l < 4294967296) (hn : n < 4294967296) (hlen : B.length + 12 ≤ 140737488355328) :
    Calls Tryz.prog 72 #[.pointer (some ⟨ob, 0, none⟩), lg3 s l n] w fun e w' => e = .returned (.tuple #[]) ∧ ∃ v', OutIs w' ob base v' (B ++ (longB s ++ (longB l ++ longB n))) ∧ Fr (outS w ob base) w w' := by
  unfold lg3
  have hob := lt_of_block ho.at_
  have hb0 := heap_alloc_new w (.cells #[.int .u32 (s : Int), .int .u32 (l : Int), .int .u32 (n : Int)] 67 (0, 0))
  have hN := (Fr.refl noB w).alloc (.cells #[.int .u32 (s : Int), .int .u32 (l : Int), .int .u32 (n : Int)] 67 (0, 0))
  have ho0 := ho.new hN
  have HN : Hid _ := hN
  have HB0 : Hid _ := hb0
  have HO0 : Hid _ := ho0
  clear ho hN hb0 ho0
  go_enter Tryz.func72, Tryz.ntmps72
  go_wp2_with fail
  refine (long_any ob base s v B _ HO0.out hs (by omega)).mono ?_
  rintro e w1 ⟨rfl, v1, ho1, hF1⟩
  have hb1 := box_keep HB0.out hF1 (by decide) (by omega)
  have c1 := cellOf (o := 1) hb1 rfl
  have HB1 : Hid _ := hb1
  have HO1 : Hid _ := ho1
  clear hb1 ho1
  go_wp2_with fail
  refine (long_any ob base l v1 _ _ HO1.out hl (by rw [List.length_append, longB_length]; omega)).mono ?_
  rintro e w2 ⟨rfl, v2, ho2, hF2⟩
  have hb2 := box_keep HB1.out hF2 (by decide) (by omega)
  have c2 := cellOf (o := 2) hb2 rfl
  have HO2 : Hid _ := ho2
  clear hb2 ho2
  go_wp2_with fail
  refine (long_any ob base n v2 _ _ HO2.out hn (by simp only [List.length_append, longB_length]; omega)).mono ?_
  rintro e w3 ⟨rfl, v3, ho3, hF3⟩
  go_wp2_with fail
  go_end0
  exact ⟨rfl, v3, by simpa only [List.append_assoc] using ho3, onew HN.out (otrans (otrans hF1 hF2) hF3)⟩

/-- What a local header and the directory have alike: flags, method, time, date, the longs. -/
def headB (fl me s l n : Nat) : List Nat := shortsB [fl, me, 0, 33] ++ (longB s ++ (longB l ++ longB n))
theorem headB_length (fl me s l n : Nat) : (headB fl me s l n).length = 20 := rfl

set_option maxRecDepth 100000 in
set_option maxHeartbeats 1600000 in
theorem ohead_any (ob base fl me s l n : Nat) (nm : ByteArray) (v : Value) (B : List Nat) (w : World) (ho : OutIs w ob base v B) (hf : fl < 65536) (hm : me < 65536) (hs : s < 4294967296) (hl : l < 4294967296) (hn : n < 4294967296) (hlen : B.length + 20 ≤ 140737488355328) :
    Calls Tryz.prog 48 #[.pointer (some ⟨ob, 0, none⟩), hdV fl me s l n nm] w fun e w' => e = .returned (.tuple #[]) ∧ ∃ v', OutIs w' ob base v' (B ++ headB fl me s l n) ∧ Fr (outS w ob base) w w' := by
  unfold hdV
  have hob := lt_of_block ho.at_
  have hb0 := heap_alloc_new w (.cells #[.int .u16 (fl : Int), .int .u16 (me : Int), .int .u32 (s : Int), .int .u32 (l : Int), .int .u32 (n : Int), .string nm] 69 (0, 0))
  have hN := (Fr.refl noB w).alloc (.cells #[.int .u16 (fl : Int), .int .u16 (me : Int), .int .u32 (s : Int), .int .u32 (l : Int), .int .u32 (n : Int), .string nm] 69 (0, 0))
  have HC1 := shorts_new ob base [fl, me, 0, 33] v B _ (ho.new hN) (by intro x hx; simp at hx; omega) (by show _ + 8 ≤ _; omega)
  rw [show (w.alloc (.cells #[.int .u16 (fl : Int), .int .u16 (me : Int), .int .u32 (s : Int), .int .u32 (l : Int), .int .u32 (n : Int), .string nm] 69 (0, 0))).heap.size = w.heap.size + 1 by simp] at HC1
  have HN : Hid _ := hN
  have HB0 : Hid _ := hb0
  clear ho hN hb0
  go_enter Tryz.func48, Tryz.ntmps48
  go_wp2_with fail
  refine HC1.mono ?_
  rintro e w1 ⟨rfl, v1, ho1, hF1⟩
  have hb1 := box_keep HB0.out hF1 (by decide) (by omega)
  have c2 := cellOf (o := 2) hb1 rfl
  have c3 := cellOf (o := 3) hb1 rfl
  have c4 := cellOf (o := 4) hb1 rfl
  have HC2 := longs_any ob base s l n v1 _ w1 ho1 hs hl hn (by rw [List.length_append, shortsB_length]; show _ + 8 + 12 ≤ _; omega)
  unfold lg3 at HC2
  clear hb1 ho1
  go_wp2_with fail
  refine HC2.mono ?_
  rintro e w2 ⟨rfl, v2, ho2, hF2⟩
  go_wp2_with fail
  go_end0
  exact ⟨rfl, v2, by simpa only [List.append_assoc, headB] using ho2, onew HN.out (otrans hF1 hF2)⟩
#print axioms raw_any
end Go.Proofs.YtlhikoomghbnjaaGreatDoor
