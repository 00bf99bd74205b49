/- ShiftCells: the law's walk. -/
import Derived.Test.YthokhnbecgkpbaaDoorHLiv
import Derived.Test.YthokhnbecgkpbaaDoorHRce
namespace Go.Proofs.YthokhnbecgkpbaaDoor
open Go.RowKit

/-- A case lies in a block. -/
structure KAt (w : World) (B : Nat) (ao : Option Addr) (l cap : Nat) (K : Int) (sh : ByteArray) (At N : Int) (nm own : ByteArray) : Prop where
  o : w.heap[B]? = some (.cells #[.slice ao l cap, .int .i64 K, .string sh, .int .i64 At, .int .i64 N, .string nm, .string own] 26 (0, 0))
theorem KAt.fr {w w' : World} {B : Nat} {ao : Option Addr} {l cap : Nat} {K : Int} {sh : ByteArray} {At N : Int} {nm own : ByteArray} (h : KAt w B ao l cap K sh At N nm own) (hF : Fr noB w w') : KAt w' B ao l cap K sh At N nm own := ⟨hF.obj h.o id⟩
section
variable {w : World} {B : Nat} {ao : Option Addr} {l cap : Nat} {K : Int} {sh : ByteArray} {At N : Int} {nm own : ByteArray} (h : KAt w B ao l cap K sh At N nm own)
include h
theorem KAt.c0 : w.cell? ⟨B, 0, none⟩ = some (.slice ao l cap) := cellOf (o := 0) h.o rfl
theorem KAt.c1 : w.cell? ⟨B, 1, none⟩ = some (.int .i64 K) := cellOf (o := 1) h.o rfl
theorem KAt.c2 : w.cell? ⟨B, 2, none⟩ = some (.string sh) := cellOf (o := 2) h.o rfl
theorem KAt.c3 : w.cell? ⟨B, 3, none⟩ = some (.int .i64 At) := cellOf (o := 3) h.o rfl
theorem KAt.c4 : w.cell? ⟨B, 4, none⟩ = some (.int .i64 N) := cellOf (o := 4) h.o rfl
theorem KAt.c5 : w.cell? ⟨B, 5, none⟩ = some (.string nm) := cellOf (o := 5) h.o rfl
theorem KAt.c6 : w.cell? ⟨B, 6, none⟩ = some (.string own) := cellOf (o := 6) h.o rfl
end
theorem cel_ex (L : List ByteArray) (K : Int) (sh : ByteArray) (At N : Int) (nm : ByteArray) (s r c : Int) : ∃ (x y z : Int) (b : Bool), celV L K sh At N nm s r c = .tuple #[.agg #[.int .i64 x, .int .i64 y, .int .i64 z], .bool b] := by
  unfold celV
  split
  · exact ⟨_, _, _, _, rfl⟩
  · exact ⟨_, _, _, _, rfl⟩
set_option maxRecDepth 100000 in
set_option maxHeartbeats 2000000 in
theorem cells_walk (ao : Option Addr) (cap : Nat) (L : List ByteArray) (K : Int) (sh : ByteArray) (At N : Int) (nm own : ByteArray) (s r c : Int) (w : World) (h : SsAt w ao L) (hl : L.length ≤ 140737488355328) (hN : N ≤ 9223372036854775807) (hsh : sh.size ≤ 140737488355328) (hnm : nm.size ≤ 140737488355328) (hL : ∀ x ∈ L, x.size ≤ 140737488355328) (hT : Tabs w) :
    Calls Tryd.prog 4 #[.agg #[.slice ao L.length cap, .int .i64 K, .string sh, .int .i64 At, .int .i64 N, .string nm, .string own], .agg #[.int .i64 s, .int .i64 r, .int .i64 c]] w fun e w' => e = .returned (.bool true) ∧ Below w.heap.size w w' := by
  obtain ⟨W0, hW0⟩ : ∃ W0, (w.alloc (.cells #[.slice ao L.length cap, .int .i64 K, .string sh, .int .i64 At, .int .i64 N, .string nm, .string own] 26 (0, 0))).alloc (.cells #[.int .i64 s, .int .i64 r, .int .i64 c] 38 (0, 0)) = W0 := ⟨_, rfl⟩
  have hK : KAt W0 w.heap.size ao L.length cap K sh At N nm own := by rw [← hW0]; exact ⟨old1 (heap_alloc_new w _)⟩
  have hA : AAt W0 (w.heap.size + 1) s r c := by rw [← hW0]; exact ⟨new1 _ _ _ (by simp)⟩
  have hF0 : Fr noB w W0 := by rw [← hW0]; exact ((Fr.refl noB w).alloc _).alloc _
  obtain ⟨x, y, z, b, hv⟩ := cel_ex L K sh At N nm s r c
  have HP : Hid (∀ W, Fr noB w W → Calls Tryd.prog 17 #[.slice ao L.length cap, .agg #[.int .i64 K, .string sh, .int .i64 At, .int .i64 N, .string nm], .agg #[.int .i64 s, .int .i64 r, .int .i64 c]] W fun e w' => e = .returned (.tuple #[.agg #[.int .i64 x, .int .i64 y, .int .i64 z], .bool b]) ∧ Fr noB W w') := fun W hF => by have := pcell_any ao cap L K sh At N nm s r c W (h.keep hF) hl hN; rw [hv] at this; exact this
  have HR : Hid (∀ W, Fr noB w W → Calls Tryd.prog 18 #[.slice ao L.length cap, .agg #[.int .i64 K, .string sh, .int .i64 At, .int .i64 N, .string nm], .agg #[.int .i64 s, .int .i64 r, .int .i64 c]] W fun e w' => e = .returned (.tuple #[.agg #[.int .i64 x, .int .i64 y, .int .i64 z], .bool b]) ∧ Fr noB W w') := fun W hF => by have := rcell_any ao cap L K sh At N nm s r c W (h.keep hF) hl hsh hnm hL (hT.keep hF); rw [hv] at this; exact this
  have HL : Hid (∀ W, Calls Tryd.prog 11 #[] W fun e w' => e = .returned (.bool true) ∧ Fr noB W w') := fun W => live_true W
  have HH : Hid _ := And.intro hK (And.intro hA hF0)
  have k0 := hK.c0; have k1 := hK.c1; have k2 := hK.c2; have k3 := hK.c3; have k4 := hK.c4; have k5 := hK.c5
  have a0 := hA.c0; have a1 := hA.c1; have a2 := hA.c2
  clear hK hA hF0 h hl hN hsh hnm hL hT hv
  generalize L.length = l at *
  go_enter Tryd.func4, Tryd.ntmps4
  go_wp2_with (first
    | (go_at_call 17; (with_reducible refine (HP.out _ HH.out.2.2).mono ?_); rintro e w1 ⟨rfl, hF1⟩; have hF2 : Fr noB W0 (w1.alloc (.cells #[.int .i64 x, .int .i64 y, .int .i64 z] 38 (0, 0))) := hF1.alloc _; have hK2 := HH.out.1.fr hF2; have m0 := hK2.c0; have m1 := hK2.c1; have m2 := hK2.c2; have m3 := hK2.c3; have m4 := hK2.c4; have m5 := hK2.c5; have hA2 := HH.out.2.1.fr hF2; have m6 := hA2.c0; have m7 := hA2.c1; have m8 := hA2.c2; have hP2 : AAt (w1.alloc (.cells #[.int .i64 x, .int .i64 y, .int .i64 z] 38 (0, 0))) w1.heap.size x y z := ⟨heap_alloc_new w1 _⟩; have HF2 : Hid _ := And.intro hP2 hF2; clear hF1 hF2 hK2 hA2 hP2)
    | (go_at_call 18; (with_reducible refine (HR.out _ (HH.out.2.2.trans HF2.out.2)).mono ?_); rintro e w2 ⟨rfl, hF3⟩; have hP4 : AAt (w2.alloc (.cells #[.int .i64 x, .int .i64 y, .int .i64 z] 38 (0, 0))) w1.heap.size x y z := (HF2.out.1.fr hF3).fr (fr_alloc w2 _); have hQ4 : AAt (w2.alloc (.cells #[.int .i64 x, .int .i64 y, .int .i64 z] 38 (0, 0))) w2.heap.size x y z := ⟨heap_alloc_new w2 _⟩; have HF4 : Hid _ := And.intro hP4 (And.intro hQ4 ((HF2.out.2.trans hF3).alloc (.cells #[.int .i64 x, .int .i64 y, .int .i64 z] 38 (0, 0)))); clear hF3 hP4 hQ4)
    | (go_at_call 11; refine (HL.out _).mono ?_; rintro e w3 ⟨rfl, hF5⟩; have hP5 := HF4.out.1.fr hF5; have hQ5 := HF4.out.2.1.fr hF5; have p0 := hP5.c0; have p1 := hP5.c1; have p2 := hP5.c2; have q0 := hQ5.c0; have q1 := hQ5.c1; have q2 := hQ5.c2; have HF6 : Hid _ := HF4.out.2.2.trans hF5; clear hF5 hP5 hQ5))
  go_ret
  exact ⟨ret_bool (by simp), (HH.out.2.2.trans HF6.out).below (Nat.le_refl _) (fun _ h => h.elim)⟩
#print axioms cells_walk
end Go.Proofs.YthokhnbecgkpbaaDoor
