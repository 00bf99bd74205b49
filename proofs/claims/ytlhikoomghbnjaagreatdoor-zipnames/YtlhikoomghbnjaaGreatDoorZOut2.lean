/- The output's local header, record of the directory and end. -/
import Derived.Test.YtlhikoomghbnjaaGreatDoorZOut
namespace Go.Proofs.YtlhikoomghbnjaaGreatDoor
open Go.RowKit

/-- A local header. -/
def localB (fl me s l n : Nat) (nm : ByteArray) : List Nat := longB 67324752 ++ (shortsB [20] ++ (headB fl me s l n ++ (shortsB [nm.size, 0] ++ txtB nm)))
/-- A record of the directory. -/
def recordB (fl me s l n : Nat) (nm : ByteArray) (disk place : Nat) : List Nat := longB 33639248 ++ (shortsB [20, 20] ++ (headB fl me s l n ++ (shortsB [nm.size, 0, 0, disk, 0] ++ (longB 0 ++ (longB place ++ txtB nm)))))
/-- The end. -/
def endB (k len place : Nat) : List Nat := longB 101010256 ++ (shortsB [0, 0, k, k] ++ (longB len ++ (longB place ++ shortsB [0])))
theorem localB_length (fl me s l n : Nat) (nm : ByteArray) : (localB fl me s l n nm).length = 30 + nm.size := by
  simp only [localB, List.length_append, longB_length, shortsB_length, headB_length, txtB_length, List.length_cons, List.length_nil]
  omega
theorem recordB_length (fl me s l n : Nat) (nm : ByteArray) (disk place : Nat) : (recordB fl me s l n nm disk place).length = 46 + nm.size := by
  simp only [recordB, List.length_append, longB_length, shortsB_length, headB_length, txtB_length, List.length_cons, List.length_nil]
  omega

set_option maxRecDepth 100000 in
set_option maxHeartbeats 1600000 in
theorem olocal_any (ob base fl me s l n : Nat) (nm : ByteArray) (v : Value) (B : List Nat) (w : World) (ho : OutIs w ob base v B) (hf : fl < 65536) (hm : me < 65536) (hs : s < 4294967296) (hl : l < 4294967296) (hn : n < 4294967296) (hnm : nm.size < 65536) (hlen : B.length + 30 + nm.size ≤ 140737488355328) :
    Calls Tryz.prog 32 #[.pointer (some ⟨ob, 0, none⟩), hdV fl me s l n nm] w fun e w' => e = .returned (.tuple #[]) ∧ ∃ v', OutIs w' ob base v' (B ++ localB fl me s l n nm) ∧ Fr (outS w ob base) w w' := by
  unfold hdV
  have hob := lt_of_block ho.at_
  have hb0 := heap_alloc_new w (.cells #[.int .u16 (fl : Int), .int .u16 (me : Int), .int .u32 (s : Int), .int .u32 (l : Int), .int .u32 (n : Int), .string nm] 69 (0, 0))
  have hN := (Fr.refl noB w).alloc (.cells #[.int .u16 (fl : Int), .int .u16 (me : Int), .int .u32 (s : Int), .int .u32 (l : Int), .int .u32 (n : Int), .string nm] 69 (0, 0))
  have ho0 := ho.new hN
  have HN : Hid _ := hN
  have HB0 : Hid _ := hb0
  have HO0 : Hid _ := ho0
  clear ho hN hb0 ho0
  go_enter Tryz.func32, Tryz.ntmps32
  go_wp2_with fail
  refine (long_any ob base 67324752 v B _ HO0.out (by decide) (by omega)).mono ?_
  rintro e w1 ⟨rfl, v1, ho1, hF1⟩
  have hb1 := box_keep HB0.out hF1 (by decide) (by omega)
  have HB1 : Hid _ := hb1
  have HO1 : Hid _ := ho1
  clear hb1 ho1
  go_wp2_with fail
  refine (shorts_new ob base [20] v1 _ _ HO1.out (by intro x hx; simp at hx; omega) (by rw [List.length_append, longB_length]; show _ + 2 ≤ _; omega)).mono ?_
  rintro e w2 ⟨rfl, v2, ho2, hF2⟩
  have hb2 := box_keep HB1.out hF2 (by decide) (by omega)
  have HB2 : Hid _ := hb2
  have c0 := cellOf (o := 0) hb2 rfl
  have c1 := cellOf (o := 1) hb2 rfl
  have c2 := cellOf (o := 2) hb2 rfl
  have c3 := cellOf (o := 3) hb2 rfl
  have c4 := cellOf (o := 4) hb2 rfl
  have c5 := cellOf (o := 5) hb2 rfl
  have HC := ohead_any ob base fl me s l n nm v2 _ w2 ho2 hf hm hs hl hn (by simp only [List.length_append, longB_length, shortsB_length]; show _ + 4 + 2 + 20 ≤ _; omega)
  unfold hdV at HC
  clear hb2 ho2
  go_wp2_with fail
  refine HC.mono ?_
  rintro e w3 ⟨rfl, v3, ho3, hF3⟩
  have hb3 := box_keep HB2.out hF3 (by decide) (by omega)
  have HB3 : Hid _ := hb3
  have d5 := cellOf (o := 5) hb3 rfl
  have HC2 := shorts_new ob base [nm.size, 0] v3 _ w3 ho3 (by intro x hx; simp at hx; omega) (by simp only [List.length_append, longB_length, shortsB_length, headB_length]; show _ + 4 + 2 + 20 + 4 ≤ _; omega)
  have esz : IntKind.u16.wrap ((nm.size : Nat) : Int) = ((nm.size : Nat) : Int) := by rw [IntKind.wrap_u16]; omega
  clear hb3 ho3
  go_wp2_with fail
  refine HC2.mono ?_
  rintro e w4 ⟨rfl, v4, ho4, hF4⟩
  have hb4 := box_keep HB3.out hF4 (by decide) (by omega)
  have e5 := cellOf (o := 5) hb4 rfl
  have HC3 := text_any ob base v4 _ nm w4 ho4 (by simp only [List.length_append, longB_length, shortsB_length, headB_length]; show _ + 4 + 2 + 20 + 4 + _ ≤ _; omega)
  clear hb4 ho4
  go_wp2_with fail
  refine HC3.mono ?_
  rintro e w5 ⟨rfl, v5, ho5, hF5⟩
  go_wp2_with fail
  go_end0
  exact ⟨rfl, v5, by simpa only [List.append_assoc, localB] using ho5, onew HN.out (otrans (otrans (otrans (otrans hF1 hF2) hF3) hF4) hF5)⟩

/-- A record as a value. -/
def recV (fl me s l n : Nat) (nm : ByteArray) (disk place : Nat) : Value := .agg #[.int .u16 (fl : Int), .int .u16 (me : Int), .int .u32 (s : Int), .int .u32 (l : Int), .int .u32 (n : Int), .string nm, .int .u16 (disk : Int), .int .u32 (place : Int)]

set_option maxRecDepth 100000 in
set_option maxHeartbeats 1600000 in
theorem orecord_any (ob base fl me s l n disk place : Nat) (nm : ByteArray) (v : Value) (B : List Nat) (w : World) (ho : OutIs w ob base v B) (hf : fl < 65536) (hm : me < 65536) (hs : s < 4294967296) (hl : l < 4294967296) (hn : n < 4294967296) (hnm : nm.size < 65536) (hd : disk < 65536) (hp : place < 4294967296) (hlen : B.length + 46 + nm.size ≤ 140737488355328) :
    Calls Tryz.prog 34 #[.pointer (some ⟨ob, 0, none⟩), recV fl me s l n nm disk place] w fun e w' => e = .returned (.tuple #[]) ∧ ∃ v', OutIs w' ob base v' (B ++ recordB fl me s l n nm disk place) ∧ Fr (outS w ob base) w w' := by
  unfold recV
  have hob := lt_of_block ho.at_
  have hb0 := heap_alloc_new w (.cells #[.int .u16 (fl : Int), .int .u16 (me : Int), .int .u32 (s : Int), .int .u32 (l : Int), .int .u32 (n : Int), .string nm, .int .u16 (disk : Int), .int .u32 (place : Int)] 72 (0, 0))
  have hN := (Fr.refl noB w).alloc (.cells #[.int .u16 (fl : Int), .int .u16 (me : Int), .int .u32 (s : Int), .int .u32 (l : Int), .int .u32 (n : Int), .string nm, .int .u16 (disk : Int), .int .u32 (place : Int)] 72 (0, 0))
  have ho0 := ho.new hN
  have HN : Hid _ := hN
  have HB0 : Hid _ := hb0
  have HO0 : Hid _ := ho0
  clear ho hN hb0 ho0
  go_enter Tryz.func34, Tryz.ntmps34
  go_wp2_with fail
  refine (long_any ob base 33639248 v B _ HO0.out (by decide) (by omega)).mono ?_
  rintro e w1 ⟨rfl, v1, ho1, hF1⟩
  have hb1 := box_keep HB0.out hF1 (by decide) (by omega)
  have HB1 : Hid _ := hb1
  have HO1 : Hid _ := ho1
  clear hb1 ho1
  go_wp2_with fail
  refine (shorts_new ob base [20, 20] v1 _ _ HO1.out (by intro x hx; simp at hx; omega) (by rw [List.length_append, longB_length]; show _ + 4 ≤ _; omega)).mono ?_
  rintro e w2 ⟨rfl, v2, ho2, hF2⟩
  have hb2 := box_keep HB1.out hF2 (by decide) (by omega)
  have HB2 : Hid _ := hb2
  have c0 := cellOf (o := 0) hb2 rfl
  have c1 := cellOf (o := 1) hb2 rfl
  have c2 := cellOf (o := 2) hb2 rfl
  have c3 := cellOf (o := 3) hb2 rfl
  have c4 := cellOf (o := 4) hb2 rfl
  have c5 := cellOf (o := 5) hb2 rfl
  have HC := ohead_any ob base fl me s l n nm v2 _ w2 ho2 hf hm hs hl hn (by simp only [List.length_append, longB_length, shortsB_length]; show _ + 4 + 4 + 20 ≤ _; omega)
  unfold hdV at HC
  clear hb2 ho2
  go_wp2_with fail
  refine HC.mono ?_
  rintro e w3 ⟨rfl, v3, ho3, hF3⟩
  have hb3 := box_keep HB2.out hF3 (by decide) (by omega)
  have HB3 : Hid _ := hb3
  have d5 := cellOf (o := 5) hb3 rfl
  have d6 := cellOf (o := 6) hb3 rfl
  have HC2 := shorts_new ob base [nm.size, 0, 0, disk, 0] v3 _ w3 ho3 (by intro x hx; simp at hx; omega) (by simp only [List.length_append, longB_length, shortsB_length, headB_length]; show _ + 4 + 4 + 20 + 10 ≤ _; omega)
  have esz : IntKind.u16.wrap ((nm.size : Nat) : Int) = ((nm.size : Nat) : Int) := by rw [IntKind.wrap_u16]; omega
  clear hb3 ho3
  go_wp2_with fail
  refine HC2.mono ?_
  rintro e w4 ⟨rfl, v4, ho4, hF4⟩
  have hb4 := box_keep HB3.out hF4 (by decide) (by omega)
  have HB4 : Hid _ := hb4
  have HC3 := long_any ob base 0 v4 _ w4 ho4 (by decide) (by simp only [List.length_append, longB_length, shortsB_length, headB_length]; show _ + 4 + 4 + 20 + 10 + 4 ≤ _; omega)
  clear hb4 ho4
  go_wp2_with fail
  refine HC3.mono ?_
  rintro e w5 ⟨rfl, v5, ho5, hF5⟩
  have hb5 := box_keep HB4.out hF5 (by decide) (by omega)
  have HB5 : Hid _ := hb5
  have e7 := cellOf (o := 7) hb5 rfl
  have HC4 := long_any ob base place v5 _ w5 ho5 hp (by simp only [List.length_append, longB_length, shortsB_length, headB_length]; show _ + 4 + 4 + 20 + 10 + 4 + 4 ≤ _; omega)
  clear hb5 ho5
  go_wp2_with fail
  refine HC4.mono ?_
  rintro e w6 ⟨rfl, v6, ho6, hF6⟩
  have hb6 := box_keep HB5.out hF6 (by decide) (by omega)
  have f5 := cellOf (o := 5) hb6 rfl
  have HC5 := text_any ob base v6 _ nm w6 ho6 (by simp only [List.length_append, longB_length, shortsB_length, headB_length]; show _ + 4 + 4 + 20 + 10 + 4 + 4 + _ ≤ _; omega)
  clear hb6 ho6
  go_wp2_with fail
  refine HC5.mono ?_
  rintro e w7 ⟨rfl, v7, ho7, hF7⟩
  go_wp2_with fail
  go_end0
  exact ⟨rfl, v7, by simpa only [List.append_assoc, recordB] using ho7, onew HN.out (otrans (otrans (otrans (otrans (otrans (otrans hF1 hF2) hF3) hF4) hF5) hF6) hF7)⟩

set_option maxRecDepth 100000 in
set_option maxHeartbeats 1600000 in
theorem oend_any (ob base k len place : Nat) (v : Value) (B : List Nat) (w : World) (ho : OutIs w ob base v B) (hk : k < 65536) (hl : len < 4294967296) (hp : place < 4294967296) (hlen : B.length + 22 ≤ 140737488355328) :
    Calls Tryz.prog 35 #[.pointer (some ⟨ob, 0, none⟩), .int .i64 (k : Int), .int .i64 (len : Int), .int .i64 (place : Int)] w fun e w' => e = .returned (.tuple #[]) ∧ ∃ v', OutIs w' ob base v' (B ++ endB k len place) ∧ Fr (outS w ob base) w w' := by
  have ek : IntKind.u16.wrap (k : Int) = (k : Int) := by rw [IntKind.wrap_u16]; omega
  have HO : Hid _ := ho
  clear ho
  go_enter Tryz.func35, Tryz.ntmps35
  go_wp2_with fail
  refine (long_any ob base 101010256 v B _ HO.out (by decide) (by omega)).mono ?_
  rintro e w1 ⟨rfl, v1, ho1, hF1⟩
  have HC1 := shorts_new ob base [0, 0, k, k] v1 _ w1 ho1 (by intro x hx; simp at hx; omega) (by simp only [List.length_append, longB_length]; show _ + 4 + 8 ≤ _; omega)
  clear ho1
  go_wp2_with fail
  refine HC1.mono ?_
  rintro e w2 ⟨rfl, v2, ho2, hF2⟩
  have HC2 := long_any ob base len v2 _ w2 ho2 hl (by simp only [List.length_append, longB_length, shortsB_length]; show _ + 4 + 8 + 4 ≤ _; omega)
  clear ho2
  go_wp2_with fail
  refine HC2.mono ?_
  rintro e w3 ⟨rfl, v3, ho3, hF3⟩
  have HC3 := long_any ob base place v3 _ w3 ho3 hp (by simp only [List.length_append, longB_length, shortsB_length]; show _ + 4 + 8 + 4 + 4 ≤ _; omega)
  clear ho3
  go_wp2_with fail
  refine HC3.mono ?_
  rintro e w4 ⟨rfl, v4, ho4, hF4⟩
  have HC4 := shorts_new ob base [0] v4 _ w4 ho4 (by intro x hx; simp at hx; omega) (by simp only [List.length_append, longB_length, shortsB_length]; show _ + 4 + 8 + 4 + 4 + 2 ≤ _; omega)
  clear ho4
  go_wp2_with fail
  refine HC4.mono ?_
  rintro e w5 ⟨rfl, v5, ho5, hF5⟩
  go_wp2_with fail
  go_end0
  exact ⟨rfl, v5, by simpa only [List.append_assoc, endB] using ho5, otrans (otrans (otrans (otrans hF1 hF2) hF3) hF4) hF5⟩
#print axioms olocal_any
#print axioms orecord_any
#print axioms oend_any
end Go.Proofs.YtlhikoomghbnjaaGreatDoor
