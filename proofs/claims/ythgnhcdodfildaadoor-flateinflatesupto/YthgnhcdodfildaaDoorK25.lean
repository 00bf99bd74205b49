/- The symbols of a block. -/
import Derived.Test.YthgnhcdodfildaaDoorK24
import Derived.WalkMore
namespace Go.Proofs.YthgnhcdodfildaaDoor
open Go.RowKit

/-- Symbols up to the block's end: the error, the place behind, what was said. -/
def symsA (M N B : List Nat) (most : Int) : Nat → Nat → List Nat → Nat × Nat × List Nat
  | 0, p, sd => (33, p, sd)
  | f + 1, p, sd =>
    if (symA M B p).2.1 ≠ 0 then ((symA M B p).2.1, p, sd)
    else if (symA M B p).1 = 256 then (0, (symA M B p).2.2, sd)
    else if (symA M B p).1 < 256 then if most - (sd.length : Int) < 1 then (3, p, sd) else symsA M N B most f (symA M B p).2.2 (sd ++ [(symA M B p).1])
    else if (matA N B (symA M B p).2.2 sd most (symA M B p).1).1 ≠ 0 then ((matA N B (symA M B p).2.2 sd most (symA M B p).1).1, p, sd)
    else symsA M N B most f (matA N B (symA M B p).2.2 sd most (symA M B p).1).2.1 (matA N B (symA M B p).2.2 sd most (symA M B p).1).2.2

/-- What was said, wherever the reader stands. -/
structure SdIs (w : World) (fb rb : Nat) (most : Int) (sv : Value) (sd : List Nat) (lt ds : Option Addr) : Prop where
  at_ : w.heap[fb]? = some (.cells #[.pointer (some ⟨rb, 0, none⟩), .int .i64 most, sv, .pointer lt, .pointer ds] 50 (0, 0))
  own : w.ownsRow (fb + 1) 5 1 sv sd.length (byteVals sd)
theorem InfIs.sdIs {w : World} {fb rb g p : Nat} {B sd : List Nat} {most : Int} {sv : Value} {lt ds : Option Addr} (h : InfIs w fb rb g B p most sv sd lt ds) : SdIs w fb rb most sv sd lt ds := ⟨h.at_, h.own⟩
theorem InfIs.sd {w w' : World} {fb rb g p : Nat} {B sd : List Nat} {most : Int} {sv : Value} {lt ds : Option Addr} (h : InfIs w fb rb g B p most sv sd lt ds) (hF : Fr (oneB rb) w w') : SdIs w' fb rb most sv sd lt ds := by
  refine ⟨hF.obj h.at_ (fun e => ?_), ?_⟩
  · have := h.rlt; have e' : fb = rb := e; omega
  · obtain ⟨o1, o2⟩ := h.own
    refine ⟨o1, ?_⟩
    rcases o2 with o2 | ⟨g', cap', cur', k1, k2, k3, k4⟩
    · exact Or.inl o2
    · exact Or.inr ⟨g', cap', cur', k1, k2, hF.obj k3 (fun e => by have := h.rlt; have e' : g' = rb := e; omega), k4⟩
theorem DecIs.keepI {w w' : World} {fb rb db sb : Nat} {M : List Nat} (h : DecIs w db sb M) (hF : Fr (iS w fb rb) w w') (h1 : db ≠ rb) (h2 : sb ≠ rb) (h3 : db ≠ fb) (h4 : sb ≠ fb) : DecIs w' db sb M := by
  refine h.keep hF ?_ ?_
  · rintro (e | e | ⟨_, cs, fr, e⟩)
    · exact h1 e
    · exact h3 e
    · have := h.dec
      unfold DecAt at this
      rw [e] at this
      simp at this
  · rintro (e | e | ⟨_, cs, fr, e⟩)
    · exact h2 e
    · exact h4 e
    · have := h.row
      unfold RowN at this
      rw [e] at this
      simp at this
theorem symA_lt (M B : List Nat) (p : Nat) (h : (symA M B p).2.1 = 0) : p < (symA M B p).2.2 := by
  unfold symA at *
  split at h
  · simp at h
  · split at h
    · rename_i h1 h2
      rw [if_neg h1, if_pos h2]
      exact Nat.lt_of_le_of_lt (Nat.le_add_right p 0) (rdT_ok M B p 16 0 h2).1
    · split at h <;> simp at h
theorem bitA_ge (B : List Nat) (p n : Nat) : p ≤ (bitA B p n).2.2 := by unfold bitA; split <;> simp
set_option maxRecDepth 10000 in
theorem matA_ok (N B : List Nat) (p : Nat) (sd : List Nat) (most : Int) (s : Nat) (hs : 257 ≤ s) (h : (matA N B p sd most s).1 = 0) : p < (matA N B p sd most s).2.1 ∧ (matA N B p sd most s).2.1 ≤ 8 * B.length ∧ (matA N B p sd most s).2.2.length ≤ sd.length + 258 ∧ ((matA N B p sd most s).2.2.length : Int) ≤ most := by
  unfold matA at *
  split at h
  · exact absurd h (by simp only; decide)
  split at h
  · rename_i h2; exact absurd h h2
  split at h
  · rename_i h3; exact absurd h h3
  split at h
  · exact absurd h (by simp only; decide)
  split at h
  · rename_i h5; exact absurd h h5
  split at h
  · exact absurd h (by simp only; decide)
  split at h
  · exact absurd h (by simp only; decide)
  rename_i h1 h2 h3 h4 h5 h6 h7
  rw [if_neg h1, if_neg h2, if_neg h3, if_neg h4, if_neg h5, if_neg h6, if_neg h7]
  have a1 := bitA_ge B p (lenB (s - 257))
  have a2 := symA_lt N B (bitA B p (lenB (s - 257))).2.2 (by simpa using h3)
  have a3 := bitA_ge B (symA N B (bitA B p (lenB (s - 257))).2.2).2.2 (disB (symA N B (bitA B p (lenB (s - 257))).2.2).1)
  have a4 := bitA_le B (symA N B (bitA B p (lenB (s - 257))).2.2).2.2 (disB (symA N B (bitA B p (lenB (s - 257))).2.2).1) (symA_le N B _ (by simpa using h3))
  have a5 := bitA_lt B p (lenB (s - 257))
  have a6 := lenF_le (s - 257) (by omega)
  refine ⟨Nat.lt_of_lt_of_le (Nat.lt_of_le_of_lt a1 a2) a3, a4, ?_, ?_⟩
  · simp only [repN_length]; omega
  · simp only [repN_length]; omega
theorem ordN_le (M : List Nat) (k i : Nat) : (ordN M k).getD i 0 ≤ k := by
  induction k with
  | zero =>
    unfold ordN
    rw [List.getD_eq_getElem?_getD, List.getElem?_replicate]
    split <;> simp
  | succ k ih =>
    unfold ordN
    split
    · omega
    · rw [List.getD_eq_getElem?_getD] at *
      rw [List.getElem?_set]
      split
      · split <;> simp
      · omega
theorem symA_sym (M B : List Nat) (p : Nat) : (symA M B p).1 ≤ M.length := by
  have hT : ∀ f k, (rdT M B p f k).1 ≤ M.length := by
    intro f
    induction f with
    | zero => intro k; simp [rdT]
    | succ f ih =>
      intro k
      unfold rdT
      split
      · simp
      · split
        · simp
        · split
          · exact ordN_le M M.length _
          · exact ih _
  unfold symA
  split
  · simp
  · split
    · exact hT 16 0
    · split <;> simp
#print axioms matA_ok
#print axioms DecIs.keepI

set_option maxRecDepth 100000 in
set_option maxHeartbeats 3200000 in
theorem isymbols_any (fb rb g p db1 sb1 db2 sb2 : Nat) (M N B sd : List Nat) (most : Int) (sv : Value) (lt ds : Option Addr) (w : World) (h : InfIs w fb rb g B p most sv sd lt ds) (hd1 : DecIs w db1 sb1 M) (hd2 : DecIs w db2 sb2 N)
    (n1 : db1 ≠ rb ∧ sb1 ≠ rb ∧ db1 ≠ fb ∧ sb1 ≠ fb) (n2 : db2 ≠ rb ∧ sb2 ≠ rb ∧ db2 ≠ fb ∧ sb2 ≠ fb) (hM : Code M) (hN : Code N) (hMl : M.length ≤ 65536) (hB : ∀ x ∈ B, x < 256) (hp : p ≤ 8 * B.length) (hl : B.length ≤ 1073741824) (hm : 0 ≤ most) (hm2 : most ≤ 9223372036854775807) (hsd : sd.length ≤ 258 * p) (F : Nat) (hF : 8 * B.length < p + F) :
    Calls Tryd.prog 54 #[.pointer (some ⟨fb, 0, none⟩), .agg #[.pointer (some ⟨db1, 0, none⟩), .pointer (some ⟨db2, 0, none⟩)]] w fun e w' => e = .returned (.int .i64 (((symsA M N B most F p sd).1 : Nat) : Int)) ∧ (∃ sv', SdIs w' fb rb most sv' (symsA M N B most F p sd).2.2 lt ds ∧ ((symsA M N B most F p sd).1 = 0 → InfIs w' fb rb g B (symsA M N B most F p sd).2.1 most sv' (symsA M N B most F p sd).2.2 lt ds)) ∧ Fr (iS w fb rb) w w' := by
  obtain ⟨w0, hw0⟩ : ∃ w0, w0 = w.alloc (.cells #[.pointer (some ⟨db1, 0, none⟩), .pointer (some ⟨db2, 0, none⟩)] 48 (0, 0)) := ⟨_, rfl⟩
  have hcb : w0.heap[w.heap.size]? = some (.cells #[.pointer (some ⟨db1, 0, none⟩), .pointer (some ⟨db2, 0, none⟩)] 48 (0, 0)) := by rw [hw0]; exact heap_alloc_new _ _
  have hF0 : Fr noB w w0 := by rw [hw0]; exact (Fr.refl _ _).alloc _
  have HI0 : Hid (InfIs w0 fb rb g B p most sv sd lt ds) := h.keep hF0 id id id (fun _ _ _ _ h => h)
  have hfb : fb < w.heap.size := lt_of_block h.at_
  have hrb : rb < w.heap.size := lt_of_block h.rd
  have HD1 : Hid (DecIs w0 db1 sb1 M) := hd1.keep hF0 id id
  have HD2 : Hid (DecIs w0 db2 sb2 N) := hd2.keep hF0 id id
  have HC : Hid _ := hcb
  have H0 : Hid (Fr noB w w0) := hF0
  have HW : Hid _ := hw0
  clear h hd1 hd2 hcb hF0
  go_enter Tryd.func54, Tryd.ntmps54
  go_wp2_with fail
  rw [← HW.out]
  clear hw0 HW
  go_step3
  go_wp2_with fail
  go_step3
  go_wp2_with fail
  go_loopg [5] F (fun gg _ wr => ∃ (f q : Nat) (sq : List Nat) (vq : Value), gg = f + 1 ∧ Hid (symsA M N B most (f + 1) q sq = symsA M N B most F p sd) ∧ Hid (InfIs wr fb rb g B q most vq sq lt ds) ∧ q ≤ 8 * B.length ∧ 8 * B.length < q + (f + 1) ∧ sq.length ≤ 258 * q ∧ Hid (Fr (iS w0 fb rb) w0 wr))
  case atStart => exact ⟨F - 1, p, sd, sv, by omega, by rw [show F - 1 + 1 = F by omega]; exact rfl, HI0.out, hp, by omega, hsd, Fr.refl _ _⟩
  case round =>
    obtain ⟨f, q, sq, vq, rfl, HX, HI, hq, hfu, hsq, HF⟩ := hrel
    have hw0 := H0.out.size
    have hbl : w.heap.size < w0.heap.size := lt_of_block HC.out
    have hC := HF.out.obj HC.out (by
      rintro (e | e | ⟨_, cs, fr, e⟩)
      · omega
      · omega
      · have := HC.out
        rw [e] at this
        simp at this)
    have c0 := cellOf (o := 0) hC rfl
    have c1 := cellOf (o := 1) hC rfl
    have hD1 : DecIs wr db1 sb1 M := HD1.out.keepI HF.out n1.1 n1.2.1 n1.2.2.1 n1.2.2.2
    have hD2 : DecIs wr db2 sb2 N := HD2.out.keepI HF.out n2.1 n2.2.1 n2.2.2.1 n2.2.2.2
    have HSy := symbol_any fb rb g q db1 sb1 M B sq most vq lt ds wr HI.out hD1 n1.1 n1.2.1 hM hB hq (by omega)
    have HDD : Hid (DecIs wr db1 sb1 M ∧ DecIs wr db2 sb2 N) := ⟨hD1, hD2⟩
    obtain ⟨b, hb⟩ : ∃ b, b = symA M B q := ⟨_, rfl⟩
    have hP := symA_le M B q
    have hLt := symA_lt M B q
    have hSy := symA_sym M B q
    rw [← hb] at HSy hP hLt hSy
    obtain ⟨x, e0, q1⟩ := b
    have hx6 : x ≤ 65536 := Nat.le_trans hSy hMl
    have HBb : Hid ((x, e0, q1) = symA M B q) := hb
    have HPP : Hid (e0 = 0 → q1 ≤ 8 * B.length ∧ q < q1) := fun h => ⟨hP h, hLt h⟩
    clear hb hP hLt hSy hD1 hD2 hw0
    go_wp2_with fail
    refine HSy.mono ?_
    rintro e w1 ⟨rfl, hI1, hF1⟩
    have HI1 : Hid (e0 = 0 → InfIs w1 fb rb g B q1 most vq sq lt ds) := hI1
    have HF1 : Hid (Fr (oneB rb) wr w1) := hF1
    have HFw : Hid (Fr (iS w fb rb) w w1) := itrans H0.out.weak (itrans HF.out hF1.toI)
    have HF0 : Hid (Fr (iS w0 fb rb) w0 w1) := itrans HF.out hF1.toI
    have d1 := cellOf (o := 1) (hF1.obj hC (fun e => by have e' : w.heap.size = rb := e; omega)) rfl
    clear HSy hI1 hF1 hC c0 c1
    by_cases hz : e0 = 0
    case neg =>
      have em : symsA M N B most F p sd = (e0, q, sq) := by
        rw [← HX.out]
        unfold symsA
        rw [← HBb.out, if_pos (by simpa using hz)]
      have EM : Hid _ := em
      have HZ : Hid (e0 ≠ 0) := hz
      have hz' : ¬ (e0 : Int) = 0 := by omega
      clear em
      go_wp2_with fail
      try rw [Exit.noGoto_ret]
      go_ret
      rw [EM.out]
      exact ⟨rfl, ⟨vq, HI.out.sd HF1.out, fun e => absurd e HZ.out⟩, HFw.out⟩
    subst hz
    have hI1 := HI1.out rfl
    have hq1 := HPP.out rfl
    by_cases h256 : x = 256
    · subst h256
      have em : symsA M N B most F p sd = (0, q1, sq) := by
        rw [← HX.out]
        unfold symsA
        rw [← HBb.out, if_neg (by simp), if_pos rfl]
      have EM : Hid _ := em
      have HI1' : Hid (InfIs w1 fb rb g B q1 most vq sq lt ds) := hI1
      clear em hI1
      go_wp2_with fail
      try rw [Exit.noGoto_ret]
      go_ret
      rw [EM.out]
      exact ⟨rfl, ⟨vq, HI1'.out.sdIs, fun _ => HI1'.out⟩, HFw.out⟩
    have k256 : ¬ (x : Int) = 256 := by omega
    have hsl : sq.length ≤ 35184372088000 := by omega
    by_cases hlit : x < 256
    · have k1 : (x : Int) < 256 := by omega
      have k2 : IntKind.u8.wrap (x : Int) = (x : Int) := by rw [IntKind.wrap_u8]; omega
      have k3 : (x : Int) % 256 = (x : Int) := by omega
      by_cases hlong : most - (sq.length : Int) < 1
      · have HL := literal_long fb rb g q1 x B sq most vq lt ds w1 hI1 hm hm2 (by omega) (by omega)
        have em : symsA M N B most F p sd = (3, q, sq) := by
          rw [← HX.out]
          unfold symsA
          rw [← HBb.out, if_neg (by simp), if_neg h256, if_pos hlit, if_pos hlong]
        have EM : Hid _ := em
        clear em hI1
        go_wp2_with fail
        refine HL.mono ?_
        rintro e w2 ⟨rfl, hI2, hF2⟩
        have HI2 : Hid _ := hI2
        have HF2 : Hid _ := hF2
        clear hI2 hF2 HL
        go_wp2_with fail
        try rw [Exit.noGoto_ret]
        go_ret
        rw [EM.out]
        exact ⟨rfl, ⟨vq, HI2.out.sdIs, fun e => absurd e (by simp only; decide)⟩, itrans HFw.out HF2.out.weak⟩
      · have HL := literal_good fb rb g q1 x B sq most vq lt ds w1 hI1 hm2 (by omega) (by omega)
        have em : symsA M N B most f q1 (sq ++ [x]) = symsA M N B most F p sd := by
          rw [← HX.out]
          conv => rhs; unfold symsA
          rw [← HBb.out, if_neg (by simp), if_neg h256, if_pos hlit, if_neg hlong]
        have EM : Hid _ := em
        clear em hI1
        go_wp2_with fail
        refine HL.mono ?_
        rintro e w2 ⟨rfl, v2, hI2, hF2⟩
        have HI2 : Hid _ := hI2
        have HF2 : Hid _ := hF2
        clear hI2 hF2 HL
        go_wp2_with fail
        go_roundg f
        case measure => omega
        case rel => exact ⟨f - 1, q1, sq ++ [x], v2, by omega, by rw [show f - 1 + 1 = f by omega]; exact EM.out, HI2.out, hq1.1, by omega, by simp; omega, itrans HF0.out HF2.out⟩
    · have k1 : ¬ (x : Int) < 256 := by omega
      have HMt := match_any fb rb g q1 x db2 sb2 N B sq most vq lt ds w1 hI1 (HDD.out.2.keep HF1.out (fun e => n2.1 e) (fun e => n2.2.1 e)) n2.1 n2.2.1 hN hB hq1.1 (by omega) (by omega) hx6 hm hm2 (by omega)
      obtain ⟨b, hb⟩ : ∃ b, b = matA N B q1 sq most x := ⟨_, rfl⟩
      have hok := matA_ok N B q1 sq most x (by omega)
      rw [← hb] at HMt hok
      obtain ⟨e1, q2, s2⟩ := b
      have HB2 : Hid ((e1, q2, s2) = matA N B q1 sq most x) := hb
      have HOk : Hid (e1 = 0 → q1 < q2 ∧ q2 ≤ 8 * B.length ∧ s2.length ≤ sq.length + 258) := fun h => ⟨(hok h).1, (hok h).2.1, (hok h).2.2.1⟩
      have HI1' : Hid _ := hI1
      clear hI1 hb hok
      go_wp2_with fail
      refine HMt.mono ?_
      rintro e w2 ⟨rfl, hA, hC2, hF2⟩
      have HA : Hid (e1 ≠ 0 → Fr (oneB rb) w1 w2) := hA
      have HCC : Hid (e1 = 0 → ∃ sv', InfIs w2 fb rb g B q2 most sv' s2 lt ds) := hC2
      have HF2 : Hid _ := hF2
      clear hA hC2 hF2 HMt
      by_cases hz : e1 = 0
      · subst hz
        obtain ⟨v2, hI2⟩ := HCC.out rfl
        have hk := HOk.out rfl
        have em : symsA M N B most f q2 s2 = symsA M N B most F p sd := by
          rw [← HX.out]
          conv => rhs; unfold symsA
          rw [← HBb.out, if_neg (by simp), if_neg h256, if_neg hlit, ← HB2.out, if_neg (by simp)]
        have EM : Hid _ := em
        have HI2 : Hid _ := hI2
        have HK : Hid _ := hk
        clear em hI2 hk
        go_wp2_with fail
        go_roundg f
        case measure => omega
        case rel => exact ⟨f - 1, q2, s2, v2, by have := HK.out; omega, by have := HK.out; rw [show f - 1 + 1 = f by omega]; exact EM.out, HI2.out, HK.out.2.1, by have := HK.out; omega, by have := HK.out; omega, itrans HF0.out HF2.out⟩
      · have em : symsA M N B most F p sd = (e1, q, sq) := by
          rw [← HX.out]
          unfold symsA
          rw [← HBb.out, if_neg (by simp), if_neg h256, if_neg hlit, ← HB2.out, if_pos (by simpa using hz)]
        have EM : Hid _ := em
        have HZ : Hid (e1 ≠ 0) := hz
        have hz' : ¬ (e1 : Int) = 0 := by omega
        clear em
        go_wp2_with fail
        try rw [Exit.noGoto_ret]
        go_ret
        rw [EM.out]
        exact ⟨rfl, ⟨vq, HI1'.out.sd (HA.out HZ.out), fun e => absurd e HZ.out⟩, itrans HFw.out HF2.out⟩
#print axioms isymbols_any
end Go.Proofs.YthgnhcdodfildaaDoor
/- A stored block, right or wrong. -/
namespace Go.Proofs.YthgnhcdodfildaaDoor
open Go.RowKit

/-- The two shorts of a stored block's head. -/
def shA (B : List Nat) (f : Nat) : Nat := B.getD f 0 + 256 * B.getD (f + 1) 0
/-- A stored block behind its kind: the error, the place behind, what was said. -/
def stoA (B : List Nat) (p : Nat) (sd : List Nat) (most : Int) : Nat × Nat × List Nat :=
  if B.length < (p + 7) / 8 + 4 then (33, p, sd)
  else if shA B ((p + 7) / 8) + shA B ((p + 7) / 8 + 2) ≠ 65535 then (30, p, sd)
  else if most - (sd.length : Int) < (shA B ((p + 7) / 8) : Int) then (3, p, sd)
  else if B.length < (p + 7) / 8 + 4 + shA B ((p + 7) / 8) then (33, p, sd)
  else (0, 8 * ((p + 7) / 8 + 4 + shA B ((p + 7) / 8)), sd ++ (B.drop ((p + 7) / 8 + 4)).take (shA B ((p + 7) / 8)))

theorem xor_iff (n m : Nat) (hn : n < 65536) (h : n ^^^ m = 65535) : n + m = 65535 := by
  have h1 := xor_compl n (by omega)
  have h2 : n ^^^ (n ^^^ m) = n ^^^ (n ^^^ (65535 - n)) := by rw [h, h1]
  rw [← Nat.xor_assoc, ← Nat.xor_assoc, Nat.xor_self, Nat.zero_xor, Nat.zero_xor] at h2
  omega
theorem four_of (B : List Nat) (f : Nat) (h : f + 4 ≤ B.length) : (B.drop f).take 4 = [B.getD f 0, B.getD (f + 1) 0, B.getD (f + 1 + 1) 0, B.getD (f + 1 + 1 + 1) 0] := by
  apply List.ext_getElem?
  intro i
  rcases Nat.lt_or_ge i 4 with hi | hi
  · rw [List.getElem?_take_of_lt hi, List.getElem?_drop, List.getElem?_eq_getElem (by omega)]
    match i, hi with
    | 0, _ => simp [List.getElem?_eq_getElem (show f < B.length by omega)]
    | 1, _ => simp [List.getElem?_eq_getElem (show f + 1 < B.length by omega)]
    | 2, _ => simp [List.getElem?_eq_getElem (show f + 1 + 1 < B.length by omega)]
    | 3, _ => simp [List.getElem?_eq_getElem (show f + 1 + 1 + 1 < B.length by omega)]
  · rw [List.getElem?_eq_none (by simp; omega), List.getElem?_eq_none (by simp; omega)]

set_option maxRecDepth 100000 in
set_option maxHeartbeats 3200000 in
theorem stored_any' (fb rb g p : Nat) (B sd : List Nat) (most : Int) (sv : Value) (lt ds : Option Addr) (w : World) (h : InfIs w fb rb g B p most sv sd lt ds) (hB : ∀ x ∈ B, x < 256) (hp : p ≤ 8 * B.length) (hl : B.length ≤ 1073741824) (hm : 0 ≤ most) (hm2 : most ≤ 9223372036854775807) (hsd : sd.length ≤ 35184372088832) :
    Calls Tryd.prog 36 #[.pointer (some ⟨fb, 0, none⟩)] w fun e w' => e = .returned (.int .i64 (((stoA B p sd most).1 : Nat) : Int)) ∧ (∃ sv', SdIs w' fb rb most sv' (stoA B p sd most).2.2 lt ds ∧ ((stoA B p sd most).1 = 0 → InfIs w' fb rb g B (stoA B p sd most).2.1 most sv' (stoA B p sd most).2.2 lt ds)) ∧ Fr (iS w fb rb) w w' := by
  obtain ⟨f, hf⟩ : ∃ f, f = (p + 7) / 8 := ⟨_, rfl⟩
  by_cases h4 : B.length < f + 4
  · have em : stoA B p sd most = (33, p, sd) := by unfold stoA; rw [← hf, if_pos h4]
    have EM : Hid _ := em
    have HBy := ibytes_ends fb rb g p 4 B sd most sv lt ds w h hp (by omega) (by omega)
    have HI : Hid _ := h
    clear h em
    go_enter Tryd.func36, Tryd.ntmps36
    go_wp2_with fail
    refine HBy.mono ?_
    rintro e w1 ⟨rfl, rfl⟩
    go_wp2_with fail
    go_ret
    rw [EM.out]
    exact ⟨rfl, ⟨sv, HI.out.sdIs, fun e => absurd e (by simp only; decide)⟩, Fr.refl _ _⟩
  have hfour := four_of B f (by omega)
  obtain ⟨a, ha⟩ : ∃ a, B.getD f 0 = a := ⟨_, rfl⟩
  obtain ⟨b, hb⟩ : ∃ b, B.getD (f + 1) 0 = b := ⟨_, rfl⟩
  obtain ⟨c, hc⟩ : ∃ c, B.getD (f + 1 + 1) 0 = c := ⟨_, rfl⟩
  obtain ⟨d, hd⟩ : ∃ d, B.getD (f + 1 + 1 + 1) 0 = d := ⟨_, rfl⟩
  have e1 : shA B f = a + 256 * b := by unfold shA; rw [ha, hb]
  have e2 : shA B (f + 2) = c + 256 * d := by
    unfold shA
    rw [← hc, ← hd]
  have la := getD_lt hB f
  have lb := getD_lt hB (f + 1)
  have lc := getD_lt hB (f + 1 + 1)
  have ld := getD_lt hB (f + 1 + 1 + 1)
  rw [ha] at la
  rw [hb] at lb
  rw [hc] at lc
  rw [hd] at ld
  rw [ha, hb, hc, hd] at hfour
  by_cases hok : a + 256 * b + (c + 256 * d) = 65535 ∧ (sd.length : Int) + ((a + 256 * b : Nat) : Int) ≤ most ∧ f + 4 + (a + 256 * b) ≤ B.length
  · obtain ⟨o1, o2, o3⟩ := hok
    have em : stoA B p sd most = (0, 8 * (f + 4 + (a + 256 * b)), sd ++ (B.drop (f + 4)).take (a + 256 * b)) := by
      unfold stoA
      rw [← hf, if_neg h4, e1, e2, if_neg (by omega), if_neg (by omega), if_neg (by omega)]
    rw [em]
    refine (stored_good fb rb g p f a b c d B sd _ most sv lt ds w h hB hp hl hf hfour o1 rfl o3 o2 hm2 hsd).mono ?_
    rintro e w1 ⟨rfl, v1, hI1, hF1⟩
    exact ⟨rfl, ⟨v1, hI1.sdIs, fun _ => hI1⟩, hF1⟩
  have H4 := ibytes_good fb rb g p 4 f B sd most sv lt ds w h hp (by omega) hf (by omega)
  rw [hfour] at H4
  have HS1 : ∀ w, Calls Tryd.prog 50 #[.int .u8 (a : Int), .int .u8 (b : Int)] w fun e w' => e = .returned (.int .i64 ((a + 256 * b : Nat) : Int)) ∧ w' = w := fun w => short_any a b w la lb
  have HS2 : ∀ w, Calls Tryd.prog 50 #[.int .u8 (c : Int), .int .u8 (d : Int)] w fun e w' => e = .returned (.int .i64 ((c + 256 * d : Nat) : Int)) ∧ w' = w := fun w => short_any c d w lc ld
  have HST : stoA B p sd most = if a + 256 * b + (c + 256 * d) ≠ 65535 then (30, p, sd) else if most - (sd.length : Int) < ((a + 256 * b : Nat) : Int) then (3, p, sd) else (33, p, sd) := by
    unfold stoA
    rw [← hf, if_neg h4, e1, e2]
    split
    · rfl
    · split
      · rfl
      · rw [if_pos (by omega)]
  obtain ⟨n, hn⟩ : ∃ n, a + 256 * b = n := ⟨_, rfl⟩
  obtain ⟨m, hm'⟩ : ∃ m, c + 256 * d = m := ⟨_, rfl⟩
  rw [hn, hm'] at hok HST
  rw [hn] at HS1
  rw [hm'] at HS2
  have hnm : n ≤ 65535 ∧ m ≤ 65535 := by omega
  have HXo : bits .xor .i64 (n : Int) (m : Int) = ((n ^^^ m : Nat) : Int) := i64_xor_nat _ _ (by omega) (by omega)
  have HXn : n ^^^ m = 65535 → n + m = 65535 := xor_iff n m (by omega)
  have HXm : n + m = 65535 → n ^^^ m = 65535 := fun e => by rw [show m = 65535 - n by omega]; exact xor_compl n (by omega)
  obtain ⟨x, hx⟩ : ∃ x, n ^^^ m = x := ⟨_, rfl⟩
  rw [hx] at HXo HXn HXm
  have HH1 : Hid _ := HS1
  have HH2 : Hid _ := HS2
  have HSt : Hid _ := HST
  have HOk : Hid _ := hok
  have HFp : Hid (f = (p + 7) / 8) := hf
  clear hn hm' HS1 HS2 HST hfour ha hb hc hd e1 e2 hok hx h hf
  go_enter Tryd.func36, Tryd.ntmps36
  go_wp2_with fail
  refine H4.mono ?_
  rintro e w1 ⟨v, rfl, hown, hI1, hF1⟩
  obtain ⟨g4, cap4, rfl, hg4, hg4l, t0, t1, t2, t3⟩ := four_cells hown
  have HI1 : Hid (InfIs w1 fb rb g B (8 * (f + 4)) most sv sd lt ds) := hI1
  have HF1 : Hid _ := hF1
  have d0 : w1.drew.cell? ⟨g4, 0, none⟩ = some (.int .u8 (a : Int)) := t0
  have d1 : w1.drew.cell? ⟨g4, 1, none⟩ = some (.int .u8 (b : Int)) := t1
  have d2 : w1.drew.cell? ⟨g4, 2, none⟩ = some (.int .u8 (c : Int)) := t2
  have d3 : w1.drew.cell? ⟨g4, 3, none⟩ = some (.int .u8 (d : Int)) := t3
  clear hown hI1 H4 hF1
  go_wp2_with fail
  go_region_held3 (fun w' => w'.cell? ⟨g4, 0, none⟩ = some (.int .u8 (a : Int)) ∧ w'.cell? ⟨g4, 1, none⟩ = some (.int .u8 (b : Int)) ∧ w'.cell? ⟨g4, 2, none⟩ = some (.int .u8 (c : Int)) ∧ w'.cell? ⟨g4, 3, none⟩ = some (.int .u8 (d : Int)))
    (exact ⟨d0, d1, d2, d3⟩)
    (first | (go_at_call_of 50 (Value.int IntKind.u8 (a : Int)); refine (HH1.out _).mono ?_; rintro e w' ⟨rfl, rfl⟩) | (go_at_call_of 50 (Value.int IntKind.u8 (c : Int)); refine (HH2.out _).mono ?_; rintro e w' ⟨rfl, rfl⟩))
  have HID : Hid (InfIs w1.drew fb rb g B (8 * (f + 4)) most sv sd lt ds) := HI1.out.keep (Fr.refl noB w1).drew id id id (fun _ _ _ _ h => h)
  have HFd : Hid (Fr (iS w fb rb) w w1.drew) := HF1.out.toI.drew
  clear d0 d1 d2 d3 t0 t1 t2 t3
  by_cases hx : x = 65535
  case neg =>
    have em : stoA B p sd most = (30, p, sd) := by rw [HSt.out, if_pos (fun e => hx (HXm e))]
    have EM : Hid _ := em
    have hx' : ¬ (x : Int) = 65535 := by omega
    clear em
    go_wp2_with fail
    go_ret
    rw [EM.out]
    exact ⟨rfl, ⟨sv, HID.out.sdIs, fun e => absurd e (by simp only; decide)⟩, HFd.out⟩
  subst hx
  have hsum := HXn rfl
  have HRm := room_any' fb rb g (8 * (f + 4)) B sd most sv lt ds w1.drew HID.out (by omega) (by omega) (by omega)
  obtain ⟨q, hq⟩ : ∃ q, sd.length = q := ⟨_, rfl⟩
  have HQ : Hid (sd.length = q) := hq
  rw [hq] at HRm hsd
  clear hq
  go_wp2_with fail
  refine HRm.mono ?_
  rintro e w2 ⟨rfl, hI2, hF2⟩
  have HI2 : Hid (InfIs w2 fb rb g B (8 * (f + 4)) most sv sd lt ds) := hI2
  have HF2 : Hid (Fr (iS w fb rb) w w2) := HFd.out.trans hF2.weak
  clear hI2 hF2 HRm
  by_cases hlg : most - (q : Int) < (n : Int)
  · have em : stoA B p sd most = (3, p, sd) := by rw [HSt.out, if_neg (fun e => e hsum), if_pos (by rw [HQ.out]; exact hlg)]
    have EM : Hid _ := em
    clear em
    go_wp2_with fail
    go_ret
    rw [EM.out]
    exact ⟨rfl, ⟨sv, HI2.out.sdIs, fun e => absurd e (by simp only; decide)⟩, HF2.out⟩
  have em : stoA B p sd most = (33, p, sd) := by rw [HSt.out, if_neg (fun e => e hsum), if_neg (by rw [HQ.out]; exact hlg)]
  have EM : Hid _ := em
  have hend : B.length < f + 4 + n := by
    rcases Nat.lt_or_ge B.length (f + 4 + n) with h' | h'
    · exact h'
    · exact absurd ⟨hsum, by have := HQ.out; omega, h'⟩ HOk.out
  have HBy := ibytes_ends fb rb g (8 * (f + 4)) n B sd most sv lt ds w2 HI2.out (by omega) (by omega) (by omega)
  have i4 : (n : Int) ≤ most - (q : Int) := by omega
  clear em
  go_wp2_with fail
  refine HBy.mono ?_
  rintro e w3 ⟨rfl, rfl⟩
  go_wp2_with fail
  go_ret
  rw [EM.out]
  exact ⟨rfl, ⟨sv, HI2.out.sdIs, fun e => absurd e (by simp only; decide)⟩, HF2.out⟩
#print axioms stored_any'
end Go.Proofs.YthgnhcdodfildaaDoor
/- newDecoders, repeatSpan, repetition: their contracts. -/
namespace Go.Proofs.YthgnhcdodfildaaDoor
open Go.RowKit Go.Shelf
attribute [local go_sem ↓] Go.wp_at_zero Go.wp_at_succ

theorem two_cells {w : World} {b : Nat} {x y : Value} {t : TypeId} (h : w.heap[b]? = some (.cells #[x, y] t (0, 0))) (u v : Value) : ((w.setCell ⟨b, 0, none⟩ u).setCell ⟨b, 1, none⟩ v).heap[b]? = some (.cells #[u, v] t (0, 0)) := setOf 1 v (setOf 0 u h)
theorem two_fr {S : Nat → Prop} {a w : World} {b : Nat} (h : Fr S a w) (hb : a.heap.size ≤ b) (u v : Value) : Fr S a ((w.setCell ⟨b, 0, none⟩ u).setCell ⟨b, 1, none⟩ v) := (h.setCell ⟨b, 0, none⟩ (Or.inr hb) u).setCell ⟨b, 1, none⟩ (Or.inr hb) v
set_option maxRecDepth 100000 in
set_option maxHeartbeats 1600000 in
theorem newDecs_bad (v1 v2 : Value) (L1 L2 : List Int) (w : World) (h1 : Ns .i64 w v1 L1) (h2 : Ns .i64 w v2 L2) (hc : chk L1 ≠ 0 ∨ chk L2 ≠ 0) :
    Calls Tryd.prog 52 #[v1, v2] w fun e w' => e = .returned (.tuple #[.agg #[.pointer none, .pointer none], .int .i64 31]) ∧ Fr noB w w' := by
  have a0 := heap_alloc_new w (.cells #[.pointer none, .pointer none] 48 (0, 0))
  have hF0 : Fr noB w (w.alloc (.cells #[.pointer none, .pointer none] 48 (0, 0))) := (Fr.refl noB w).alloc _
  by_cases hc1 : chk L1 = 0
  · have hc2 : chk L2 ≠ 0 := by rcases hc with h | h; exact absurd hc1 h; exact h
    obtain ⟨M, rfl, hM⟩ := code_of L1 hc1
    have C1 := newDec_good v1 M _ (h1.keep hF0) hM
    have HC2 : Hid (∀ w', Fr noB w w' → Calls Tryd.prog 75 #[v2] w' fun e w'' => e = .returned (.tuple #[.pointer none, .int .i64 (chk L2)]) ∧ Fr noB w' w'') := fun w' hF => newDec_bad v2 L2 w' (h2.keep hF) hc2
    have hb2 : (chk L2 == 0) = false := by simpa using hc2
    have hb3 : (chk L2 != 0) = true := by simpa using hc2
    generalize chk L2 = c2 at *
    clear hc hc1 h1 h2
    go_enter Tryd.func52, Tryd.ntmps52
    go_wp2_with (first
      | (go_at_call 75; with_reducible refine C1.mono ?_; rintro e w1 ⟨db, sb, rfl, g1, g2, g3, g4, hF1⟩; have hG1 := hF0.trans hF1; have a1 := hF1.obj a0 id)
      | (go_at_call 75; with_reducible refine (HC2.out _ hG1).mono ?_; rintro e w2 ⟨rfl, hF2⟩; have a2 := hF2.obj a1 id; have c0 := cellOf (o := 0) a2 rfl; have c1 := cellOf (o := 1) a2 rfl; have f0 := freeOf 0 a2; have f1 := freeOf 1 a2))
    have p := two_cells a2 (.pointer none) (.pointer none)
    have hFW := two_fr (hG1.trans hF2) (Nat.le_refl w.heap.size) (.pointer none) (.pointer none)
    have p0 := cellOf (o := 0) p rfl
    have p1 := cellOf (o := 1) p rfl
    refine bodyPost_ret ?_ rfl ⟨rfl, hFW⟩
    simp [results, Tryd.results52, go_sem, p0, p1]
  · have C1 := newDec_bad v1 L1 _ (h1.keep hF0) hc1
    have hb2 : (chk L1 == 0) = false := by simpa using hc1
    have hb3 : (chk L1 != 0) = true := by simpa using hc1
    generalize chk L1 = c1 at *
    clear hc hc1 h1 h2
    go_enter Tryd.func52, Tryd.ntmps52
    go_wp2_with (go_at_call 75; refine C1.mono ?_; rintro e w1 ⟨rfl, hF1⟩; have a1 := hF1.obj a0 id; have c0 := cellOf (o := 0) a1 rfl; have c1' := cellOf (o := 1) a1 rfl; have f0 := freeOf 0 a1; have f1 := freeOf 1 a1)
    have p := two_cells a1 (.pointer none) (.pointer none)
    have hFW := two_fr (hF0.trans hF1) (Nat.le_refl w.heap.size) (.pointer none) (.pointer none)
    have p0 := cellOf (o := 0) p rfl
    have p1 := cellOf (o := 1) p rfl
    refine bodyPost_ret ?_ rfl ⟨rfl, hFW⟩
    simp [results, Tryd.results52, go_sem, p0, p1]
set_option maxRecDepth 100000 in
set_option maxHeartbeats 1600000 in
theorem newDecs_good (v1 v2 : Value) (M N : List Nat) (w : World) (h1 : Ns .i64 w v1 (up M)) (h2 : Ns .i64 w v2 (up N)) (hM : Code M) (hN : Code N) :
    Calls Tryd.prog 52 #[v1, v2] w fun e w' => ∃ d1 s1 d2 s2, e = .returned (.tuple #[.agg #[.pointer (some ⟨d1, 0, none⟩), .pointer (some ⟨d2, 0, none⟩)], .int .i64 0]) ∧ w.heap.size ≤ d1 ∧ w.heap.size ≤ s1 ∧ w.heap.size ≤ d2 ∧ w.heap.size ≤ s2 ∧ DecIs w' d1 s1 M ∧ DecIs w' d2 s2 N ∧ Fr noB w w' := by
  have a0 := heap_alloc_new w (.cells #[.pointer none, .pointer none] 48 (0, 0))
  have hF0 : Fr noB w (w.alloc (.cells #[.pointer none, .pointer none] 48 (0, 0))) := (Fr.refl noB w).alloc _
  have C1 := newDec_good v1 M _ (h1.keep hF0) hM
  have HC2 : Hid (∀ w', Fr noB w w' → Calls Tryd.prog 75 #[v2] w' fun e w'' => ∃ db sb, e = .returned (.tuple #[.pointer (some ⟨db, 0, none⟩), .int .i64 0]) ∧ w'.heap.size ≤ db ∧ w'.heap.size ≤ sb ∧ db ≠ sb ∧ DecIs w'' db sb N ∧ Fr noB w' w'') := fun w' hF => newDec_good v2 N w' (h2.keep hF) hN
  clear h1 h2
  go_enter Tryd.func52, Tryd.ntmps52
  go_upto_region 4 with (go_at_call 75; refine C1.mono ?_; rintro e w1 ⟨d1, s1, rfl, g1, g2, g3, g4, hF1⟩; have hG1 := hF0.trans hF1; have a1 := hF1.obj a0 id)
  have C2 := HC2.out _ hG1
  clear HC2 C1
  go_wp2_with (go_at_call 75; refine C2.mono ?_; rintro e w2 ⟨d2, s2, rfl, k1, k2, k3, k4, hF2⟩; have a2 := hF2.obj a1 id; have c0 := cellOf (o := 0) a2 rfl; have c1 := cellOf (o := 1) a2 rfl; have f0 := freeOf 0 a2; have f1 := freeOf 1 a2)
  simp only [World.size_alloc] at g1 g2
  have z1 := hG1.size
  have z2 := hF1.size
  simp only [World.size_alloc] at z2
  have p := two_cells a2 (.pointer (some ⟨d1, 0, none⟩)) (.pointer (some ⟨d2, 0, none⟩))
  have hFW := two_fr (hG1.trans hF2) (Nat.le_refl w.heap.size) (.pointer (some ⟨d1, 0, none⟩)) (.pointer (some ⟨d2, 0, none⟩))
  have hone : Fr (oneB w.heap.size) w2 ((w2.setCell ⟨w.heap.size, 0, none⟩ (.pointer (some ⟨d1, 0, none⟩))).setCell ⟨w.heap.size, 1, none⟩ (.pointer (some ⟨d2, 0, none⟩))) := ((Fr.refl _ w2).setOne 0 _).setOne 1 _
  have q1 := (g4.keep hF2 id id).keep hone (fun e => by have e' : d1 = w.heap.size := e; omega) (fun e => by have e' : s1 = w.heap.size := e; omega)
  have q2 := k4.keep hone (fun e => by have e' : d2 = w.heap.size := e; omega) (fun e => by have e' : s2 = w.heap.size := e; omega)
  have p0 := cellOf (o := 0) p rfl
  have p1 := cellOf (o := 1) p rfl
  refine bodyPost_ret ?_ rfl ⟨d1, s1, d2, s2, rfl, by omega, by omega, by omega, by omega, q1, q2, hFW⟩
  simp [results, Tryd.results52, go_sem, p0, p1]
/-- How often a symbol of the code of lengths repeats something. -/
def repF (s : Nat) : Nat := if s = 16 then 3 else if s = 17 then 3 else 11
def repB (s : Nat) : Nat := if s = 16 then 2 else if s = 17 then 3 else 7
set_option maxRecDepth 100000 in
set_option maxHeartbeats 1600000 in
theorem repeatSpan_any (s : Nat) (w : World) : Calls Tryd.prog 95 #[.int .i64 (s : Int)] w fun e w' => e = .returned (.agg #[.int .i64 ((repF s : Nat) : Int), .int .i64 ((repB s : Nat) : Int)]) ∧ Fr noB w w' := by
  by_cases h16 : s = 16
  · subst h16
    go_enter Tryd.func95, Tryd.ntmps95
    go_wp2_with fail
    refine bodyPost_ret ?_ rfl ⟨rfl, (Fr.refl noB w).alloc _⟩
    simp [results, Tryd.results95, go_sem, repF, repB]
  by_cases h17 : s = 17
  · subst h17
    go_enter Tryd.func95, Tryd.ntmps95
    go_wp2_with fail
    refine bodyPost_ret ?_ rfl ⟨rfl, (Fr.refl noB w).alloc _⟩
    simp [results, Tryd.results95, go_sem, repF, repB]
  · have e1 : ((s : Int) == 16) = false := by simp; omega
    have e2 : ((s : Int) == 17) = false := by simp; omega
    have r1 : repF s = 11 := by simp [repF, h16, h17]
    have r2 : repB s = 7 := by simp [repB, h16, h17]
    rw [r1, r2]
    go_enter Tryd.func95, Tryd.ntmps95
    go_wp2_with fail
    refine bodyPost_ret ?_ rfl ⟨rfl, (Fr.refl noB w).alloc _⟩
    simp [results, Tryd.results95, go_sem]
#print axioms newDecs_good
end Go.Proofs.YthgnhcdodfildaaDoor
