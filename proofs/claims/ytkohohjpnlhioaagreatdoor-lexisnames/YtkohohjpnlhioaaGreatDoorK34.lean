/- Lexis' reader: a sign. -/
import Derived.Test.YtkohohjpnlhioaaGreatDoorK32
import Derived.Test.YtkohohjpnlhioaaGreatDoorREnd
import Derived.Laws.Rows
import Derived.Test.YtkohohjpnlhioaaGreatDoorK28
namespace Go.Proofs.YtkohohjpnlhioaaGreatDoor
open Go.RowKit Go.Shelf

/-- The signs, in the table's order. -/
def sgnL : List ByteArray := [⟨#[40]⟩, ⟨#[41]⟩, ⟨#[123]⟩, ⟨#[125]⟩, ⟨#[59]⟩, ⟨#[124]⟩, ⟨#[126]⟩, ⟨#[33]⟩, ⟨#[94]⟩, ⟨#[42]⟩, ⟨#[47]⟩, ⟨#[43]⟩, ⟨#[45]⟩, ⟨#[38]⟩, ⟨#[61]⟩, ⟨#[60, 62]⟩, ⟨#[60]⟩, ⟨#[60, 61]⟩, ⟨#[62]⟩, ⟨#[62, 61]⟩, ⟨#[37]⟩]
def sg (i : Nat) : ByteArray := sgnL.getD i ⟨#[]⟩
/-- The table of signs lies in its block. -/
def STab (w : World) : Prop := ∃ fr, w.heap[2]? = some (.cells #[.string ⟨#[40]⟩, .string ⟨#[41]⟩, .string ⟨#[123]⟩, .string ⟨#[125]⟩, .string ⟨#[59]⟩, .string ⟨#[124]⟩, .string ⟨#[126]⟩, .string ⟨#[33]⟩, .string ⟨#[94]⟩, .string ⟨#[42]⟩, .string ⟨#[47]⟩, .string ⟨#[43]⟩, .string ⟨#[45]⟩, .string ⟨#[38]⟩, .string ⟨#[61]⟩, .string ⟨#[60, 62]⟩, .string ⟨#[60]⟩, .string ⟨#[60, 61]⟩, .string ⟨#[62]⟩, .string ⟨#[62, 61]⟩, .string ⟨#[37]⟩] 87 fr)
theorem STab.fr {S : Nat → Prop} {w w' : World} (h : STab w) (hF : Fr S w w') (hS : ¬ S 2) : STab w' := by
  obtain ⟨f, e⟩ := h
  exact ⟨f, hF.obj e hS⟩
theorem info_arr21 : (Tryz.prog.info? 87).map (·.size) = some 21 := by kernel_rfl
theorem idx21 (i : Nat) (hi : i < 21) (w : World) : (Instr.index 87 (.agg #[.string ⟨#[40]⟩, .string ⟨#[41]⟩, .string ⟨#[123]⟩, .string ⟨#[125]⟩, .string ⟨#[59]⟩, .string ⟨#[124]⟩, .string ⟨#[126]⟩, .string ⟨#[33]⟩, .string ⟨#[94]⟩, .string ⟨#[42]⟩, .string ⟨#[47]⟩, .string ⟨#[43]⟩, .string ⟨#[45]⟩, .string ⟨#[38]⟩, .string ⟨#[61]⟩, .string ⟨#[60, 62]⟩, .string ⟨#[60]⟩, .string ⟨#[60, 61]⟩, .string ⟨#[62]⟩, .string ⟨#[62, 61]⟩, .string ⟨#[37]⟩]) (.int .i64 (i : Int))).run Tryz.prog w = .ok (.string (sg i)) w := by
  obtain rfl | rfl | rfl | rfl | rfl | rfl | rfl | rfl | rfl | rfl | rfl | rfl | rfl | rfl | rfl | rfl | rfl | rfl | rfl | rfl | rfl : i = 0 ∨ i = 1 ∨ i = 2 ∨ i = 3 ∨ i = 4 ∨ i = 5 ∨ i = 6 ∨ i = 7 ∨ i = 8 ∨ i = 9 ∨ i = 10 ∨ i = 11 ∨ i = 12 ∨ i = 13 ∨ i = 14 ∨ i = 15 ∨ i = 16 ∨ i = 17 ∨ i = 18 ∨ i = 19 ∨ i = 20 := by omega
  all_goals kernel_rfl
theorem sg_size (i : Nat) (hi : i < 21) : (sg i).size ≤ 2 := by
  obtain rfl | rfl | rfl | rfl | rfl | rfl | rfl | rfl | rfl | rfl | rfl | rfl | rfl | rfl | rfl | rfl | rfl | rfl | rfl | rfl | rfl : i = 0 ∨ i = 1 ∨ i = 2 ∨ i = 3 ∨ i = 4 ∨ i = 5 ∨ i = 6 ∨ i = 7 ∨ i = 8 ∨ i = 9 ∨ i = 10 ∨ i = 11 ∨ i = 12 ∨ i = 13 ∨ i = 14 ∨ i = 15 ∨ i = 16 ∨ i = 17 ∨ i = 18 ∨ i = 19 ∨ i = 20 := by omega
  all_goals decide
/-- What the walk over the signs wants of the table. -/
theorem sign_tab (w : World) (h : STab w) : ∃ (CS : Array Value) (fr : Nat × Nat), w.heap[2]? = some (.cells CS 87 fr) ∧ (Tryz.prog.info? 87).map (·.size) = some CS.size ∧ ∀ (i : Nat), i < 21 → ∀ W : World, (Instr.index 87 (.agg CS) (.int .i64 (i : Int))).run Tryz.prog W = .ok (.string (sg i)) W := by
  obtain ⟨f, e⟩ := h
  exact ⟨_, f, e, info_arr21, fun i hi W => idx21 i hi W⟩
/-- Stands a text there? -/
def stB (s : ByteArray) (p : Nat) (t : ByteArray) : Bool := Lib.hasPrefix (s.extract p s.size).data.toList t.data.toList
set_option maxRecDepth 100000 in
theorem starts_lx (rb : Nat) (s t : ByteArray) (p : Nat) (w : World) (h : LAt w rb s p) (hp : p ≤ s.size) :
    Calls Tryz.prog 104 #[.pointer (some ⟨rb, 0, none⟩), .string t] w fun e w' => e = .returned (.bool (stB s p t)) ∧ Fr noB w w' := by
  have d0 := h.c0; have d1 := h.c1
  have HP := hasPre_any (s.extract p s.size) t
  obtain ⟨B, hB⟩ : ∃ B, stB s p t = B := ⟨_, rfl⟩
  have hB2 := hB
  unfold stB at hB2
  rw [hB2] at HP
  rw [hB]
  clear h hB hB2
  go_enter Tryz.func104, Tryz.ntmps104
  go_wp2_with fail
  go_quiet ((go_at_call 83; exact Calls.quiet_of_same (HP _)))
  go_wp2_with fail
  go_ret
  exact ⟨rfl, (Fr.refl noB w).drewN _⟩
/-- The longest of the first signs that stands there. -/
def lsg (s : ByteArray) (p : Nat) : Nat → ByteArray
  | 0 => ⟨#[]⟩
  | i + 1 => if (lsg s p i).size < (sg i).size ∧ stB s p (sg i) = true then sg i else lsg s p i
theorem lsg_size (s : ByteArray) (p : Nat) : ∀ i, i ≤ 21 → (lsg s p i).size ≤ 2
  | 0, _ => by rw [lsg]; decide
  | i + 1, h => by
    rw [lsg]
    split
    · exact sg_size i (by omega)
    · exact lsg_size s p i (by omega)
set_option maxRecDepth 100000 in
set_option maxHeartbeats 2000000 in
theorem sign_lx (rb : Nat) (s : ByteArray) (p : Nat) (w : World) (h : LAt w rb s p) (hS : STab w) (hp : p ≤ s.size) (hz : s.size ≤ 140737488355328) (hfit : p + (lsg s p 21).size ≤ s.size) :
    Calls Tryz.prog 76 #[.pointer (some ⟨rb, 0, none⟩)] w fun e w' => e = .returned (if (lsg s p 21).size = 0 then .tuple #[.string ⟨#[]⟩, .int .i64 120] else .tuple #[.string (lsg s p 21), .int .i64 0]) ∧ LAt w' rb s (p + (lsg s p 21).size) ∧ Fr (oneB rb) w w' := by
  obtain ⟨CS, fz, hblk, hinf, hI⟩ := sign_tab w hS
  have HST : Hid (∀ (t : ByteArray) (W : World), LAt W rb s p → Calls Tryz.prog 104 #[.pointer (some ⟨rb, 0, none⟩), .string t] W fun e w' => e = .returned (.bool (stB s p t)) ∧ Fr noB W w') := fun t W hW => starts_lx rb s t p W hW hp
  have HH : Hid _ := h
  obtain ⟨L, hL0, HLs, HLz⟩ : ∃ L : Nat → ByteArray, L = lsg s p ∧ Hid (∀ i, L (i + 1) = if (L i).size < (sg i).size ∧ stB s p (sg i) = true then sg i else L i) ∧ Hid (∀ i, i ≤ 21 → (L i).size ≤ 2) := ⟨lsg s p, rfl, fun i => rfl, lsg_size s p⟩
  have HL0 : Hid (L 0 = ⟨#[]⟩) := by
    show L 0 = _
    rw [hL0]
    rfl
  rw [← hL0] at hfit ⊢
  clear hL0
  obtain ⟨R, hR⟩ : ∃ R, L 21 = R := ⟨_, rfl⟩
  have HR : Hid (L 21 = R) := hR
  rw [hR] at hfit ⊢
  have HGz : Hid (∀ i, i < 21 → (sg i).size ≤ 2) := sg_size
  generalize sg = G at *
  generalize stB s p = B at *
  clear h hS hR
  go_enter Tryz.func76, Tryz.ntmps76
  go_wp2_with (refine wpList_load_row rfl 87 (.global 2) rfl 2 rfl 87 CS fz _ hblk Tryz.underlying87 rfl hinf ?_)
  clear hblk hinf
  go_loopw [4, 8] (fun lv iv wr => ∃ i : Nat, lv = .string (L i) ∧ iv = .int .i64 (i : Int) ∧ i ≤ 21 ∧ Hid (Fr noB w wr)) (fun _ iv _ => 21 - (intOf iv).toNat)
  case atStart => exact ⟨0, by rw [HL0.out], rfl, by omega, Fr.refl _ _⟩
  case round =>
    obtain ⟨i, rfl, rfl, hi, HF⟩ := hrel
    by_cases hlt : i < 21
    · have hL := HH.out.fr HF.out id
      have hx := fun W => hI i hlt W
      have hsz := HLz.out i hi
      have hsg := HGz.out i hlt
      have HN : Hid _ := HLs.out i
      have HS1 := HST.out (G i) wr hL
      clear HLs HLz HGz HL0
      generalize L i = A at *
      generalize G i = T at *
      clear hI
      by_cases hln : A.size < T.size
      · have hln2 : (A.size : Int) < (T.size : Int) := by omega
        cases hb : B T with
        | true =>
          rw [hb] at HS1
          have HV : Hid (L (i + 1) = T) := by
            show L (i + 1) = T
            rw [HN.out, if_pos ⟨hln, hb⟩]
          clear hb HN
          go_wp2_with (go_at_call 104; refine HS1.mono ?_; rintro e w1 ⟨rfl, hF1⟩)
          go_roundw
          case rel => exact ⟨i + 1, by rw [HV.out], by go_num, by omega, HF.out.trans hF1⟩
          case measure => simp [intOf]; omega
        | false =>
          rw [hb] at HS1
          have HV : Hid (L (i + 1) = A) := by
            show L (i + 1) = A
            rw [HN.out, if_neg (by rw [hb]; simp)]
          clear hb HN
          go_wp2_with (go_at_call 104; refine HS1.mono ?_; rintro e w1 ⟨rfl, hF1⟩)
          go_roundw
          case rel => exact ⟨i + 1, by rw [HV.out], by go_num, by omega, HF.out.trans hF1⟩
          case measure => simp [intOf]; omega
      · have hln2 : ¬ (A.size : Int) < (T.size : Int) := by omega
        have HV : Hid (L (i + 1) = A) := by
          show L (i + 1) = A
          rw [HN.out, if_neg (fun e => hln e.1)]
        clear HN
        go_wp2_with fail
        go_roundw
        case rel => exact ⟨i + 1, by rw [HV.out], by go_num, by omega, HF⟩
        case measure => simp [intOf]; omega
    · have hi2 : i = 21 := by omega
      subst hi2
      rw [HR.out]
      have hL := HH.out.fr HF.out id
      have d1 := hL.c1; have df := hL.f
      by_cases h0 : R.size = 0
      · have he := emp_yes R h0
        clear HLs HLz HGz HL0
        go_wp2_with fail
        go_ret2
        exact ⟨rfl, hL, HF.out.weak⟩
      · have he := emp_no R (by omega)
        have hR2 : R.size ≤ 2 := by rw [← HR.out]; exact HLz.out 21 (by omega)
        clear HLs HLz HGz HL0
        go_wp2_with fail
        go_ret2
        exact ⟨rfl, hL.s1 (p + R.size), HF.out.weak.setOne _ _⟩
#print axioms sign_lx
end Go.Proofs.YtkohohjpnlhioaaGreatDoor
/- Lexis' reader: a whole number. -/
namespace Go.Proofs.YtkohohjpnlhioaaGreatDoor
open Go.RowKit Go.Shelf

set_option maxRecDepth 100000 in
set_option maxHeartbeats 4000000 in
theorem number_lx (rb : Nat) (s : ByteArray) (p : Nat) (x : Nat) (w : World) (h : LAt w rb s p) (hT : Tabs w) (hrb : ∀ W, Fr (oneB rb) w W → Tabs W) (hp : p ≤ s.size) (hz : s.size ≤ 140737488355328)
    (hpt : ptI (lkR s (endL dgI s p)) = false) (hpw : pwI (lkR s (endL dgI s p)) = false) (hin : inI (lkR s (endL dgI s p)) = false)
    (HPR : ∀ W, Fr (oneB rb) w W → Calls Tryz.prog 107 #[.string (s.extract p (endL dgI s p))] W fun e w' => e = .returned (.tuple #[.float .f64 x, .int .i64 0]) ∧ Fr noB W w') :
    Calls Tryz.prog 77 #[.pointer (some ⟨rb, 0, none⟩)] w fun e w' => e = .returned (.tuple #[.float .f64 x, .int .i64 0]) ∧ LAt w' rb s (endL dgI s p) ∧ Fr (oneB rb) w w' := by
  have d1 := h.c1
  obtain ⟨E, hE⟩ : ∃ E, endL dgI s p = E := ⟨_, rfl⟩
  rw [hE] at hpt hpw hin HPR ⊢
  obtain ⟨N, hN⟩ : ∃ N, s.extract p E = N := ⟨_, rfl⟩
  rw [hN] at HPR
  have HP : Hid _ := HPR
  have HH : Hid _ := h
  have HE0 : Hid _ := hE
  have HRB : Hid _ := hrb
  clear h hE hrb HPR
  go_enter Tryz.func77, Tryz.ntmps77
  go_wp2_with fail
  refine wp_scope_goes (fun l a W => (l = 0 ∧ ∃ (k : Nat) (x11 x12 x13 : Value), a = { tmps := #[.pointer (some ⟨rb, 0, none⟩), undef, .float .f64 0, .int .i64 0, .int .i64 (p : Int), undef, undef, .pointer (some ⟨rb, 0, none⟩), .pointer (some ⟨rb, 0, none⟩), .pointer (some ⟨rb, 1, none⟩), .int .i64 (p : Int), x11, x12, x13, undef, undef, undef, undef, undef, undef, undef, undef, undef, undef, undef, undef, undef, undef, undef, undef, undef, undef, undef, undef, undef, undef, undef, undef, undef, undef, undef, undef, undef, undef, undef, undef, undef, undef, undef, undef, undef, undef, undef, undef, undef, undef], defers := [] } ∧ LAt W rb s k ∧ k ≤ s.size ∧ p ≤ k ∧ Hid (endL dgI s k = E) ∧ Hid (Fr (oneB rb) w W)) ∨ (l = 3 ∧ a = { tmps := #[.pointer (some ⟨rb, 0, none⟩), undef, .float .f64 0, .int .i64 0, .int .i64 (p : Int), undef, undef, .pointer (some ⟨rb, 0, none⟩), .pointer (some ⟨rb, 0, none⟩), .pointer (some ⟨rb, 1, none⟩), .int .i64 (p : Int), .bool false, .pointer (some ⟨rb, 0, none⟩), .bool false, .bool false, .pointer (some ⟨rb, 0, none⟩), .bool false, .bool false, .pointer (some ⟨rb, 0, none⟩), .bool false, undef, undef, undef, undef, undef, undef, undef, undef, undef, undef, undef, undef, undef, undef, undef, undef, undef, undef, undef, undef, undef, undef, undef, undef, undef, undef, undef, undef, undef, undef, undef, undef, undef, undef, undef, undef], defers := [] } ∧ LAt W rb s E ∧ E ≤ s.size ∧ p ≤ E ∧ Hid (Fr (oneB rb) w W))) (fun l _ W => if l = 3 then 0 else 1 + (s.size - posL W rb)) ?_ ?_
  · go_wp2_with fail
    go_step3
    obtain ⟨k, HKP⟩ : ∃ k, Hid (k = p) := ⟨p, rfl⟩
    have HE : Hid (endL dgI s k = E) := by
      show endL dgI s k = E
      rw [HKP.out]
      exact HE0.out
    have hks : k ≤ s.size := by rw [HKP.out]; exact hp
    have hL : LAt w rb s k := by rw [HKP.out]; exact HH.out
    have hTW : Tabs w := hT
    have HF : Hid (Fr (oneB rb) w w) := Fr.refl _ _
    have hpk : p ≤ k := Nat.le_of_eq HKP.out.symm
    cases hk : dgI (lkR s k) with
    | true =>
      have hkl := lk_end dgI rfl s k hk
      have hst := (endL_step dgI s k hkl hk).symm.trans HE.out
      have hn := lkN_pos s k hkl
      have hle := lkN_le s k hks
      have HSK := lxskip 46 dgI (fun _ _ => rfl) isDigit_lx rb s k w hL hTW hks hz
      rw [hk, show lkP dgI s k = k + lkN s k by unfold lkP; rw [if_pos hk]] at HSK
      generalize lkN s k = M at *
      clear hk
      go_wp2_with (go_at_call 73; refine HSK.mono ?_; rintro e w1 ⟨rfl, hL1, hF1⟩)
      go_step3
      exact Or.inl ⟨rfl, k + M, _, _, _, rfl, hL1, by omega, by omega, hst, HF.out.trans hF1⟩
    | false =>
      have hE : E = k := by rw [← HE.out]; exact endL_stop dgI s k (fun e => by rw [hk] at e; cases e.2)
      subst hE
      have HS1 := lxskip 46 dgI (fun _ _ => rfl) isDigit_lx rb s E w hL hTW hks hz
      rw [hk, show lkP dgI s E = E by unfold lkP; rw [if_neg (by rw [hk]; simp)]] at HS1
      have HS2 : Hid (∀ W2, Fr (oneB rb) w W2 → LAt W2 rb s E → Calls Tryz.prog 73 #[.pointer (some ⟨rb, 0, none⟩), .func (.func 47) #[] #[]] W2 fun e w' => e = .returned (.bool false) ∧ LAt w' rb s E ∧ Fr (oneB rb) W2 w') := fun W2 hF2 hL2 => by
        have e := lxskip 47 ptI (fun _ _ => rfl) isPoint_lx rb s E W2 hL2 (HRB.out _ (HF.out.trans hF2)) hks hz
        rwa [hpt, show lkP ptI s E = E by unfold lkP; rw [if_neg (by rw [hpt]; simp)]] at e
      have HS3 : Hid (∀ W2, Fr (oneB rb) w W2 → LAt W2 rb s E → Calls Tryz.prog 73 #[.pointer (some ⟨rb, 0, none⟩), .func (.func 105) #[] #[]] W2 fun e w' => e = .returned (.bool false) ∧ LAt w' rb s E ∧ Fr (oneB rb) W2 w') := fun W2 hF2 hL2 => by
        have e := lxskip 105 pwI (fun _ _ => rfl) isPower_lx rb s E W2 hL2 (HRB.out _ (HF.out.trans hF2)) hks hz
        rwa [hpw, show lkP pwI s E = E by unfold lkP; rw [if_neg (by rw [hpw]; simp)]] at e
      clear hk
      go_wp2_with (first
        | (go_at_call 73; (with_reducible refine HS1.mono ?_); rintro e w1 ⟨rfl, hL1, hF1⟩)
        | (go_at_call 73; (with_reducible refine (HS2.out _ hF1 hL1).mono ?_); rintro e w2 ⟨rfl, hL2, hF2⟩)
        | (go_at_call 73; (with_reducible refine (HS3.out _ (hF1.trans hF2) hL2).mono ?_); rintro e w3 ⟨rfl, hL3, hF3⟩))
      go_step3
      exact Or.inr ⟨rfl, rfl, hL3, hks, hpk, HF.out.trans (hF1.trans (hF2.trans hF3))⟩
  · rintro l a W (⟨rfl, k, x11, x12, x13, rfl, hL, hks, hpk, HE, HF⟩ | ⟨rfl, rfl, hL, hks, hpk, HF⟩)
    · have hTW := HRB.out _ HF.out
      refine ⟨_, rfl, ?_⟩
      cases hk : dgI (lkR s k) with
      | true =>
        have hkl := lk_end dgI rfl s k hk
        have hst := (endL_step dgI s k hkl hk).symm.trans HE.out
        have hn := lkN_pos s k hkl
        have hle := lkN_le s k hks
        have HSK := lxskip 46 dgI (fun _ _ => rfl) isDigit_lx rb s k W hL hTW hks hz
        rw [hk, show lkP dgI s k = k + lkN s k by unfold lkP; rw [if_pos hk]] at HSK
        generalize lkN s k = M at *
        clear hk
        go_wp2_with (go_at_call 73; refine HSK.mono ?_; rintro e w1 ⟨rfl, hL1, hF1⟩)
        go_step3
        exact ⟨Or.inl ⟨rfl, k + M, _, _, _, rfl, hL1, by omega, by omega, hst, HF.out.trans hF1⟩, by simp only [hL1.pos, hL.pos, show ¬ (0 : Nat) = 3 by decide, if_false]; omega⟩
      | false =>
        have hE : E = k := by rw [← HE.out]; exact endL_stop dgI s k (fun e => by rw [hk] at e; cases e.2)
        subst hE
        have HS1 := lxskip 46 dgI (fun _ _ => rfl) isDigit_lx rb s E W hL hTW hks hz
        rw [hk, show lkP dgI s E = E by unfold lkP; rw [if_neg (by rw [hk]; simp)]] at HS1
        have HS2 : Hid (∀ W2, Fr (oneB rb) W W2 → LAt W2 rb s E → Calls Tryz.prog 73 #[.pointer (some ⟨rb, 0, none⟩), .func (.func 47) #[] #[]] W2 fun e w' => e = .returned (.bool false) ∧ LAt w' rb s E ∧ Fr (oneB rb) W2 w') := fun W2 hF2 hL2 => by
          have e := lxskip 47 ptI (fun _ _ => rfl) isPoint_lx rb s E W2 hL2 (HRB.out _ (HF.out.trans hF2)) hks hz
          rwa [hpt, show lkP ptI s E = E by unfold lkP; rw [if_neg (by rw [hpt]; simp)]] at e
        have HS3 : Hid (∀ W2, Fr (oneB rb) W W2 → LAt W2 rb s E → Calls Tryz.prog 73 #[.pointer (some ⟨rb, 0, none⟩), .func (.func 105) #[] #[]] W2 fun e w' => e = .returned (.bool false) ∧ LAt w' rb s E ∧ Fr (oneB rb) W2 w') := fun W2 hF2 hL2 => by
          have e := lxskip 105 pwI (fun _ _ => rfl) isPower_lx rb s E W2 hL2 (HRB.out _ (HF.out.trans hF2)) hks hz
          rwa [hpw, show lkP pwI s E = E by unfold lkP; rw [if_neg (by rw [hpw]; simp)]] at e
        clear hk
        go_wp2_with (first
          | (go_at_call 73; (with_reducible refine HS1.mono ?_); rintro e w1 ⟨rfl, hL1, hF1⟩)
          | (go_at_call 73; (with_reducible refine (HS2.out _ hF1 hL1).mono ?_); rintro e w2 ⟨rfl, hL2, hF2⟩)
          | (go_at_call 73; (with_reducible refine (HS3.out _ (hF1.trans hF2) hL2).mono ?_); rintro e w3 ⟨rfl, hL3, hF3⟩))
        go_step3
        exact ⟨Or.inr ⟨rfl, rfl, hL3, hks, hpk, HF.out.trans (hF1.trans (hF2.trans hF3))⟩, by simp only [if_true, show ¬ (0 : Nat) = 3 by decide, if_false]; omega⟩
    · have hTW := HRB.out _ HF.out
      refine ⟨_, rfl, ?_⟩
      have HPK := lxpeek rb s E W hL hTW hks
      have HIN := inName_lx (lkR s E)
      rw [hin] at HIN
      generalize lkR s E = R at *
      have HLk : Hid _ := hL
      have HGo : Hid (∀ W2, Fr noB W W2 → Fr (oneB rb) w W2) := fun W2 hF2 => HF.out.trans hF2.weak
      go_wp2_with (first
        | (go_at_call 75; refine HPK.mono ?_; rintro e w1 ⟨rfl, hF1⟩; have hL1 := HLk.out.fr hF1 id; have e0 := hL1.c0; have e1 := hL1.c1)
        | (go_at_call 24; refine (HIN _).mono ?_; rintro e w2 ⟨rfl, rfl⟩))
      go_region_with (go_at_call 107; refine (HP.out _ (HGo.out _ (hF1.trans (by first | exact ((Fr.refl noB _).drewN _).drew | exact (Fr.refl noB _).drew)))).mono ?_; rintro e w4 ⟨rfl, hF4⟩)
      all_goals
        refine lx_to { tmps := #[.pointer (some ⟨rb, 0, none⟩), undef, .float .f64 0, .int .i64 0, .int .i64 (p : Int), .float .f64 x, .int .i64 0, .pointer (some ⟨rb, 0, none⟩), .pointer (some ⟨rb, 0, none⟩), .pointer (some ⟨rb, 1, none⟩), .int .i64 (p : Int), .bool false, .pointer (some ⟨rb, 0, none⟩), .bool false, .bool false, .pointer (some ⟨rb, 0, none⟩), .bool false, .bool false, .pointer (some ⟨rb, 0, none⟩), .bool false, undef, undef, undef, undef, undef, undef, undef, undef, undef, undef, undef, undef, undef, undef, undef, undef, .pointer (some ⟨rb, 0, none⟩), .int .i32 R, .bool false, .tuple #[.float .f64 x, .int .i64 0], .pointer (some ⟨rb, 0, none⟩), .pointer (some ⟨rb, 0, none⟩), .pointer (some ⟨rb, 0, none⟩), .string s, .int .i64 (p : Int), .pointer (some ⟨rb, 0, none⟩), .pointer (some ⟨rb, 0, none⟩), .pointer (some ⟨rb, 1, none⟩), .int .i64 (E : Int), .string N, .tuple #[.float .f64 x, .int .i64 0], .float .f64 x, .int .i64 0, undef, undef, undef], defers := [] } (by kernel_rfl) ?_
        go_wp2_with fail
        rw [jumpsTo_ret]
        go_ret2
        exact ⟨rfl, hL1.fr (Fr.trans (by first | exact ((Fr.refl noB _).drewN _).drew | exact (Fr.refl noB _).drew) hF4) id, (HGo.out _ hF1).trans (Fr.trans (by first | exact ((Fr.refl noB _).drewN _).drew | exact (Fr.refl noB _).drew) hF4).weak⟩
#print axioms number_lx
end Go.Proofs.YtkohohjpnlhioaaGreatDoor
/- Lexis' reader: a reference between brackets. -/
namespace Go.Proofs.YtkohohjpnlhioaaGreatDoor
open Go.RowKit Go.Shelf

def nbI (r : Int) : Bool := r != -1 && r != 93 && r != 39
theorem lx_store_ref (w : World) (b : Nat) (t3 : ByteArray) (u3 : ByteArray) (f3 : Bool) (a3 : Bool) (p3 : Int) (q3 : Int) (f4 : Bool) (f5 : Bool) (p4 : Int) (q4 : Int) (f6 : Bool) (f7 : Bool) {t0 u0 : ByteArray} {f0 a0 : Bool} {p0 q0 : Int} {x0 y0 : Bool} {p9 q9 : Int} {x9 y9 : Bool} (h : RAt w b t0 u0 f0 a0 p0 q0 x0 y0 p9 q9 x9 y9) : (Instr.storeAt 26 (.pointer (some ⟨b, 0, none⟩)) (.agg #[.string t3, .string u3, .bool f3, .bool a3, .int .i64 p3, .int .i64 q3, .bool f4, .bool f5, .int .i64 p4, .int .i64 q4, .bool f6, .bool f7])).run Tryz.prog w = .ok () ((((((((((((w.setCell ⟨b, 0, none⟩ (.string t3)).setCell ⟨b, 1, none⟩ (.string u3)).setCell ⟨b, 2, none⟩ (.bool f3)).setCell ⟨b, 3, none⟩ (.bool a3)).setCell ⟨b, 4, none⟩ (.int .i64 p3)).setCell ⟨b, 5, none⟩ (.int .i64 q3)).setCell ⟨b, 6, none⟩ (.bool f4)).setCell ⟨b, 7, none⟩ (.bool f5)).setCell ⟨b, 8, none⟩ (.int .i64 p4)).setCell ⟨b, 9, none⟩ (.int .i64 q4)).setCell ⟨b, 10, none⟩ (.bool f6)).setCell ⟨b, 11, none⟩ (.bool f7)) := by
  have hu := Tryz.underlying26
  have g0 := h.g0; have g1 := h.g1; have g2 := h.g2; have g3 := h.g3; have g4 := h.g4; have g5 := h.g5; have g6 := h.g6; have g7 := h.g7; have g8 := h.g8; have g9 := h.g9; have g10 := h.g10; have g11 := h.g11
  have f := h.f
  simp [go_sem, g0, g1, g2, g3, g4, g5, g6, g7, g8, g9, g10, g11, f]
theorem lx_ite {c : Prop} {i : Decidable c} {A B : Prop} (h : c) (a : A) : @ite Prop c i A B := by rw [if_pos h]; exact a
section
variable {P : Program} {ops : Array Oper} {S : World → Prop} {op : Oper} {a : Act}
theorem lx_wp_val {w w' : World} {next : Act → World → Prop} {Q : Exit → Act → World → Prop} (v : Value) (h : (execOp a.eval op).run P w = .ok (.value v) w') (hn : next (a.put op.dst v) w') : Oper.wp P op a w next Q := by
  unfold Oper.wp
  rw [h]
  exact hn
theorem lx_wp_store {w w' : World} {next : Act → World → Prop} {Q : Exit → Act → World → Prop} (ty : TypeId) (p x : Operand) (vp vx : Value) (ho : op.op = .store ty p x) (hp : a.eval p = vp) (hx : a.eval x = vx) (hs : (Instr.storeAt ty vp vx).run Tryz.prog w = .ok () w') (h : next (a.put op.dst undef) w') : Oper.wp Tryz.prog op a w next Q := by
  unfold Oper.wp execOp
  simp only [ho, hp, hx, Sem.run_bind, Sem.run_pure, hs, Result.andThen_ok]
  exact h
theorem lx_y_sub (n m : Int) (hm : n - 1 = m) (h0 : 0 ≤ m) (h1 : n ≤ 140737488355329) (x y : Operand) (hw : Region.wanted op (yielded ops a.tmps) = true) (ho : op.op = .binOp .sub 3 x y 3) (hx : a.eval x = .int .i64 n) (hy : a.eval y = .int .i64 1) : YieldsIf Tryz.prog ops S op (.int .i64 m) a :=
  .inl ⟨hw, fun w _ => by
    unfold execOp
    simp only [ho, hx, hy]
    subst hm
    have hwr : IntKind.i64.wrap (n - 1) = n - 1 := by unfold IntKind.wrap; simp [IntKind.bits, IntKind.signed]; omega
    simp [go_sem, hwr]⟩
theorem lx_y_slice (s : ByteArray) (q E : Nat) (h1 : q ≤ E) (h2 : E ≤ s.size) (x y z : Operand) (hw : Region.wanted op (yielded ops a.tmps) = true) (ho : op.op = .slice 9 x (some y) (some z) none) (hx : a.eval x = .string s) (hy : a.eval y = .int .i64 (q : Int)) (hzz : a.eval z = .int .i64 (E : Int)) : YieldsIf Tryz.prog ops S op (.string (s.extract q E)) a :=
  .inl ⟨hw, fun w _ => by
    unfold execOp
    simp only [ho, hx, hy, hzz, Option.map_some]
    simp [go_sem, h1, h2]⟩
end
theorem held_go {w V V' : World} {rb : Nat} {s : ByteArray} {c n0 : Nat} (h : LAt V rb s c ∧ Fr (oneB rb) w V ∧ n0 ≤ V.heap.size ∧ RAt V w.heap.size ⟨#[]⟩ ⟨#[]⟩ false false 0 0 false false 0 0 false false) (hF : Fr noB V V') : LAt V' rb s c ∧ Fr (oneB rb) w V' ∧ n0 ≤ V'.heap.size ∧ RAt V' w.heap.size ⟨#[]⟩ ⟨#[]⟩ false false 0 0 false false 0 0 false false := ⟨h.1.fr hF id, h.2.1.trans hF.weak, Nat.le_trans h.2.2.1 hF.size, h.2.2.2.fr hF id⟩
theorem LAt.allO {w : World} {rb : Nat} {s : ByteArray} {p : Nat} (h : LAt w rb s p) {B : Nat} (hB : rb ≠ B) (t3 : ByteArray) (u3 : ByteArray) (f3 : Bool) (a3 : Bool) (p3 : Int) (q3 : Int) (f4 : Bool) (f5 : Bool) (p4 : Int) (q4 : Int) (f6 : Bool) (f7 : Bool) : LAt ((((((((((((w.setCell ⟨B, 0, none⟩ (.string t3)).setCell ⟨B, 1, none⟩ (.string u3)).setCell ⟨B, 2, none⟩ (.bool f3)).setCell ⟨B, 3, none⟩ (.bool a3)).setCell ⟨B, 4, none⟩ (.int .i64 p3)).setCell ⟨B, 5, none⟩ (.int .i64 q3)).setCell ⟨B, 6, none⟩ (.bool f4)).setCell ⟨B, 7, none⟩ (.bool f5)).setCell ⟨B, 8, none⟩ (.int .i64 p4)).setCell ⟨B, 9, none⟩ (.int .i64 q4)).setCell ⟨B, 10, none⟩ (.bool f6)).setCell ⟨B, 11, none⟩ (.bool f7)) rb s p := ⟨(heap_all w B rb (fun e => hB e) t3 u3 f3 a3 p3 q3 f4 f5 p4 q4 f6 f7).trans h.o⟩
theorem held_store {w V : World} {rb : Nat} {s : ByteArray} {c n0 rk : Nat} (h : LAt V rb s c ∧ Fr (oneB rb) w V ∧ n0 ≤ V.heap.size ∧ RAt V w.heap.size ⟨#[]⟩ ⟨#[]⟩ false false 0 0 false false 0 0 false false) (hR : RAt V rk ⟨#[]⟩ ⟨#[]⟩ false false 0 0 false false 0 0 false false) (hB : w.heap.size < rk) (hrb : rb ≠ rk) (t3 : ByteArray) (u3 : ByteArray) (f3 : Bool) (a3 : Bool) (p3 : Int) (q3 : Int) (f4 : Bool) (f5 : Bool) (p4 : Int) (q4 : Int) (f6 : Bool) (f7 : Bool) : ∃ V9, ((((((((((((V.setCell ⟨rk, 0, none⟩ (.string t3)).setCell ⟨rk, 1, none⟩ (.string u3)).setCell ⟨rk, 2, none⟩ (.bool f3)).setCell ⟨rk, 3, none⟩ (.bool a3)).setCell ⟨rk, 4, none⟩ (.int .i64 p3)).setCell ⟨rk, 5, none⟩ (.int .i64 q3)).setCell ⟨rk, 6, none⟩ (.bool f4)).setCell ⟨rk, 7, none⟩ (.bool f5)).setCell ⟨rk, 8, none⟩ (.int .i64 p4)).setCell ⟨rk, 9, none⟩ (.int .i64 q4)).setCell ⟨rk, 10, none⟩ (.bool f6)).setCell ⟨rk, 11, none⟩ (.bool f7)) = V9 ∧ (LAt V9 rb s c ∧ Fr (oneB rb) w V9 ∧ n0 ≤ V9.heap.size ∧ RAt V9 w.heap.size ⟨#[]⟩ ⟨#[]⟩ false false 0 0 false false 0 0 false false) ∧ RAt V9 rk t3 u3 f3 a3 p3 q3 f4 f5 p4 q4 f6 f7 :=
  ⟨_, rfl, ⟨h.1.allO hrb _ _ _ _ _ _ _ _ _ _ _ _, h.2.1.all (Or.inr (by omega)) _ _ _ _ _ _ _ _ _ _ _ _, by simpa using h.2.2.1, ⟨(heap_all V rk w.heap.size (by omega) _ _ _ _ _ _ _ _ _ _ _ _).trans h.2.2.2.o⟩⟩, hR.all _ _ _ _ _ _ _ _ _ _ _ _⟩
theorem lx_rret {fn : Func} {p q : Tmp} (h : fn.results = #[.cell p 26, .tmp q]) (tmps : Array Value) (w : World) (g : Nat) {t3 : ByteArray} {u3 : ByteArray} {f3 : Bool} {a3 : Bool} {p3 : Int} {q3 : Int} {f4 : Bool} {f5 : Bool} {p4 : Int} {q4 : Int} {f6 : Bool} {f7 : Bool} {z : Int} (hp : tmps.getD p undef = .pointer (some ⟨g, 0, none⟩)) (hq : tmps.getD q undef = .int .i64 z) (hv : RAt w g t3 u3 f3 a3 p3 q3 f4 f5 p4 q4 f6 f7) :
    (results fn tmps).run Tryz.prog w = .ok (.tuple #[(.agg #[.string t3, .string u3, .bool f3, .bool a3, .int .i64 p3, .int .i64 q3, .bool f4, .bool f5, .int .i64 p4, .int .i64 q4, .bool f6, .bool f7]), .int .i64 z]) w := by
  have q0 := hv.g0; have q1 := hv.g1; have q2 := hv.g2; have q3 := hv.g3; have q4 := hv.g4; have q5 := hv.g5; have q6 := hv.g6; have q7 := hv.g7; have q8 := hv.g8; have q9 := hv.g9; have q10 := hv.g10; have q11 := hv.g11
  simp only [Array.getD_eq_getD_getElem?] at hp hq
  simp [results, h, hp, hq, go_sem, q0, q1, q2, q3, q4, q5, q6, q7, q8, q9, q10, q11]
set_option maxRecDepth 100000 in
set_option maxHeartbeats 8000000 in
theorem bracket_lx (rb : Nat) (s : ByteArray) (p q E c : Nat) (r0 : Int) (t3 : ByteArray) (u3 : ByteArray) (f3 : Bool) (a3 : Bool) (p3 : Int) (q3 : Int) (f4 : Bool) (f5 : Bool) (p4 : Int) (q4 : Int) (f6 : Bool) (f7 : Bool) (w : World) (h : LAt w rb s p) (hT : Tabs w) (hrb : ∀ W, Fr (oneB rb) w W → Tabs W) (hp : p ≤ s.size) (hz : s.size ≤ 140737488355328)
    (hr0 : lkR s p = r0) (hq : p + lkN s p = q) (hEE : endL nbI s q = E) (h93 : lkR s E = 93) (hcc : E + lkN s E = c) (hc1 : c = E + 1) (hqE : q ≤ E) (hEs : E ≤ s.size)
    (HPR : ∀ W, Fr (oneB rb) w W → Calls Tryz.prog 109 #[.string (s.extract q E)] W fun e w' => e = .returned (.tuple #[(.agg #[.string t3, .string u3, .bool f3, .bool a3, .int .i64 p3, .int .i64 q3, .bool f4, .bool f5, .int .i64 p4, .int .i64 q4, .bool f6, .bool f7]), .int .i64 0, .int .i64 0]) ∧ Fr noB W w') :
    Calls Tryz.prog 79 #[.pointer (some ⟨rb, 0, none⟩)] w fun e w' => e = .returned (.tuple #[(.agg #[.string t3, .string u3, .bool f3, .bool a3, .int .i64 p3, .int .i64 q3, .bool f4, .bool f5, .int .i64 p4, .int .i64 q4, .bool f6, .bool f7]), .int .i64 0]) ∧ LAt w' rb s c ∧ Fr (oneB rb) w w' := by
  have hrlt := h.lt
  have hcE : (c : Int) - 1 = (E : Int) := by omega
  have HP : Hid _ := HPR
  have HRB : Hid _ := hrb
  obtain ⟨W0, hW0⟩ : ∃ W0, w.alloc (.cells #[.string ⟨#[]⟩, .string ⟨#[]⟩, .bool false, .bool false, .int .i64 0, .int .i64 0, .bool false, .bool false, .int .i64 0, .int .i64 0, .bool false, .bool false] 26 (0, 0)) = W0 := ⟨_, rfl⟩
  have hF0 : Fr noB w W0 := by rw [← hW0]; exact (Fr.refl noB w).alloc _
  have hA0 : RAt W0 w.heap.size ⟨#[]⟩ ⟨#[]⟩ false false 0 0 false false 0 0 false false := ⟨by rw [← hW0]; exact heap_alloc_new _ _⟩
  have hL0 := h.fr hF0 id
  have HT0 := lxtake rb s p W0 hL0 (hT.keep hF0) hp hz
  rw [hr0, hq] at HT0
  have hqs : q ≤ s.size := by omega
  have nrb : ¬ oneB rb w.heap.size := fun e => by unfold oneB at e; omega
  clear h hr0 hq HPR hrb hT
  go_enter Tryz.func79, Tryz.ntmps79
  go_wp2_with fail
  refine wp_scope_goes (fun l a W => (l = 3 ∧ ∃ (k : Nat) (x14 x15 x16 x17 x18 x19 x20 x21 : Value), a = { tmps := #[.pointer (some ⟨rb, 0, none⟩), undef, .pointer (some ⟨w.heap.size, 0, none⟩), .int .i64 0, .int .i64 (q : Int), undef, undef, undef, .pointer (some ⟨rb, 0, none⟩), .int .i32 r0, .pointer (some ⟨rb, 0, none⟩), .pointer (some ⟨rb, 0, none⟩), .pointer (some ⟨rb, 1, none⟩), .int .i64 (q : Int), x14, x15, x16, x17, x18, x19, x20, x21, undef, undef, undef, undef, undef, undef, undef, undef, undef, undef, undef, undef, undef, undef, undef, undef, undef, undef, undef, undef, undef, undef, undef, undef, undef, undef], defers := [] } ∧ LAt W rb s k ∧ k ≤ s.size ∧ Hid (endL nbI s k = E) ∧ RAt W w.heap.size ⟨#[]⟩ ⟨#[]⟩ false false 0 0 false false 0 0 false false ∧ Hid (Fr (oneB rb) w W)) ∨ (l = 1 ∧ ∃ (x20 x21 : Value), a = { tmps := #[.pointer (some ⟨rb, 0, none⟩), undef, .pointer (some ⟨w.heap.size, 0, none⟩), .int .i64 0, .int .i64 (q : Int), undef, undef, undef, .pointer (some ⟨rb, 0, none⟩), .int .i32 r0, .pointer (some ⟨rb, 0, none⟩), .pointer (some ⟨rb, 0, none⟩), .pointer (some ⟨rb, 1, none⟩), .int .i64 (q : Int), .pointer (some ⟨rb, 0, none⟩), .int .i32 93, .bool false, .bool false, .bool true, .bool true, x20, x21, undef, undef, undef, undef, undef, undef, undef, undef, undef, undef, undef, undef, undef, undef, undef, undef, undef, undef, undef, undef, undef, undef, undef, undef, undef, undef], defers := [] } ∧ LAt W rb s c ∧ RAt W w.heap.size ⟨#[]⟩ ⟨#[]⟩ false false 0 0 false false 0 0 false false ∧ Hid (Fr (oneB rb) w W))) (fun l _ W => if l = 1 then 0 else 1 + (s.size - posL W rb)) ?_ ?_
  · go_wp2_with (go_at_call 102; refine HT0.mono ?_; rintro e w0 ⟨rfl, hL, hFt⟩; have d1 := hL.c1)
    go_step3
    obtain ⟨k, HKP⟩ : ∃ k, Hid (k = q) := ⟨q, rfl⟩
    have HE : Hid (endL nbI s k = E) := by
      show endL nbI s k = E
      rw [HKP.out]
      exact hEE
    have hks : k ≤ s.size := by rw [HKP.out]; exact hqs
    have hL : LAt w0 rb s k := by rw [HKP.out]; exact hL
    have HF : Hid (Fr (oneB rb) w w0) := hF0.weak.trans hFt
    have hA := hA0.fr hFt nrb
    have hTW := HRB.out _ HF.out
    by_cases hk : nbI (lkR s k) = true
    · have hkl := lk_end nbI rfl s k hk
      have hst := (endL_step nbI s k hkl hk).symm.trans HE.out
      have hn := lkN_pos s k hkl
      have hle := lkN_le s k hks
      have HTK := lxtake rb s k w0 hL hTW hks hz
      have hr : ((lkR s k == -1) = false ∧ (lkR s k == 93) = false) ∧ (lkR s k == 39) = false := by
        unfold nbI at hk
        simp only [bne, Bool.and_eq_true, Bool.not_eq_true'] at hk
        exact hk
      obtain ⟨⟨h1, h2⟩, h3⟩ := hr
      generalize lkN s k = M at *
      generalize lkR s k = RR at *
      clear hk
      go_wp2_with (go_at_call 102; refine HTK.mono ?_; rintro e w1 ⟨rfl, hL1, hF1⟩)
      go_step3
      exact Or.inl ⟨rfl, k + M, _, _, _, _, _, _, _, _, rfl, hL1, by omega, hst, hA.fr hF1 nrb, HF.out.trans hF1⟩
    · have hE : E = k := by rw [← HE.out]; exact endL_stop nbI s k (fun e => hk e.2)
      subst hE
      have HTK := lxtake rb s E w0 hL hTW hks hz
      rw [h93, hcc] at HTK
      clear hk
      go_wp2_with (go_at_call 102; refine HTK.mono ?_; rintro e w1 ⟨rfl, hL1, hF1⟩)
      go_step3
      exact Or.inr ⟨rfl, _, _, rfl, hL1, hA.fr hF1 nrb, HF.out.trans hF1⟩
  · rintro l a W (⟨rfl, k, x14, x15, x16, x17, x18, x19, x20, x21, rfl, hL, hks, HE, hA, HF⟩ | ⟨rfl, x20, x21, rfl, hL, hA, HF⟩)
    · have hTW := HRB.out _ HF.out
      refine ⟨_, rfl, ?_⟩
      by_cases hk : nbI (lkR s k) = true
      · have hkl := lk_end nbI rfl s k hk
        have hst := (endL_step nbI s k hkl hk).symm.trans HE.out
        have hn := lkN_pos s k hkl
        have hle := lkN_le s k hks
        have HTK := lxtake rb s k W hL hTW hks hz
        have hr : ((lkR s k == -1) = false ∧ (lkR s k == 93) = false) ∧ (lkR s k == 39) = false := by
          unfold nbI at hk
          simp only [bne, Bool.and_eq_true, Bool.not_eq_true'] at hk
          exact hk
        obtain ⟨⟨h1, h2⟩, h3⟩ := hr
        generalize lkN s k = M at *
        generalize lkR s k = RR at *
        clear hk
        go_wp2_with (go_at_call 102; refine HTK.mono ?_; rintro e w1 ⟨rfl, hL1, hF1⟩)
        go_step3
        exact ⟨Or.inl ⟨rfl, k + M, _, _, _, _, _, _, _, _, rfl, hL1, by omega, hst, hA.fr hF1 nrb, HF.out.trans hF1⟩, by simp only [hL1.pos, hL.pos, show ¬ (3 : Nat) = 1 by decide, if_false]; omega⟩
      · have hE : E = k := by rw [← HE.out]; exact endL_stop nbI s k (fun e => hk e.2)
        subst hE
        have HTK := lxtake rb s E W hL hTW hks hz
        rw [h93, hcc] at HTK
        clear hk
        go_wp2_with (go_at_call 102; refine HTK.mono ?_; rintro e w1 ⟨rfl, hL1, hF1⟩)
        go_step3
        exact ⟨Or.inr ⟨rfl, _, _, rfl, hL1, hA.fr hF1 nrb, HF.out.trans hF1⟩, by simp only [if_true, show ¬ (3 : Nat) = 1 by decide, if_false]; omega⟩
    · refine ⟨_, rfl, ?_⟩
      have hS0 : LAt W.drew rb s c ∧ Fr (oneB rb) w W.drew ∧ W.heap.size ≤ W.drew.heap.size ∧ RAt W.drew w.heap.size ⟨#[]⟩ ⟨#[]⟩ false false 0 0 false false 0 0 false false := ⟨hL.fr (Fr.refl noB W).drew id, HF.out.trans (Fr.refl noB W).drew.weak, (Fr.refl noB W).drew.size, hA.fr (Fr.refl noB W).drew id⟩
      obtain ⟨N, hN⟩ : ∃ N, s.extract q E = N := ⟨_, rfl⟩
      go_wp2_with fail
      refine wp_region_held_drew (S := fun V => LAt V rb s c ∧ Fr (oneB rb) w V ∧ W.heap.size ≤ V.heap.size ∧ RAt V w.heap.size ⟨#[]⟩ ⟨#[]⟩ false false 0 0 false false 0 0 false false) (by kernel_rfl) hS0 (fun hHeld => ?_)
      refine wpAnyH_take (i := 0) (v := .pointer (some ⟨rb, 0, none⟩)) rfl (by kernel_rfl) (by kernel_rfl) (by kernel_rfl) (fun _ _ _ h => h) (Or.inl ⟨by kernel_rfl, fun w hSw => by kernel_rfl⟩) hHeld ?_
      refine wpAnyH_take (i := 1) (v := .pointer (some ⟨rb, 0, none⟩)) rfl (by kernel_rfl) (by kernel_rfl) (by kernel_rfl) (fun _ _ _ h => h) (Or.inl ⟨by kernel_rfl, fun w hSw => by kernel_rfl⟩) hHeld ?_
      refine wpAnyH_take (i := 2) (v := .pointer (some ⟨rb, 0, none⟩)) rfl (by kernel_rfl) (by kernel_rfl) (by kernel_rfl) (fun _ _ _ h => h) (Or.inl ⟨by kernel_rfl, fun w hSw => by kernel_rfl⟩) hHeld ?_
      refine wpAnyH_take (i := 3) (v := .string s) rfl (by kernel_rfl) (by kernel_rfl) (by kernel_rfl) (fun _ _ _ h => h) (y_loadOf 9 load_str (.tmp 31) rb 0 _ (by kernel_rfl) rfl (by kernel_rfl) (fun w h => (h.1).c0)) hHeld ?_
      refine wpAnyH_take (i := 4) (v := .int .i64 (q : Int)) rfl (by kernel_rfl) (by kernel_rfl) (by kernel_rfl) (fun _ _ _ h => h) (Or.inl ⟨by kernel_rfl, fun w hSw => by kernel_rfl⟩) hHeld ?_
      refine wpAnyH_take (i := 5) (v := .pointer (some ⟨rb, 0, none⟩)) rfl (by kernel_rfl) (by kernel_rfl) (by kernel_rfl) (fun _ _ _ h => h) (Or.inl ⟨by kernel_rfl, fun w hSw => by kernel_rfl⟩) hHeld ?_
      refine wpAnyH_take (i := 6) (v := .pointer (some ⟨rb, 0, none⟩)) rfl (by kernel_rfl) (by kernel_rfl) (by kernel_rfl) (fun _ _ _ h => h) (Or.inl ⟨by kernel_rfl, fun w hSw => by kernel_rfl⟩) hHeld ?_
      refine wpAnyH_take (i := 7) (v := .pointer (some ⟨rb, 1, none⟩)) rfl (by kernel_rfl) (by kernel_rfl) (by kernel_rfl) (fun _ _ _ h => h) (Or.inl ⟨by kernel_rfl, fun w hSw => by kernel_rfl⟩) hHeld ?_
      refine wpAnyH_take (i := 8) (v := .int .i64 (c : Int)) rfl (by kernel_rfl) (by kernel_rfl) (by kernel_rfl) (fun _ _ _ h => h) (y_loadOf 3 load_int (.tmp 36) rb 1 _ (by kernel_rfl) rfl (by kernel_rfl) (fun w h => (h.1).c1)) hHeld ?_
      refine wpAnyH_take (i := 9) (v := .int .i64 (E : Int)) rfl (by kernel_rfl) (by kernel_rfl) (by kernel_rfl) (fun _ _ _ h => h) (lx_y_sub (c : Int) (E : Int) hcE (by omega) (by omega) (.tmp 37) (.const (.int .i64 1)) (by kernel_rfl) rfl (by kernel_rfl) rfl) hHeld ?_
      refine wpAnyH_take (i := 10) (v := .string (s.extract q E)) rfl (by kernel_rfl) (by kernel_rfl) (by kernel_rfl) (fun _ _ _ h => h) (lx_y_slice s q E hqE hEs (.tmp 32) (.tmp 33) (.tmp 38) (by kernel_rfl) rfl (by kernel_rfl) (by kernel_rfl) (by kernel_rfl)) hHeld ?_
      refine wpAnyH_ready (rs := [11, 16]) (by kernel_rfl) (by simp) ?_
      refine AllReadyH.cons rfl (fun K hK => ?_) ?_
      · (with_reducible refine lx_ite ?_ ?_)
        · kernel_rfl
        (with_reducible refine wp_go 109 #[.string (s.extract q E)] ?_ ?_)
        · kernel_rfl
        (with_reducible refine (HP.out _ hS0.2.1).mono ?_)
        rintro e wv1 ⟨rfl, hV1⟩
        have hS1 := held_go hS0 hV1
        refine hK.out _ _ hS1 (fun hHeld1 => ?_)
        clear hK K
        refine wpAnyH_take (i := 12) (v := .tuple #[(.agg #[.string t3, .string u3, .bool f3, .bool a3, .int .i64 p3, .int .i64 q3, .bool f4, .bool f5, .int .i64 p4, .int .i64 q4, .bool f6, .bool f7]), .int .i64 0, .int .i64 0]) rfl (by kernel_rfl) (by kernel_rfl) (by kernel_rfl) (fun _ _ _ h => h) (Or.inl ⟨by kernel_rfl, fun w hSw => by kernel_rfl⟩) hHeld1 ?_
        refine wpAnyH_take (i := 13) (v := (.agg #[.string t3, .string u3, .bool f3, .bool a3, .int .i64 p3, .int .i64 q3, .bool f4, .bool f5, .int .i64 p4, .int .i64 q4, .bool f6, .bool f7])) rfl (by kernel_rfl) (by kernel_rfl) (by kernel_rfl) (fun _ _ _ h => h) (Or.inl ⟨by kernel_rfl, fun w hSw => by kernel_rfl⟩) hHeld1 ?_
        refine wpAnyH_take (i := 14) (v := .int .i64 0) rfl (by kernel_rfl) (by kernel_rfl) (by kernel_rfl) (fun _ _ _ h => h) (Or.inl ⟨by kernel_rfl, fun w hSw => by kernel_rfl⟩) hHeld1 ?_
        refine wpAnyH_take (i := 15) (v := .int .i64 0) rfl (by kernel_rfl) (by kernel_rfl) (by kernel_rfl) (fun _ _ _ h => h) (Or.inl ⟨by kernel_rfl, fun w hSw => by kernel_rfl⟩) hHeld1 ?_
        refine wpAnyH_ready (rs := [16]) (by kernel_rfl) (by simp) ?_
        refine AllReadyH.cons rfl (fun K hK => ?_) AllReadyH.nil
        (with_reducible refine lx_ite ?_ ?_)
        · kernel_rfl
        (with_reducible refine lx_wp_val (.pointer (some ⟨(wv1).heap.size, 0, none⟩)) (w' := (wv1).alloc (.cells #[.string ⟨#[]⟩, .string ⟨#[]⟩, .bool false, .bool false, .int .i64 0, .int .i64 0, .bool false, .bool false, .int .i64 0, .int .i64 0, .bool false, .bool false] 26 (0, 0))) ?_ ?_)
        · kernel_rfl
        have hS2 := held_go hS1 ((Fr.refl noB (wv1)).alloc (.cells #[.string ⟨#[]⟩, .string ⟨#[]⟩, .bool false, .bool false, .int .i64 0, .int .i64 0, .bool false, .bool false, .int .i64 0, .int .i64 0, .bool false, .bool false] 26 (0, 0)))
        refine hK.out _ _ hS2 (fun hHeld2 => ?_)
        clear hK K
        refine wpAnyH_ready (rs := [17]) (by kernel_rfl) (by simp) ?_
        refine AllReadyH.cons rfl (fun K hK => ?_) AllReadyH.nil
        (with_reducible refine lx_ite ?_ ?_)
        · kernel_rfl
        have hR := (show RAt (wv1.alloc (.cells #[.string ⟨#[]⟩, .string ⟨#[]⟩, .bool false, .bool false, .int .i64 0, .int .i64 0, .bool false, .bool false, .int .i64 0, .int .i64 0, .bool false, .bool false] 26 (0, 0))) wv1.heap.size ⟨#[]⟩ ⟨#[]⟩ false false 0 0 false false 0 0 false false from ⟨heap_alloc_new _ _⟩)
        have hSt := lx_store_ref (wv1.alloc (.cells #[.string ⟨#[]⟩, .string ⟨#[]⟩, .bool false, .bool false, .int .i64 0, .int .i64 0, .bool false, .bool false, .int .i64 0, .int .i64 0, .bool false, .bool false] 26 (0, 0))) (wv1).heap.size t3 u3 f3 a3 p3 q3 f4 f5 p4 q4 f6 f7 hR
        (with_reducible refine lx_wp_store 26 (.tmp 5) (.tmp 41) (.pointer (some ⟨(wv1).heap.size, 0, none⟩)) (.agg #[.string t3, .string u3, .bool f3, .bool a3, .int .i64 p3, .int .i64 q3, .bool f4, .bool f5, .int .i64 p4, .int .i64 q4, .bool f6, .bool f7]) ?_ ?_ ?_ hSt ?_)
        · kernel_rfl
        · kernel_rfl
        · kernel_rfl
        clear hSt
        have hB9 : w.heap.size < (wv1).heap.size := (by have := lt_of_block hS1.2.2.2.o; omega)
        obtain ⟨V9, hV9, hS9, hR9⟩ := held_store hS2 hR hB9 (by omega) t3 u3 f3 a3 p3 q3 f4 f5 p4 q4 f6 f7
        rw [hV9]
        refine hK.out _ _ hS9 (fun hHeld9 => ?_)
        clear hK K
        refine wpAnyH_take (i := 18) (v := .int .i64 0) rfl (by kernel_rfl) (by kernel_rfl) (by kernel_rfl) (fun _ _ _ h => h) (Or.inl ⟨by kernel_rfl, fun w hSw => by kernel_rfl⟩) hHeld9 ?_
        refine wpAnyH_take (i := 19) (v := .int .i64 0) rfl (by kernel_rfl) (by kernel_rfl) (by kernel_rfl) (fun _ _ _ h => h) (Or.inl ⟨by kernel_rfl, fun w hSw => by kernel_rfl⟩) hHeld9 ?_
        refine wpAnyH_done (by kernel_rfl) ?_ _
        refine lx_to { tmps := #[.pointer (some ⟨rb, 0, none⟩), undef, .pointer (some ⟨w.heap.size, 0, none⟩), .int .i64 0, .int .i64 (q : Int), .pointer (some ⟨(wv1).heap.size, 0, none⟩), .int .i64 0, .int .i64 0, .pointer (some ⟨rb, 0, none⟩), .int .i32 r0, .pointer (some ⟨rb, 0, none⟩), .pointer (some ⟨rb, 0, none⟩), .pointer (some ⟨rb, 1, none⟩), .int .i64 (q : Int), .pointer (some ⟨rb, 0, none⟩), .int .i32 93, .bool false, .bool false, .bool true, .bool true, x20, x21, undef, undef, undef, undef, undef, undef, .tuple #[(.agg #[.string t3, .string u3, .bool f3, .bool a3, .int .i64 p3, .int .i64 q3, .bool f4, .bool f5, .int .i64 p4, .int .i64 q4, .bool f6, .bool f7]), .int .i64 0, .int .i64 0], .pointer (some ⟨rb, 0, none⟩), .pointer (some ⟨rb, 0, none⟩), .pointer (some ⟨rb, 0, none⟩), .string s, .int .i64 (q : Int), .pointer (some ⟨rb, 0, none⟩), .pointer (some ⟨rb, 0, none⟩), .pointer (some ⟨rb, 1, none⟩), .int .i64 (c : Int), .int .i64 (E : Int), .string (s.extract q E), .tuple #[(.agg #[.string t3, .string u3, .bool f3, .bool a3, .int .i64 p3, .int .i64 q3, .bool f4, .bool f5, .int .i64 p4, .int .i64 q4, .bool f6, .bool f7]), .int .i64 0, .int .i64 0], (.agg #[.string t3, .string u3, .bool f3, .bool a3, .int .i64 p3, .int .i64 q3, .bool f4, .bool f5, .int .i64 p4, .int .i64 q4, .bool f6, .bool f7]), .int .i64 0, .int .i64 0, undef, undef, undef, undef], defers := [] } (by kernel_rfl) ?_
        have hlt9 : w.heap.size ≠ (wv1).heap.size := by omega
        have g0 := hR9.g0; have g1 := hR9.g1; have g2 := hR9.g2; have g3 := hR9.g3; have g4 := hR9.g4; have g5 := hR9.g5; have g6 := hR9.g6; have g7 := hR9.g7; have g8 := hR9.g8; have g9 := hR9.g9; have g10 := hR9.g10; have g11 := hR9.g11; have o0 := hS9.2.2.2.g0; have o1 := hS9.2.2.2.g1; have o2 := hS9.2.2.2.g2; have o3 := hS9.2.2.2.g3; have o4 := hS9.2.2.2.g4; have o5 := hS9.2.2.2.g5; have o6 := hS9.2.2.2.g6; have o7 := hS9.2.2.2.g7; have o8 := hS9.2.2.2.g8; have o9 := hS9.2.2.2.g9; have o10 := hS9.2.2.2.g10; have o11 := hS9.2.2.2.g11; have of := hS9.2.2.2.f
        go_wp2_with fail
        rw [jumpsTo_ret]
        exact bodyPost_ret (lx_rret Tryz.results79 _ _ w.heap.size rfl rfl (hS9.2.2.2.all _ _ _ _ _ _ _ _ _ _ _ _)) rfl ⟨rfl, LAt.allO hS9.1 (by omega) _ _ _ _ _ _ _ _ _ _ _ _, hS9.2.1.all (Or.inr (Nat.le_refl _)) _ _ _ _ _ _ _ _ _ _ _ _⟩
      refine AllReadyH.cons rfl (fun K hK => ?_) AllReadyH.nil
      (with_reducible refine lx_ite ?_ ?_)
      · kernel_rfl
      (with_reducible refine lx_wp_val (.pointer (some ⟨(W.drew).heap.size, 0, none⟩)) (w' := (W.drew).alloc (.cells #[.string ⟨#[]⟩, .string ⟨#[]⟩, .bool false, .bool false, .int .i64 0, .int .i64 0, .bool false, .bool false, .int .i64 0, .int .i64 0, .bool false, .bool false] 26 (0, 0))) ?_ ?_)
      · kernel_rfl
      have hS3 := held_go hS0 ((Fr.refl noB (W.drew)).alloc (.cells #[.string ⟨#[]⟩, .string ⟨#[]⟩, .bool false, .bool false, .int .i64 0, .int .i64 0, .bool false, .bool false, .int .i64 0, .int .i64 0, .bool false, .bool false] 26 (0, 0)))
      refine hK.out _ _ hS3 (fun hHeld3 => ?_)
      clear hK K
      refine wpAnyH_ready (rs := [11]) (by kernel_rfl) (by simp) ?_
      refine AllReadyH.cons rfl (fun K hK => ?_) AllReadyH.nil
      (with_reducible refine lx_ite ?_ ?_)
      · kernel_rfl
      (with_reducible refine wp_go 109 #[.string (s.extract q E)] ?_ ?_)
      · kernel_rfl
      (with_reducible refine (HP.out _ hS3.2.1).mono ?_)
      rintro e wv4 ⟨rfl, hV4⟩
      have hS4 := held_go hS3 hV4
      refine hK.out _ _ hS4 (fun hHeld4 => ?_)
      clear hK K
      refine wpAnyH_take (i := 12) (v := .tuple #[(.agg #[.string t3, .string u3, .bool f3, .bool a3, .int .i64 p3, .int .i64 q3, .bool f4, .bool f5, .int .i64 p4, .int .i64 q4, .bool f6, .bool f7]), .int .i64 0, .int .i64 0]) rfl (by kernel_rfl) (by kernel_rfl) (by kernel_rfl) (fun _ _ _ h => h) (Or.inl ⟨by kernel_rfl, fun w hSw => by kernel_rfl⟩) hHeld4 ?_
      refine wpAnyH_take (i := 13) (v := (.agg #[.string t3, .string u3, .bool f3, .bool a3, .int .i64 p3, .int .i64 q3, .bool f4, .bool f5, .int .i64 p4, .int .i64 q4, .bool f6, .bool f7])) rfl (by kernel_rfl) (by kernel_rfl) (by kernel_rfl) (fun _ _ _ h => h) (Or.inl ⟨by kernel_rfl, fun w hSw => by kernel_rfl⟩) hHeld4 ?_
      refine wpAnyH_take (i := 14) (v := .int .i64 0) rfl (by kernel_rfl) (by kernel_rfl) (by kernel_rfl) (fun _ _ _ h => h) (Or.inl ⟨by kernel_rfl, fun w hSw => by kernel_rfl⟩) hHeld4 ?_
      refine wpAnyH_take (i := 15) (v := .int .i64 0) rfl (by kernel_rfl) (by kernel_rfl) (by kernel_rfl) (fun _ _ _ h => h) (Or.inl ⟨by kernel_rfl, fun w hSw => by kernel_rfl⟩) hHeld4 ?_
      refine wpAnyH_ready (rs := [17]) (by kernel_rfl) (by simp) ?_
      refine AllReadyH.cons rfl (fun K hK => ?_) AllReadyH.nil
      (with_reducible refine lx_ite ?_ ?_)
      · kernel_rfl
      have hR := (RAt.fr (show RAt ((W.drew).alloc (.cells #[.string ⟨#[]⟩, .string ⟨#[]⟩, .bool false, .bool false, .int .i64 0, .int .i64 0, .bool false, .bool false, .int .i64 0, .int .i64 0, .bool false, .bool false] 26 (0, 0))) (W.drew).heap.size ⟨#[]⟩ ⟨#[]⟩ false false 0 0 false false 0 0 false false from ⟨heap_alloc_new _ _⟩) hV4 id)
      have hSt := lx_store_ref wv4 (W.drew).heap.size t3 u3 f3 a3 p3 q3 f4 f5 p4 q4 f6 f7 hR
      (with_reducible refine lx_wp_store 26 (.tmp 5) (.tmp 41) (.pointer (some ⟨(W.drew).heap.size, 0, none⟩)) (.agg #[.string t3, .string u3, .bool f3, .bool a3, .int .i64 p3, .int .i64 q3, .bool f4, .bool f5, .int .i64 p4, .int .i64 q4, .bool f6, .bool f7]) ?_ ?_ ?_ hSt ?_)
      · kernel_rfl
      · kernel_rfl
      · kernel_rfl
      clear hSt
      have hB9 : w.heap.size < (W.drew).heap.size := (by have := lt_of_block hS0.2.2.2.o; omega)
      obtain ⟨V9, hV9, hS9, hR9⟩ := held_store hS4 hR hB9 (by omega) t3 u3 f3 a3 p3 q3 f4 f5 p4 q4 f6 f7
      rw [hV9]
      refine hK.out _ _ hS9 (fun hHeld9 => ?_)
      clear hK K
      refine wpAnyH_take (i := 18) (v := .int .i64 0) rfl (by kernel_rfl) (by kernel_rfl) (by kernel_rfl) (fun _ _ _ h => h) (Or.inl ⟨by kernel_rfl, fun w hSw => by kernel_rfl⟩) hHeld9 ?_
      refine wpAnyH_take (i := 19) (v := .int .i64 0) rfl (by kernel_rfl) (by kernel_rfl) (by kernel_rfl) (fun _ _ _ h => h) (Or.inl ⟨by kernel_rfl, fun w hSw => by kernel_rfl⟩) hHeld9 ?_
      refine wpAnyH_done (by kernel_rfl) ?_ _
      refine lx_to { tmps := #[.pointer (some ⟨rb, 0, none⟩), undef, .pointer (some ⟨w.heap.size, 0, none⟩), .int .i64 0, .int .i64 (q : Int), .pointer (some ⟨(W.drew).heap.size, 0, none⟩), .int .i64 0, .int .i64 0, .pointer (some ⟨rb, 0, none⟩), .int .i32 r0, .pointer (some ⟨rb, 0, none⟩), .pointer (some ⟨rb, 0, none⟩), .pointer (some ⟨rb, 1, none⟩), .int .i64 (q : Int), .pointer (some ⟨rb, 0, none⟩), .int .i32 93, .bool false, .bool false, .bool true, .bool true, x20, x21, undef, undef, undef, undef, undef, undef, .tuple #[(.agg #[.string t3, .string u3, .bool f3, .bool a3, .int .i64 p3, .int .i64 q3, .bool f4, .bool f5, .int .i64 p4, .int .i64 q4, .bool f6, .bool f7]), .int .i64 0, .int .i64 0], .pointer (some ⟨rb, 0, none⟩), .pointer (some ⟨rb, 0, none⟩), .pointer (some ⟨rb, 0, none⟩), .string s, .int .i64 (q : Int), .pointer (some ⟨rb, 0, none⟩), .pointer (some ⟨rb, 0, none⟩), .pointer (some ⟨rb, 1, none⟩), .int .i64 (c : Int), .int .i64 (E : Int), .string (s.extract q E), .tuple #[(.agg #[.string t3, .string u3, .bool f3, .bool a3, .int .i64 p3, .int .i64 q3, .bool f4, .bool f5, .int .i64 p4, .int .i64 q4, .bool f6, .bool f7]), .int .i64 0, .int .i64 0], (.agg #[.string t3, .string u3, .bool f3, .bool a3, .int .i64 p3, .int .i64 q3, .bool f4, .bool f5, .int .i64 p4, .int .i64 q4, .bool f6, .bool f7]), .int .i64 0, .int .i64 0, undef, undef, undef, undef], defers := [] } (by kernel_rfl) ?_
      have hlt9 : w.heap.size ≠ (W.drew).heap.size := by omega
      clear hS0 hS3 hS4 hR hV4
      generalize (W.drew).heap.size = rk at *
      have g0 := hR9.g0; have g1 := hR9.g1; have g2 := hR9.g2; have g3 := hR9.g3; have g4 := hR9.g4; have g5 := hR9.g5; have g6 := hR9.g6; have g7 := hR9.g7; have g8 := hR9.g8; have g9 := hR9.g9; have g10 := hR9.g10; have g11 := hR9.g11; have o0 := hS9.2.2.2.g0; have o1 := hS9.2.2.2.g1; have o2 := hS9.2.2.2.g2; have o3 := hS9.2.2.2.g3; have o4 := hS9.2.2.2.g4; have o5 := hS9.2.2.2.g5; have o6 := hS9.2.2.2.g6; have o7 := hS9.2.2.2.g7; have o8 := hS9.2.2.2.g8; have o9 := hS9.2.2.2.g9; have o10 := hS9.2.2.2.g10; have o11 := hS9.2.2.2.g11; have of := hS9.2.2.2.f
      go_wp2_with fail
      rw [jumpsTo_ret]
      exact bodyPost_ret (lx_rret Tryz.results79 _ _ w.heap.size rfl rfl (hS9.2.2.2.all _ _ _ _ _ _ _ _ _ _ _ _)) rfl ⟨rfl, LAt.allO hS9.1 (by omega) _ _ _ _ _ _ _ _ _ _ _ _, hS9.2.1.all (Or.inr (Nat.le_refl _)) _ _ _ _ _ _ _ _ _ _ _ _⟩
#print axioms bracket_lx
end Go.Proofs.YtkohohjpnlhioaaGreatDoor
