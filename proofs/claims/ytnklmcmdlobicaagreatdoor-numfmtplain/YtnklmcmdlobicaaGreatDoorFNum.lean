/- Number of a float that is finite: its contract. -/
import Derived.Test.YtnklmcmdlobicaaGreatDoorFGrp
import Derived.Test.YtnklmcmdlobicaaGreatDoorXFmF
import Derived.Deep.DeepCutAuto
namespace Go.Proofs.YtnklmcmdlobicaaGreatDoor
open Go.RowKit Ieee Go.Shelf

theorem cutPrefix_any (s p : ByteArray) (w : World) : Calls Tryz.prog 15 #[.string s, .string p] w fun e w' => e = .returned (.tuple #[.string (baL (Lib.trimPrefix s.data.toList p.data.toList)), .bool (Lib.hasPrefix s.data.toList p.data.toList)]) ∧ w' = w :=
  Any.strings_CutPrefix Tryz.laysLaysn103 s p w
def isDg (L : List UInt8) : Prop := ∀ z ∈ L, 48 ≤ z.toNat ∧ z.toNat ≤ 57
theorem rep_dg (k : Nat) : isDg (List.replicate k 48) := fun z hz => by
  have := List.eq_of_mem_replicate hz
  rw [this]
  decide
theorem rs_dg (L : List UInt8) (h : isDg L) : isDg (rsL L) := by
  obtain ⟨T, hT⟩ := trim_suffix L
  have hk : ∀ z ∈ Lib.trimRightB L 57, z ∈ L := fun z hz => by rw [hT]; exact List.mem_append_left _ hz
  have hla := trim_last L
  unfold rsL
  generalize Lib.trimRightB L 57 = K at *
  dsimp only
  split
  · rename_i he
    intro z hz
    rcases List.mem_cons.1 hz with rfl | hz
    · decide
    · exact rep_dg _ z hz
  · rename_i c he
    have hc := h c (hk c (List.mem_of_getLast? he))
    have hc57 := hla c he
    have hcn : c.toNat ≠ 57 := fun e => hc57 (UInt8.toNat_inj.1 e)
    intro z hz
    rcases List.mem_append.1 hz with hz | hz
    · exact h z (hk z (List.dropLast_subset _ hz))
    · rcases List.mem_cons.1 hz with rfl | hz
      · have e : (c + 1).toNat = c.toNat + 1 := by
          rw [UInt8.toNat_add]
          have : (1 : UInt8).toNat = 1 := rfl
          omega
        omega
      · exact rep_dg _ z hz
/-- The digits of a float with p places, rounded. -/
def dgX (x p : Nat) : List UInt8 := if 53 ≤ ((dF (absN x)).getD p 0).toNat then rsL (dW (absN x) ++ (dF (absN x)).take p) else dW (absN x) ++ (dF (absN x)).take p
theorem fxT_eq (x p : Nat) : fxT x p = fxL (decide (9223372036854775808 < x)) (dgX x p) p := rfl
theorem dgX_facts (x p : Nat) (hf : finB x = true) (hp : p ≤ 30) : isDg (dgX x p) ∧ p + 1 ≤ (dgX x p).length ∧ (dgX x p).length ≤ p + 401 := by
  have ha := abs_fin x hf
  obtain ⟨l1, l2, l3⟩ := dw_len (absN x) ha
  have hm := dw_mem (absN x) ha
  have hdg : isDg (dW (absN x) ++ (dF (absN x)).take p) := fun z hz => hm z (by
    rcases List.mem_append.1 hz with h | h
    · exact List.mem_append_left _ h
    · exact List.mem_append_right _ (List.mem_of_mem_take h))
  have hln : (dW (absN x) ++ (dF (absN x)).take p).length = (dW (absN x)).length + p := by rw [List.length_append, List.length_take]; omega
  unfold dgX
  split
  · have := rs_len (dW (absN x) ++ (dF (absN x)).take p)
    exact ⟨rs_dg _ hdg, by omega, by omega⟩
  · exact ⟨hdg, by omega, by omega⟩
/-- Ahead of the point, behind it. -/
def wX (x p : Nat) : List UInt8 := (dgX x p).take ((dgX x p).length - p)
def pX (x p : Nat) : List UInt8 := (dgX x p).drop ((dgX x p).length - p)
def bodyX (x p : Nat) : List UInt8 := if (pX x p).isEmpty = true then wX x p else wX x p ++ 46 :: pX x p
def sgX (x p : Nat) : Bool := fxB (decide (9223372036854775808 < x)) (dgX x p)
theorem fxT_parts (x p : Nat) : fxT x p = (if sgX x p = true then [45] else []) ++ bodyX x p := rfl
theorem wX_facts (x p : Nat) (hf : finB x = true) (hp : p ≤ 30) : isDg (wX x p) ∧ isDg (pX x p) ∧ 1 ≤ (wX x p).length ∧ (wX x p).length ≤ 401 ∧ (pX x p).length = p := by
  obtain ⟨h1, h2, h3⟩ := dgX_facts x p hf hp
  refine ⟨fun z hz => h1 z (List.mem_of_mem_take hz), fun z hz => h1 z (List.mem_of_mem_drop hz), ?_, ?_, ?_⟩
  · unfold wX; rw [List.length_take]; omega
  · unfold wX; rw [List.length_take]; omega
  · unfold pX; rw [List.length_drop]; omega
theorem no_sign {L : List UInt8} (h : isDg L) (c : UInt8) (hc : c.toNat < 48) : c ∉ L := fun hh => by
  have := h c hh
  omega
theorem body_head (x p : Nat) (hf : finB x = true) (hp : p ≤ 30) : Lib.hasPrefix (bodyX x p) [45] = false ∧ Lib.trimPrefix (bodyX x p) [45] = bodyX x p := by
  obtain ⟨h1, h2, h3, h4, h5⟩ := wX_facts x p hf hp
  have key : Lib.hasPrefix (bodyX x p) [45] = false := by
    unfold bodyX
    cases hw : wX x p with
    | nil => rw [hw] at h3; simp at h3
    | cons a t =>
      have ha := h1 a (by rw [hw]; simp)
      have hne : ¬ (45 : UInt8) = a := fun e => by rw [← e] at ha; exact absurd ha.1 (by decide)
      unfold Lib.hasPrefix
      split <;> simp [List.isPrefixOf, hne]
  exact ⟨key, by unfold Lib.trimPrefix; rw [key]; rfl⟩
theorem fx_prefix (x p : Nat) (hf : finB x = true) (hp : p ≤ 30) : Lib.hasPrefix (fxT x p) [45] = sgX x p ∧ Lib.trimPrefix (fxT x p) [45] = bodyX x p := by
  obtain ⟨h1, h2⟩ := body_head x p hf hp
  rw [fxT_parts]
  cases sgX x p with
  | true =>
    have e : Lib.hasPrefix ((if true = true then [45] else []) ++ bodyX x p) [45] = true := by simp [Lib.hasPrefix, List.isPrefixOf]
    exact ⟨e, by unfold Lib.trimPrefix; rw [e]; simp⟩
  | false => exact ⟨by simpa using h1, by simpa using h2⟩
theorem body_cut (x p : Nat) (hf : finB x = true) (hp : p ≤ 30) : ∃ b, Lib.cut (bodyX x p) [46] = (wX x p, pX x p, b) := by
  obtain ⟨h1, h2, h3, h4, h5⟩ := wX_facts x p hf hp
  have hn : (46 : UInt8) ∉ wX x p := no_sign h1 46 (by decide)
  unfold bodyX
  cases hq : (pX x p).isEmpty with
  | true =>
    have : pX x p = [] := List.isEmpty_iff.1 hq
    rw [if_pos rfl, this]
    exact ⟨false, cut_miss 46 _ hn⟩
  | false =>
    rw [if_neg (by simp)]
    exact ⟨true, cut_hit 46 _ _ hn⟩
/-- What Number says. -/
def w1X (x l p : Nat) : List UInt8 := if l = 0 ∧ 0 < p ∧ wX x p = [48] then [] else wX x p
def w2X (x l p : Nat) : List UInt8 := List.replicate (l - (w1X x l p).length) 48 ++ w1X x l p
def w3X (x l p : Nat) (g : Bool) : List UInt8 := if g = true then grpL (w2X x l p) else w2X x l p
def numX (x l p : Nat) (g : Bool) : List UInt8 := (if sgX x p = true then [45] else []) ++ (if (pX x p).isEmpty = true then w3X x l p g else w3X x l p g ++ 46 :: pX x p)
theorem eq48 (L : List UInt8) : ((baL L).toList == [48]) = decide (L = [48]) := by
  rw [ByteArray.toList_eq, baL_list]
  by_cases h : L = [48]
  · subst h; rfl
  · rw [decide_eq_false h, beq_eq_false_iff_ne]; exact h
set_option maxRecDepth 100000 in
set_option maxHeartbeats 4000000 in
theorem number_fin (x l p M : Nat) (g : Bool) (w : World) (hx : x < 18446744073709551616) (hf : finB x = true) (hl : l ≤ 20) (hp : p ≤ 15) (hX : XTab w) (hO : OTab w) (hT : CTab w M) :
    Calls Tryz.prog 6 #[.float .f64 x, .int .i64 (l : Int), .int .i64 (p : Int), .bool g] w fun e w' => e = .returned (.tuple #[.string (baL (numX x l p g)), .int .i64 0]) ∧ Fr noB w w' := by
  obtain ⟨f1, f2, f3, f4, f5⟩ := wX_facts x p hf (by omega)
  have HNF := numberFits_any (l : Int) (p : Int)
  rw [show nfB (l : Int) (p : Int) = true by unfold nfB; rw [decide_eq_true (by omega), decide_eq_true (by omega)]; rfl] at HNF
  have HFX := pfixed_fin x p M w hx hf (by omega) hX hO hT
  have HCP := cutPrefix_any (baL (fxT x p)) ⟨#[45]⟩
  rw [baL_list, show (⟨#[45]⟩ : ByteArray).data.toList = [45] from rfl, (fx_prefix x p hf (by omega)).1, (fx_prefix x p hf (by omega)).2] at HCP
  have hbl : (bodyX x p).length ≤ 1000 := by
    unfold bodyX
    split
    · omega
    · rw [List.length_append, List.length_cons]; omega
  obtain ⟨cb, hcb⟩ := body_cut x p hf (by omega)
  have HCT : Hid (∀ W, Fr noB w W → Calls Tryz.prog 16 #[.string (baL (bodyX x p)), .string ⟨#[46]⟩] W fun e w' => e = .returned (.tuple #[.string (baL (wX x p)), .string (baL (pX x p)), .bool cb]) ∧ Fr noB W w') := by
    intro W hW
    have h := cutS_any (baL (bodyX x p)) ⟨#[46]⟩ W (hX.fr hW) (by rw [baL_size]; omega)
    rw [baL_list, show (⟨#[46]⟩ : ByteArray).data.toList = [46] from rfl, hcb] at h
    refine h.mono ?_
    rintro e w' ⟨rfl, n, rfl⟩
    exact ⟨rfl, (Fr.refl _ _).drewN n⟩
  have hw1 : (w1X x l p).length ≤ 401 := by
    unfold w1X
    split
    · simp
    · exact f4
  have hd1 : isDg (w1X x l p) := by
    unfold w1X
    split
    · intro z hz; cases hz
    · exact f1
  have hw2 : (w2X x l p).length ≤ 421 := by unfold w2X; rw [List.length_append, List.length_replicate]; omega
  have hd2 : isDg (w2X x l p) := by
    intro z hz
    unfold w2X at hz
    rcases List.mem_append.1 hz with hz | hz
    · exact rep_dg _ z hz
    · exact hd1 z hz
  have HPD : Hid (∀ W, Calls Tryz.prog 17 #[.string (baL (w1X x l p)), .int .i64 (l : Int)] W fun e w' => e = .returned (.string (baL (w2X x l p))) ∧ Fr noB W w') := fun W => fpadded_any (w1X x l p) l (by omega) (by omega) W
  have HGR : Hid (∀ W, Calls Tryz.prog 18 #[.string (baL (w2X x l p))] W fun e w' => e = .returned (.string (baL (grpL (w2X x l p)))) ∧ Fr noB W w') := fun W => grouped_any (w2X x l p) (fun b hb => by have := hd2 b hb; omega) (by omega) W
  have hw3 : (w3X x l p g).length ≤ 842 := by
    unfold w3X
    split
    · have := grpA_len (w2X x l p).length (w2X x l p) 0
      unfold grpL
      omega
    · omega
  have HPT : Hid (∀ W, Calls Tryz.prog 20 #[.string (baL (w3X x l p g)), .string (baL (pX x p))] W fun e w' => e = .returned (.string (baL (if (pX x p).isEmpty = true then w3X x l p g else w3X x l p g ++ 46 :: pX x p))) ∧ w' = W) := fun W => fpointed_any _ _ (by omega) (by omega) W
  have HSG : Hid (∀ W, Calls Tryz.prog 19 #[.bool (sgX x p), .string (baL (if (pX x p).isEmpty = true then w3X x l p g else w3X x l p g ++ 46 :: pX x p))] W fun e w' => e = .returned (.string (baL (numX x l p g))) ∧ w' = W) := by
    intro W
    have h := fsigned_any (sgX x p) (baL (if (pX x p).isEmpty = true then w3X x l p g else w3X x l p g ++ 46 :: pX x p)) (by
      rw [baL_size]
      split
      · omega
      · rw [List.length_append, List.length_cons]; omega) W
    have e : (if sgX x p = true then ⟨#[45]⟩ ++ baL (if (pX x p).isEmpty = true then w3X x l p g else w3X x l p g ++ 46 :: pX x p) else baL (if (pX x p).isEmpty = true then w3X x l p g else w3X x l p g ++ 46 :: pX x p)) = baL (numX x l p g) := by
      unfold numX
      cases sgX x p with
      | true => rw [if_pos rfl, if_pos rfl]; exact baL_append [45] _
      | false => rw [if_neg (show ¬ (false = true) by simp), if_neg (show ¬ (false = true) by simp)]; rfl
    rw [e] at h
    exact h
  have heq := eq48 (wX x p)
  have HW1 : Hid ((l = 0 ∧ 0 < p ∧ wX x p = [48] → w1X x l p = []) ∧ (¬ (l = 0 ∧ 0 < p ∧ wX x p = [48]) → w1X x l p = wX x p)) := ⟨fun h => by unfold w1X; rw [if_pos h], fun h => by unfold w1X; rw [if_neg h]⟩
  have hg3 : (g = true → w3X x l p g = grpL (w2X x l p)) ∧ (g = false → w3X x l p g = w2X x l p) := ⟨fun h => by unfold w3X; rw [if_pos h], fun h => by unfold w3X; rw [h]; rfl⟩
  obtain ⟨bq, hbq⟩ : ∃ b, decide (l = 0 ∧ 0 < p ∧ wX x p = [48]) = b := ⟨_, rfl⟩
  have HBQ : Hid _ := hbq
  generalize hWB : baL (wX x p) = WB at *
  have HWB : Hid (baL (wX x p) = WB) := hWB
  generalize baL (fxT x p) = TX at *
  generalize baL (bodyX x p) = BX at *
  generalize baL (pX x p) = PB at *
  generalize baL (numX x l p g) = RX at *
  clear hX hO hT hcb hbl hw1 hd1 hw2 hd2 hw3 f1 f2 f3 f4 f5 hWB hbq
  go_enter Tryz.func6, Tryz.ntmps6
  go_upto_region 8 with (first
    | (go_at_call 13; with_reducible refine (HNF _).mono ?_; rintro e w1 ⟨rfl, h1⟩; subst h1)
    | (go_at_call 14; with_reducible refine HFX.mono ?_; rintro e w2 ⟨rfl, hF2⟩)
    | (go_at_call 15; with_reducible refine (HCP _).mono ?_; rintro e w3 ⟨rfl, h3⟩; subst h3)
    | (go_at_call 16; with_reducible refine (HCT.out _ hF2).mono ?_; rintro e w4 ⟨rfl, hF4⟩))
  have hF := hF2.trans hF4
  have HF : Hid _ := hF
  clear hF hF2 hF4 HNF HFX HCP HCT
  go_cut [50] (fun bv wc => bv = .bool bq ∧ wc = w4)
  case first =>
    by_cases h0 : l = 0
    · subst h0
      by_cases h1 : 0 < p
      · have h1' : (0 : Int) < (p : Int) := by omega
        have hb : decide (wX x p = [48]) = bq := by
          rw [← HBQ.out]
          by_cases h2 : wX x p = [48]
          · rw [decide_eq_true h2, decide_eq_true ⟨rfl, h1, h2⟩]
          · rw [decide_eq_false h2, decide_eq_false (fun h => h2 h.2.2)]
        rw [hb] at heq
        clear hb
        go_wp2_with fail
        go_meet
        exact ⟨rfl, rfl⟩
      · have h1' : decide ((0 : Int) < (p : Int)) = false := decide_eq_false (by omega)
        have h1'' : decide (0 < p) = false := decide_eq_false (by omega)
        have hb : bq = false := by rw [← HBQ.out]; exact decide_eq_false (fun h => h1 h.2.1)
        subst hb
        go_wp2_with fail
        go_meet
        exact ⟨rfl, rfl⟩
    · have h0' : ((l : Int) == 0) = false := by rw [beq_eq_false_iff_ne]; omega
      have h0'' : (l == 0) = false := by rw [beq_eq_false_iff_ne]; exact h0
      have hb : bq = false := by rw [← HBQ.out]; exact decide_eq_false (fun h => h0 h.1)
      subst hb
      go_wp2_with fail
      go_meet
      exact ⟨rfl, rfl⟩
  case rest =>
    obtain ⟨rfl, rfl⟩ := hcut
    go_upto_if 50 with fail
    go_cut [14] (fun sv wc2 => sv = .string (baL (w1X x l p)) ∧ wc2 = wc)
    case first =>
      cases bq with
      | true =>
        have hw := HW1.out.1 (of_decide_eq_true HBQ.out)
        go_wp2_with fail
        go_meet
        exact ⟨by rw [hw]; rfl, rfl⟩
      | false =>
        have hw := HW1.out.2 (of_decide_eq_false HBQ.out)
        go_wp2_with fail
        go_meet
        exact ⟨by rw [hw, HWB.out], rfl⟩
    case rest =>
      obtain ⟨rfl, hwc⟩ := hcut
      subst hwc
      generalize baL (if (pX x p).isEmpty = true then w3X x l p g else w3X x l p g ++ 46 :: pX x p) = PT at *
      generalize baL (w1X x l p) = W1 at *
      cases g with
      | true =>
        rw [hg3.1 rfl] at HPT
        generalize baL (grpL (w2X x l p)) = W3 at *
        generalize baL (w2X x l p) = W2 at *
        clear hg3 heq
        go_wp2_with (first
          | (go_at_call 17; with_reducible refine (HPD.out _).mono ?_; rintro e w5 ⟨rfl, hF5⟩)
          | (go_at_call 18; with_reducible refine (HGR.out _).mono ?_; rintro e w6 ⟨rfl, hF6⟩)
          | (go_at_call 20; with_reducible refine (HPT.out _).mono ?_; rintro e w7 ⟨rfl, h7⟩; subst h7)
          | (go_at_call 19; with_reducible refine (HSG.out _).mono ?_; rintro e w8 ⟨rfl, h8⟩; subst h8))
        go_ret2
        exact ⟨rfl, (HF.out.trans hF5).trans hF6⟩
      | false =>
        rw [hg3.2 rfl] at HPT
        generalize baL (w2X x l p) = W2 at *
        clear hg3 heq HGR
        go_wp2_with (first
          | (go_at_call 17; with_reducible refine (HPD.out _).mono ?_; rintro e w5 ⟨rfl, hF5⟩)
          | (go_at_call 20; with_reducible refine (HPT.out _).mono ?_; rintro e w7 ⟨rfl, h7⟩; subst h7)
          | (go_at_call 19; with_reducible refine (HSG.out _).mono ?_; rintro e w8 ⟨rfl, h8⟩; subst h8))
        go_ret2
        exact ⟨rfl, HF.out.trans hF5⟩
#print axioms number_fin
end Go.Proofs.YtnklmcmdlobicaaGreatDoor
