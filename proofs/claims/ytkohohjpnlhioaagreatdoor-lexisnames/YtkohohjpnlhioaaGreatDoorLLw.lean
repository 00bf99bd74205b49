/- LexisNames: the law's walk. -/
import Derived.Test.YtkohohjpnlhioaaGreatDoorK35
import Derived.Test.YtkohohjpnlhioaaGreatDoorK47
namespace Go.Proofs.YtkohohjpnlhioaaGreatDoor
open Go.RowKit Go.Shelf

/-- All tables that the law's road looks into. -/
structure AllT (w : World) : Prop where
  l : LTabs w
  n : NTab w
  u : UTab_r w
  e : EvTab w
theorem AllT.fr {w w' : World} (h : AllT w) (hF : Fr noB w w') : AllT w' := ⟨h.l.fr hF, h.n.fr hF, h.u.fr hF, h.e.fr hF⟩
theorem tpv_no {c : Bool} (T : ByteArray) (h : c = false) : tpv c T = .tuple #[.string ⟨#[]⟩, .int .i64 1] := by rw [h]; rfl
theorem tpv_pair (c : Bool) (T : ByteArray) : ∃ a b, tpv c T = .tuple #[.string a, .int .i64 b] := by
  cases c
  · exact ⟨_, _, rfl⟩
  · exact ⟨_, _, rfl⟩
theorem wrL_pos (L : List UInt8) (e : Int) (h : 1 ≤ L.length) : 1 ≤ (wrL L e).length := by
  unfold wrL
  split
  · rw [List.length_append, List.length_cons]; omega
  · split
    · rw [List.length_cons]; omega
    · split
      · rw [List.length_append]; omega
      · rw [List.length_append, List.length_cons]; omega
theorem emp_dec : decide ((⟨#[]⟩ : ByteArray).size ≠ 0) = false := rfl
theorem tt_fin {x : Nat} (h : finB x = true) : (baL (ttL x)).size ≠ 0 := by
  rw [baL_size]
  unfold ttL
  rw [if_neg (by rw [h]; simp), List.length_append]
  have hd := (dg_facts x h).1
  have := wrL_pos (dgL x) (dgE x) hd
  omega
theorem tt_inf {x : Nat} (h : finB x = false) : (baL (ttL x)).size = 0 := by
  rw [baL_size]
  unfold ttL
  rw [if_pos h]
  rfl
theorem brk_size (r1 r2 : ByteArray) (r3 r4 : Bool) (r5 r6 : Int) (r7 r8 : Bool) (r9 r10 : Int) (r11 r12 : Bool) : decide ((brk r1 r2 r3 r4 r5 r6 r7 r8 r9 r10 r11 r12).size ≠ 0) = decide (chkF r1 r2 r3 r4 r5 r6 r9 r10 r11 r12 = 0) := by
  unfold brk
  by_cases h : chkF r1 r2 r3 r4 r5 r6 r9 r10 r11 r12 = 0
  · rw [if_pos h, decide_eq_true h]
    refine decide_eq_true ?_
    rw [ByteArray.size_append, ByteArray.size_append, show (⟨#[91]⟩ : ByteArray).size = 1 from rfl]
    omega
  · rw [if_neg h, decide_eq_false h]
    rfl
theorem nm_pos {t : ByteArray} (h : nmF t = true) : t.size ≠ 0 := by
  intro e
  rw [nmF_no (fun f => by omega)] at h
  cases h
theorem iss_pos {t : ByteArray} (h : isS t = true) : t.size ≠ 0 := by
  intro e
  have := isS_no (s := t) (fun i hi f => by have := sg_pos i hi; rw [← f] at this; omega)
  rw [h] at this
  cases this
theorem text_both (k : Int) (x : Nat) (t : ByteArray) (r1 r2 : ByteArray) (r3 r4 : Bool) (r5 r6 : Int) (r7 r8 : Bool) (r9 r10 : Int) (r11 r12 : Bool) (er pl : Int) (hx : x < 18446744073709551616) (ht : t.size ≤ 140737488355328) (h1 : r1.size ≤ 140737488355328) (h2 : r2.size ≤ 140737488355328) :
    ∃ (a : ByteArray) (b : Int), (∀ w, AllT w → Calls Tryz.prog 6 #[(.agg #[.int .i64 k, .float .f64 x, .string t, .string r1, .string r2, .bool r3, .bool r4, .int .i64 r5, .int .i64 r6, .bool r7, .bool r8, .int .i64 r9, .int .i64 r10, .bool r11, .bool r12, .int .i64 er, .int .i64 pl])] w fun e w' => e = .returned (.tuple #[.string a, .int .i64 b]) ∧ Fr noB w w') ∧ (∀ w, AllT w → Calls Tryz.prog 7 #[(.agg #[.int .i64 k, .float .f64 x, .string t, .string r1, .string r2, .bool r3, .bool r4, .int .i64 r5, .int .i64 r6, .bool r7, .bool r8, .int .i64 r9, .int .i64 r10, .bool r11, .bool r12, .int .i64 er, .int .i64 pl])] w fun e w' => e = .returned (.tuple #[.string a, .int .i64 b]) ∧ Fr noB w w') := by
  by_cases k1 : k = 1
  · subst k1
    obtain ⟨a, b, hab⟩ := tpv_pair (t.toList.isEmpty && rz r1 r2 r3 r4 r5 r6 r7 r8 r9 r10 r11 r12 && (er == 0) && finB x && decide (x < 9223372036854775808)) (baL (ttL x))
    refine ⟨a, b, fun w hT => ?_, fun w hT => ?_⟩
    · rw [← hab]
      by_cases hs : x < 9223372036854775808
      · have h := text_gen 1 x t r1 r2 r3 r4 r5 r6 r7 r8 r9 r10 r11 r12 er pl w (by decide) _ _ (fun W => bare_lx1 x t r1 r2 r3 r4 r5 r6 r7 r8 r9 r10 r11 r12 er pl W) (fun W hW => wr1n x t r1 r2 r3 r4 r5 r6 r7 r8 r9 r10 r11 r12 er pl W hs (hT.fr hW).n)
        have e : tpv ((Op.floatEq .f64 x x && t.toList.isEmpty && rz r1 r2 r3 r4 r5 r6 r7 r8 r9 r10 r11 r12 && (er == 0)) && decide ((baL (ttL x)).size ≠ 0)) (baL (ttL x)) = tpv (t.toList.isEmpty && rz r1 r2 r3 r4 r5 r6 r7 r8 r9 r10 r11 r12 && (er == 0) && finB x && decide (x < 9223372036854775808)) (baL (ttL x)) := by
          congr 1
          rw [decide_eq_true hs]
          cases hf : finB x with
          | true => rw [eq_self hf, decide_eq_true (tt_fin hf)]; simp
          | false => rw [decide_eq_false (by simpa using tt_inf hf)]; simp
        rw [e] at h
        exact h
      · have h := text_gen 1 x t r1 r2 r3 r4 r5 r6 r7 r8 r9 r10 r11 r12 er pl w (by decide) _ _ (fun W => bare_lx1 x t r1 r2 r3 r4 r5 r6 r7 r8 r9 r10 r11 r12 er pl W) (fun W hW => wr1s x t r1 r2 r3 r4 r5 r6 r7 r8 r9 r10 r11 r12 er pl W (by omega) hx)
        rw [tpv_no _ (by rw [emp_dec, Bool.and_false])] at h
        rw [tpv_no _ (by rw [decide_eq_false hs, Bool.and_false])]
        exact h
    · rw [← hab]
      exact rt1 x t r1 r2 r3 r4 r5 r6 r7 r8 r9 r10 r11 r12 er pl w hx hT.n _ (fun W => zero_lx1 x t r1 r2 r3 r4 r5 r6 r7 r8 r9 r10 r11 r12 er pl W)
  by_cases k2 : k = 2
  · subst k2
    obtain ⟨a, b, hab⟩ : ∃ a b, (if (Op.floatEq .f64 x 0 && rz r1 r2 r3 r4 r5 r6 r7 r8 r9 r10 r11 r12 && (er == 0)) = true then qtV t else .tuple #[.string ⟨#[]⟩, .int .i64 1]) = .tuple #[.string a, .int .i64 b] := by
      split
      · exact ⟨_, _, rfl⟩
      · exact ⟨_, _, rfl⟩
    refine ⟨a, b, fun w hT => ?_, fun w hT => ?_⟩
    · rw [← hab]
      exact text_two x t r1 r2 r3 r4 r5 r6 r7 r8 r9 r10 r11 r12 er pl w hT.l.x _ (fun W => bare_lx0 2 x t r1 r2 r3 r4 r5 r6 r7 r8 r9 r10 r11 r12 er pl W (by decide) (by decide) (by decide))
    · rw [← hab]
      exact rt2 x t r1 r2 r3 r4 r5 r6 r7 r8 r9 r10 r11 r12 er pl w ht hT.l.t _ (fun W => zero_lx2 x t r1 r2 r3 r4 r5 r6 r7 r8 r9 r10 r11 r12 er pl W)
  by_cases k3 : k = 3
  · subst k3
    obtain ⟨a, b, hab⟩ := tpv_pair ((Op.floatEq .f64 x 0 && t.toList.isEmpty && (er == 0)) && decide (chkF r1 r2 r3 r4 r5 r6 r9 r10 r11 r12 = 0)) (brk r1 r2 r3 r4 r5 r6 r7 r8 r9 r10 r11 r12)
    refine ⟨a, b, fun w hT => ?_, fun w hT => ?_⟩
    · rw [← hab, ← brk_size]
      exact text_gen 3 x t r1 r2 r3 r4 r5 r6 r7 r8 r9 r10 r11 r12 er pl w (by decide) _ _ (fun W => bare_lx3 x t r1 r2 r3 r4 r5 r6 r7 r8 r9 r10 r11 r12 er pl W) (fun W hW => wr3 x t r1 r2 r3 r4 r5 r6 r7 r8 r9 r10 r11 r12 er pl W (hT.fr hW).u)
    · rw [← hab]
      exact rt3 x t r1 r2 r3 r4 r5 r6 r7 r8 r9 r10 r11 r12 er pl w h1 h2 hT.l.t hT.u _ (fun W => zero_lx3 x t r1 r2 r3 r4 r5 r6 r7 r8 r9 r10 r11 r12 er pl W)
  by_cases k4 : k = 4
  · subst k4
    obtain ⟨a, b, hab⟩ := tpv_pair ((Op.floatEq .f64 x 0 && rz r1 r2 r3 r4 r5 r6 r7 r8 r9 r10 r11 r12 && (er == 0)) && nmF t) t
    refine ⟨a, b, fun w hT => ?_, fun w hT => ?_⟩
    · rw [← hab]
      cases hn : nmF t with
      | true =>
        have h := text_gen 4 x t r1 r2 r3 r4 r5 r6 r7 r8 r9 r10 r11 r12 er pl w (by decide) _ _ (fun W => bare_lx0 4 x t r1 r2 r3 r4 r5 r6 r7 r8 r9 r10 r11 r12 er pl W (by decide) (by decide) (by decide)) (fun W hW => wr4t x t r1 r2 r3 r4 r5 r6 r7 r8 r9 r10 r11 r12 er pl W hn (by omega))
        rw [decide_eq_true (nm_pos hn)] at h
        exact h
      | false =>
        have h := text_gen 4 x t r1 r2 r3 r4 r5 r6 r7 r8 r9 r10 r11 r12 er pl w (by decide) _ _ (fun W => bare_lx0 4 x t r1 r2 r3 r4 r5 r6 r7 r8 r9 r10 r11 r12 er pl W (by decide) (by decide) (by decide)) (fun W hW => wr4f x t r1 r2 r3 r4 r5 r6 r7 r8 r9 r10 r11 r12 er pl W hn)
        rw [tpv_no _ (by rw [emp_dec, Bool.and_false])] at h
        rw [tpv_no _ (Bool.and_false _)]
        exact h
    · rw [← hab]
      exact rt4 x t r1 r2 r3 r4 r5 r6 r7 r8 r9 r10 r11 r12 er pl w _ (fun W => zero_lx4 x t r1 r2 r3 r4 r5 r6 r7 r8 r9 r10 r11 r12 er pl W)
  by_cases k6 : k = 6
  · subst k6
    obtain ⟨a, b, hab⟩ := tpv_pair ((Op.floatEq .f64 x 0 && rz r1 r2 r3 r4 r5 r6 r7 r8 r9 r10 r11 r12 && (er == 0)) && isS t) t
    refine ⟨a, b, fun w hT => ?_, fun w hT => ?_⟩
    · rw [← hab]
      cases hn : isS t with
      | true =>
        have h := text_gen 6 x t r1 r2 r3 r4 r5 r6 r7 r8 r9 r10 r11 r12 er pl w (by decide) _ _ (fun W => bare_lx0 6 x t r1 r2 r3 r4 r5 r6 r7 r8 r9 r10 r11 r12 er pl W (by decide) (by decide) (by decide)) (fun W hW => wr6t x t r1 r2 r3 r4 r5 r6 r7 r8 r9 r10 r11 r12 er pl W hn (by omega) (hT.fr hW).l.s)
        rw [decide_eq_true (iss_pos hn)] at h
        exact h
      | false =>
        have h := text_gen 6 x t r1 r2 r3 r4 r5 r6 r7 r8 r9 r10 r11 r12 er pl w (by decide) _ _ (fun W => bare_lx0 6 x t r1 r2 r3 r4 r5 r6 r7 r8 r9 r10 r11 r12 er pl W (by decide) (by decide) (by decide)) (fun W hW => wr6f x t r1 r2 r3 r4 r5 r6 r7 r8 r9 r10 r11 r12 er pl W hn (hT.fr hW).l.s)
        rw [tpv_no _ (by rw [emp_dec, Bool.and_false])] at h
        rw [tpv_no _ (Bool.and_false _)]
        exact h
    · rw [← hab]
      exact rt6 x t r1 r2 r3 r4 r5 r6 r7 r8 r9 r10 r11 r12 er pl w ht _ (fun W => zero_lx6 x t r1 r2 r3 r4 r5 r6 r7 r8 r9 r10 r11 r12 er pl W)
  by_cases k5 : k = 5
  · subst k5
    obtain ⟨a, b, hab⟩ := tpv_pair ((Op.floatEq .f64 x 0 && t.toList.isEmpty && rz r1 r2 r3 r4 r5 r6 r7 r8 r9 r10 r11 r12) && decide ((eT er).size ≠ 0)) (eT er)
    refine ⟨a, b, fun w hT => ?_, fun w hT => ?_⟩
    · rw [← hab]
      exact text_gen 5 x t r1 r2 r3 r4 r5 r6 r7 r8 r9 r10 r11 r12 er pl w (by decide) _ _ (fun W => bare_lx5 x t r1 r2 r3 r4 r5 r6 r7 r8 r9 r10 r11 r12 er pl W) (fun W hW => wr5 x t r1 r2 r3 r4 r5 r6 r7 r8 r9 r10 r11 r12 er pl W (hT.fr hW).e)
    · rw [← hab]
      exact rt5 x t r1 r2 r3 r4 r5 r6 r7 r8 r9 r10 r11 r12 er pl w _ (fun W => zero_lx5 x t r1 r2 r3 r4 r5 r6 r7 r8 r9 r10 r11 r12 er pl W)
  refine ⟨⟨#[]⟩, 1, fun w hT => ?_, fun w hT => ?_⟩
  · have h := text_gen k x t r1 r2 r3 r4 r5 r6 r7 r8 r9 r10 r11 r12 er pl w k2 _ _ (fun W => bare_lx0 k x t r1 r2 r3 r4 r5 r6 r7 r8 r9 r10 r11 r12 er pl W k1 k3 k5) (fun W hW => wr0 k x t r1 r2 r3 r4 r5 r6 r7 r8 r9 r10 r11 r12 er pl W k1 k3 k4 k5 k6)
    rw [tpv_no _ (by rw [emp_dec, Bool.and_false])] at h
    exact h
  · exact rt0 k x t r1 r2 r3 r4 r5 r6 r7 r8 r9 r10 r11 r12 er pl w k1 k2 k3 k4 k5 k6 (fun W => zero_lx0 k x t r1 r2 r3 r4 r5 r6 r7 r8 r9 r10 r11 r12 er pl W k1 k2 k3 k4 k5 k6)
set_option maxRecDepth 100000 in
set_option maxHeartbeats 2000000 in
theorem names_walk_lx (sv : ByteArray) (k : Int) (x : Nat) (t : ByteArray) (r1 r2 : ByteArray) (r3 r4 : Bool) (r5 r6 : Int) (r7 r8 : Bool) (r9 r10 : Int) (r11 r12 : Bool) (er pl : Int) (w : World) (hT : AllT w) (hs : sv.size ≤ 140737488355328) (hx : x < 18446744073709551616) (ht : t.size ≤ 140737488355328) (h1 : r1.size ≤ 140737488355328) (h2 : r2.size ≤ 140737488355328) :
    Calls Tryz.prog 3 #[.string sv, (.agg #[.int .i64 k, .float .f64 x, .string t, .string r1, .string r2, .bool r3, .bool r4, .int .i64 r5, .int .i64 r6, .bool r7, .bool r8, .int .i64 r9, .int .i64 r10, .bool r11, .bool r12, .int .i64 er, .int .i64 pl])] w fun e w' => e = .returned (.bool true) ∧ Below w.heap.size w w' := by
  obtain ⟨a, b, HP, HR⟩ := text_both k x t r1 r2 r3 r4 r5 r6 r7 r8 r9 r10 r11 r12 er pl hx ht h1 h2
  obtain ⟨qa, qb, hq⟩ : ∃ a b, qtV sv = .tuple #[.string a, .int .i64 b] := ⟨_, _, rfl⟩
  have H1 : Hid (∀ W, AllT W → Calls Tryz.prog 4 #[.string sv] W fun e w' => e = .returned (.tuple #[.string qa, .int .i64 qb]) ∧ Fr noB W w') := fun W hW => by rw [← hq]; exact quote_lx sv W hW.l.x
  have H2 : Hid (∀ W, AllT W → Calls Tryz.prog 5 #[.string sv] W fun e w' => e = .returned (.tuple #[.string qa, .int .i64 qb]) ∧ Fr noB W w') := fun W hW => by rw [← hq]; exact rquote_lx sv W hs hW.l.t
  have H3 : Hid _ := HP
  have H4 : Hid _ := HR
  have H5 : Hid (∀ W, AllT W → Calls Tryz.prog 8 #[] W fun e w' => e = .returned (.bool true) ∧ Fr noB W w') := fun W hW => begun_lx W hW.l
  have H6 := name_pr sv
  have H7 := rname_lx sv
  generalize nmF sv = N at *
  clear HP HR hq
  have HT : Hid (∀ W, Fr noB w W → AllT W) := fun W hW => hT.fr hW
  clear hT
  go_enter Tryz.func3, Tryz.ntmps3
  go_upto_region 1 with fail
  obtain ⟨W0, hW0⟩ : ∃ W0, w.alloc (.cells #[.int .i64 k, .float .f64 x, .string t, .string r1, .string r2, .bool r3, .bool r4, .int .i64 r5, .int .i64 r6, .bool r7, .bool r8, .int .i64 r9, .int .i64 r10, .bool r11, .bool r12, .int .i64 er, .int .i64 pl] 28 (0, 0)) = W0 := ⟨_, rfl⟩
  have hA : W0.heap[w.heap.size]? = some (.cells #[.int .i64 k, .float .f64 x, .string t, .string r1, .string r2, .bool r3, .bool r4, .int .i64 r5, .int .i64 r6, .bool r7, .bool r8, .int .i64 r9, .int .i64 r10, .bool r11, .bool r12, .int .i64 er, .int .i64 pl] 28 (0, 0)) := by rw [← hW0]; exact heap_alloc_new w _
  have HF : Hid (Fr noB w W0) := by rw [← hW0]; exact (Fr.refl noB w).alloc _
  rw [hW0]
  clear hW0
  have HA : Hid _ := hA
  obtain ⟨H, hH⟩ : ∃ H, w.heap.size = H := ⟨_, rfl⟩
  rw [hH] at HA ⊢
  have HH : Hid (w.heap.size = H) := hH
  clear hA hH
  go_upto_region 3 with (first
    | (go_at_call 4; refine (H1.out _ (HT.out _ HF.out)).mono ?_; rintro e w1 ⟨rfl, hF1⟩; have HF1 : Hid _ := HF.out.trans hF1)
    | (go_at_call 5; refine (H2.out _ (HT.out _ HF1.out)).mono ?_; rintro e w2 ⟨rfl, hF2⟩; have HF2 : Hid _ := HF1.out.trans hF2; have HA2 : Hid _ := (hF1.trans hF2).obj HA.out id))
  go_upto_region 4 with (first
    | (refine wpList_load_row rfl 28 (.tmp 3) rfl H rfl 28 #[.int .i64 k, .float .f64 x, .string t, .string r1, .string r2, .bool r3, .bool r4, .int .i64 r5, .int .i64 r6, .bool r7, .bool r8, .int .i64 r9, .int .i64 r10, .bool r11, .bool r12, .int .i64 er, .int .i64 pl] (0, 0) _ HA2.out Tryz.underlying28 rfl info_lx ?_)
    | (go_at_call 6; refine (H3.out _ (HT.out _ HF2.out)).mono ?_; rintro e w3 ⟨rfl, hF3⟩; have HF3 : Hid _ := HF2.out.trans hF3; have HA3 : Hid _ := hF3.obj HA2.out id))
  go_upto_region 5 with (first
    | (refine wpList_load_row rfl 28 (.tmp 3) rfl H rfl 28 #[.int .i64 k, .float .f64 x, .string t, .string r1, .string r2, .bool r3, .bool r4, .int .i64 r5, .int .i64 r6, .bool r7, .bool r8, .int .i64 r9, .int .i64 r10, .bool r11, .bool r12, .int .i64 er, .int .i64 pl] (0, 0) _ HA3.out Tryz.underlying28 rfl info_lx ?_)
    | (go_at_call 7; refine (H4.out _ (HT.out _ HF3.out)).mono ?_; rintro e w4 ⟨rfl, hF4⟩; have HF4 : Hid _ := HF3.out.trans hF4))
  go_wp2_with (first
    | (go_at_call 8; refine (H5.out _ (HT.out _ HF4.out)).mono ?_; rintro e w5 ⟨rfl, hF5⟩)
    | (go_at_call 9; refine (H6 _).mono ?_; rintro e w6 ⟨rfl, hF6⟩)
    | (go_at_call 10; refine (H7 _).mono ?_; rintro e w7 ⟨rfl, rfl⟩))
  go_ret
  exact ⟨rfl, (HF4.out.trans (hF5.trans hF6)).below (Nat.le_refl _) (fun _ h => h.elim)⟩
#print axioms text_both
#print axioms names_walk_lx
end Go.Proofs.YtkohohjpnlhioaaGreatDoor
