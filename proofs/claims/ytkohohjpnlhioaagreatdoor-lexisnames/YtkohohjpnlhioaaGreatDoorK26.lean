/- The reader that goes through a reference's text: hold, skip, need, run. -/
import Derived.Test.YtkohohjpnlhioaaGreatDoorK25
import Derived.Deep.RegionWith
import Derived.RegionTactic
namespace Go.Proofs.YtkohohjpnlhioaaGreatDoor
open Go.RowKit Go.Shelf

/-- What is thrown: a place and an error. -/
def thr (a : Nat) (c : Int) : Ending := .panicked [{ v := .iface 158 (.agg #[.int .i64 (a : Int), .int .i64 c]), recovered := false }]
set_option maxRecDepth 100000 in
theorem hold_ok (x c : Int) (w : World) : Calls Tryz.prog 183 #[.bool true, .int .i64 x, .int .i64 c] w fun e w' => e = .returned (.tuple #[]) ∧ w' = w := by
  go_enter Tryz.func183, Tryz.ntmps183
  go_wp2_with fail
  go_end0
  exact ⟨rfl, rfl⟩
set_option maxRecDepth 100000 in
theorem hold_no (a : Nat) (c : Int) (w : World) : Calls Tryz.prog 183 #[.bool false, .int .i64 (a : Int), .int .i64 c] w fun e w' => e = thr a c ∧ w' = w := by
  go_enter Tryz.func183, Tryz.ntmps183
  go_wp2_with fail
  exact ⟨rfl, rfl, rfl⟩

/-- A reader lies in block rb: its text, and where it is gone on. -/
structure RdAt (w : World) (rb : Nat) (s : ByteArray) (p : Nat) : Prop where
  at_ : w.heap[rb]? = some (.cells #[.string s, .int .i64 (p : Int)] 160 (0, 0))
theorem RdAt.fr {w w' : World} {rb : Nat} {s : ByteArray} {p : Nat} {S : Nat → Prop} (h : RdAt w rb s p) (hF : Fr S w w') (hs : ¬ S rb) : RdAt w' rb s p := ⟨hF.obj h.at_ hs⟩
theorem RdAt.c0 {w : World} {rb : Nat} {s : ByteArray} {p : Nat} (h : RdAt w rb s p) : w.cell? ⟨rb, 0, none⟩ = some (.string s) := cellOf h.at_ rfl
theorem RdAt.c1 {w : World} {rb : Nat} {s : ByteArray} {p : Nat} (h : RdAt w rb s p) : w.cell? ⟨rb, 1, none⟩ = some (.int .i64 (p : Int)) := cellOf h.at_ rfl
theorem RdAt.f1 {w : World} {rb : Nat} {s : ByteArray} {p : Nat} (h : RdAt w rb s p) : w.frozen? ⟨rb, 1, none⟩ = false := freeOf 1 h.at_
theorem RdAt.set {w : World} {rb : Nat} {s : ByteArray} {p : Nat} (h : RdAt w rb s p) (q : Nat) : RdAt (w.setCell ⟨rb, 1, none⟩ (.int .i64 (q : Int))) rb s q := ⟨setOf 1 _ h.at_⟩
theorem RdAt.lt {w : World} {rb : Nat} {s : ByteArray} {p : Nat} (h : RdAt w rb s p) : rb < w.heap.size := lt_of_block h.at_

theorem pre_one (s : ByteArray) (c p : Nat) (hp : p ≤ s.size) (hc : c < 256) : Lib.hasPrefix (s.extract p s.size).data.toList (⟨#[UInt8.ofNat c]⟩ : ByteArray).data.toList = isAt s c p := by
  unfold Lib.hasPrefix isAt
  have hz : (s.extract p s.size).size = s.size - p := by simp
  by_cases h : p < s.size
  · have hb := byt_tail s p 0 (by omega)
    rw [← byt_at _ 0 (by omega), Nat.add_zero] at hb
    have hl : (s.extract p s.size).data.toList = (s.extract p s.size)[0]'(by omega) :: (s.extract p s.size).data.toList.drop 1 := by
      have hl0 : 0 < (s.extract p s.size).data.toList.length := by simp; omega
      conv => lhs; rw [← List.drop_zero (l := (s.extract p s.size).data.toList), List.drop_eq_getElem_cons hl0]
      rfl
    rw [hl, decide_eq_true h, ← hb]
    generalize (s.extract p s.size)[0]'(by omega) = b
    show (UInt8.ofNat c == b && true) = (true && (b.toNat == c))
    rw [Bool.and_true, Bool.true_and, Bool.eq_iff_iff, beq_iff_eq, beq_iff_eq]
    constructor
    · intro e; rw [← e, UInt8.toNat_ofNat']; omega
    · intro e; rw [← e]; exact UInt8.ofNat_toNat
  · have hl : (s.extract p s.size).data.toList = [] := by
      have : (s.extract p s.size).data.toList.length = 0 := by simp; omega
      exact List.length_eq_zero_iff.1 this
    rw [hl, decide_eq_false h]
    rfl
theorem hasPre_any (s t : ByteArray) (w : World) : Calls Tryz.prog 83 #[.string s, .string t] w fun e w' => e = .returned (.bool (Lib.hasPrefix s.data.toList t.data.toList)) ∧ w' = w :=
  Any.strings_HasPrefix Tryz.laysLaysn99 s t w
set_option maxRecDepth 100000 in
set_option maxHeartbeats 2000000 in
theorem skip_any (rb : Nat) (s : ByteArray) (c p : Nat) (hc : c < 256) (w : World) (h : RdAt w rb s p) (hp : p ≤ s.size) (hz : s.size ≤ 140737488355328) :
    Calls Tryz.prog 181 #[.pointer (some ⟨rb, 0, none⟩), .string ⟨#[UInt8.ofNat c]⟩] w fun e w' => e = .returned (.bool (isAt s c p)) ∧ RdAt w' rb s (past s c p) ∧ Fr (oneB rb) w w' := by
  have d0 := h.c0
  have d1 := h.c1
  have f1 := h.f1
  have HH : Hid (RdAt w rb s p) := h
  have HP := hasPre_any (s.extract p s.size) ⟨#[UInt8.ofNat c]⟩
  rw [pre_one s c p hp hc] at HP
  have z1 : (⟨#[UInt8.ofNat c]⟩ : ByteArray).size = 1 := rfl
  generalize (⟨#[UInt8.ofNat c]⟩ : ByteArray) = t at *
  clear h
  cases hi : isAt s c p with
  | true =>
    have hp2 : p < s.size := by simp [isAt] at hi; exact hi.1
    have HS : Hid (past s c p = p + 1) := by show past s c p = _; unfold past; rw [if_pos hi]
    rw [hi] at HP
    clear hi
    go_enter Tryz.func181, Tryz.ntmps181
    go_wp2_with fail
    go_quiet ((go_at_call 83; exact Calls.quiet_of_same (HP _)))
    go_wp2_with fail
    go_ret
    rw [HS.out]
    refine ⟨rfl, ?_, ((Fr.refl _ w).drewN _).setOne _ _⟩
    exact (HH.out.fr ((Fr.refl noB w).drewN _) id).set (p + 1)
  | false =>
    have HS : Hid (past s c p = p) := by show past s c p = _; unfold past; rw [if_neg (by rw [hi]; simp)]
    rw [hi] at HP
    clear hi
    go_enter Tryz.func181, Tryz.ntmps181
    go_wp2_with fail
    go_quiet ((go_at_call 83; exact Calls.quiet_of_same (HP _)))
    go_wp2_with fail
    go_ret
    rw [HS.out]
    exact ⟨rfl, HH.out.fr ((Fr.refl noB w).drewN _) id, (Fr.refl _ w).drewN _⟩
set_option maxRecDepth 100000 in
set_option maxHeartbeats 4000000 in
theorem need_ok (rb : Nat) (s : ByteArray) (c p : Nat) (hc : c < 256) (w : World) (h : RdAt w rb s p) (hp : p ≤ s.size) (hz : s.size ≤ 140737488355328) (hi : isAt s c p = true) :
    Calls Tryz.prog 184 #[.pointer (some ⟨rb, 0, none⟩), .string ⟨#[UInt8.ofNat c]⟩] w fun e w' => e = .returned (.tuple #[]) ∧ RdAt w' rb s (p + 1) ∧ Fr (oneB rb) w w' := by
  have d1 := h.c1
  have HS : Hid (∀ W, RdAt W rb s p → Calls Tryz.prog 181 #[.pointer (some ⟨rb, 0, none⟩), .string ⟨#[UInt8.ofNat c]⟩] W fun e w' => e = .returned (.bool true) ∧ RdAt w' rb s (p + 1) ∧ Fr (oneB rb) W w') := fun W hW => by
    have e := skip_any rb s c p hc W hW hp hz
    rw [hi, show past s c p = p + 1 by unfold past; rw [if_pos hi]] at e
    exact e
  have HH : Hid (RdAt w rb s p) := h
  have H1 := HS.out w.drew (h.fr (Fr.refl noB w).drew id)
  clear h hi
  generalize (⟨#[UInt8.ofNat c]⟩ : ByteArray) = t at *
  go_enter Tryz.func184, Tryz.ntmps184
  go_wp2_with fail
  go_region_with (first | (go_at_call 181; refine (show Calls _ _ _ _ _ from H1).mono ?_; rintro e w1 ⟨rfl, hR, hF⟩; have d2 := hR.c1) | (go_at_call 183; refine (hold_ok _ _ _).mono ?_; rintro e w2 ⟨rfl, rfl⟩))
  all_goals
    go_end0
    exact ⟨rfl, hR, Fr.trans ((Fr.refl _ _).drew) hF⟩
#print axioms need_ok
#print axioms skip_any
end Go.Proofs.YtkohohjpnlhioaaGreatDoor
/- run: as far as characters of a kind go. -/
namespace Go.Proofs.YtkohohjpnlhioaaGreatDoor
open Go.RowKit Go.Shelf

set_option maxRecDepth 100000 in
theorem nqu_any (r : Nat) (w : World) : Calls Tryz.prog 234 #[.int .i32 (r : Int)] w fun e w' => e = .returned (.bool (nquK r)) ∧ w' = w := by
  go_enter Tryz.func234, Tryz.ntmps234
  go_wp2_with fail
  go_ret
  exact ⟨ret_bool_r (by unfold nquK; rw [Bool.eq_iff_iff]; simp; try omega), rfl⟩
set_option maxRecDepth 100000 in
theorem run1_any (g : Nat) (K : Nat → Bool) (eg : ∀ args w, (callFunc g args).run Tryz.prog w = .ok (.enter g args) w) (hg : ∀ (r : Nat) (W : World), Calls Tryz.prog g #[.int .i32 (r : Int)] W fun e w' => e = .returned (.bool (K r)) ∧ w' = W)
    (kb r : Nat) (W : World) (hc : W.cell? ⟨kb, 0, none⟩ = some (.func (.func g) #[] #[])) :
    Calls Tryz.prog 239 #[.int .i32 (r : Int), .pointer (some ⟨kb, 0, none⟩)] W fun e w' => e = .returned (.bool (!(K r))) ∧ w' = W := by
  go_enter Tryz.func239, Tryz.ntmps239
  go_wp2_with (go_at_fn g; refine (hg _ _).mono ?_; rintro e w1 ⟨rfl, rfl⟩)
  go_ret
  exact ⟨rfl, rfl⟩
/-- The index that IndexFunc tells, in words of the kind's end. -/
theorem idx_end (K : Nat → Bool) (c : Bool) (hk : Kin K K c) (s : ByteArray) : ∀ (f pos : Nat), s.size ≤ pos + f → pos ≤ s.size → Lib.idxFuncFrom (fun r => !(K r)) true s f pos = (if endK K s pos < s.size then (endK K s pos : Int) else -1)
  | 0, pos, h1, h2 => by
    rw [Lib.idxFuncFrom_end _ _ _ _ _ (by omega), endK_stop K s pos (by omega), if_neg (by omega)]
  | f + 1, pos, h1, h2 => by
    by_cases hp : pos < s.size
    · have hwd := width_pos s pos hp
      have hwf := width_fits s pos hp
      simp only [Lib.idxFuncFrom, hp, if_true]
      rcases Bool.eq_false_or_eq_true (K (Utf8.decode s pos).1) with hc | hc
      · have e := kin_yes hk s pos hp hc
        rw [e, if_neg (by rw [hc]; simp)]
        exact idx_end K c hk s f (pos + (Utf8.decode s pos).2) (by omega) hwf
      · have e := (kin_no hk s pos hp hc).1
        rw [e, if_pos (by rw [hc]; rfl), if_pos hp]
    · rw [Lib.idxFuncFrom_end _ _ _ _ _ hp, endK_stop K s pos (by omega), if_neg (by omega)]
set_option maxRecDepth 100000 in
theorem idxFunc_any (g : Nat) (K : Nat → Bool) (c : Bool) (hk : Kin K K c) (eg : ∀ args w, (callFunc g args).run Tryz.prog w = .ok (.enter g args) w) (hg : ∀ (r : Nat) (W : World), Calls Tryz.prog g #[.int .i32 (r : Int)] W fun e w' => e = .returned (.bool (K r)) ∧ w' = W)
    (kb : Nat) (s : ByteArray) (w : World) (hb : kb < w.heap.size) (hc : w.cell? ⟨kb, 0, none⟩ = some (.func (.func g) #[] #[])) :
    Calls Tryz.prog 238 #[.string s, .func (.func 239) #[] #[.pointer (some ⟨kb, 0, none⟩)]] w fun e w' => e = .returned (.int .i64 (if endK K s 0 < s.size then (endK K s 0 : Int) else -1)) ∧ Fr noB w w' := by
  have H := Any.strings_indexFunc Tryz.laysLaysn315 239 #[.pointer (some ⟨kb, 0, none⟩)] (enters_of Tryz.func239 (by kernel_rfl) rfl) (fun r => !(K r)) true s w (fun W x hbl => by
    refine (run1_any g K eg hg kb x W ?_).mono ?_
    · rw [← hc]
      exact hbl.cell (p := ⟨kb, 0, none⟩) hb
    · rintro e w' ⟨rfl, rfl⟩
      exact ⟨rfl, 0, rfl⟩)
  rw [show Lib.idxFunc (fun r => !(K r)) true s = _ from idx_end K c hk s _ 0 (by omega) (Nat.zero_le _)] at H
  generalize (if endK K s 0 < s.size then (endK K s 0 : Int) else -1) = V at *
  clear hc
  go_enter Tryz.func238, Tryz.ntmps238
  go_wp2_with (go_at_call 252; refine (show Calls Tryz.prog 252 _ _ _ from H).mono ?_; rintro e w1 ⟨rfl, hB⟩)
  go_ret
  exact ⟨rfl, Fr.ofBelow hB⟩

theorem tail_end (K : Nat → Bool) (s : ByteArray) (p : Nat) (hp : p ≤ s.size) : ∃ m, endK K (s.extract p s.size) 0 = m ∧ p + m = endK K s p ∧ p + m ≤ s.size ∧ (s.extract p s.size).size = s.size - p ∧ (s.extract p s.size).extract 0 m = s.extract p (endK K s p) := by
  have h1 := endK_tail K s p hp
  have hz : (s.extract p s.size).size = s.size - p := by simp
  have h2 := endK_le K (s.extract p s.size) 0 (Nat.zero_le _)
  refine ⟨_, rfl, h1, by omega, hz, ?_⟩
  rw [← h1]
  apply ByteArray.ext
  rw [ByteArray.data_extract, ByteArray.data_extract, ByteArray.data_extract, Array.extract_extract]
  congr 1
  omega
set_option maxRecDepth 100000 in
set_option maxHeartbeats 4000000 in
theorem run_any (g : Nat) (K : Nat → Bool) (c : Bool) (hk : Kin K K c) (eg : ∀ args w, (callFunc g args).run Tryz.prog w = .ok (.enter g args) w) (hg : ∀ (r : Nat) (W : World), Calls Tryz.prog g #[.int .i32 (r : Int)] W fun e w' => e = .returned (.bool (K r)) ∧ w' = W)
    (rb : Nat) (s : ByteArray) (p : Nat) (w : World) (h : RdAt w rb s p) (hp : p ≤ s.size) (hz : s.size ≤ 140737488355328) :
    Calls Tryz.prog 233 #[.pointer (some ⟨rb, 0, none⟩), .func (.func g) #[] #[]] w fun e w' => e = .returned (.string (s.extract p (endK K s p))) ∧ RdAt w' rb s (endK K s p) ∧ Fr (oneB rb) w w' := by
  obtain ⟨m, e1, e2, e3, e4, e5⟩ := tail_end K s p hp
  obtain ⟨q, hq⟩ : ∃ q, endK K s p = q := ⟨_, rfl⟩
  rw [hq] at e2 e5 ⊢
  have hlt := h.lt
  have hne : ¬ rb = w.heap.size := by omega
  obtain ⟨W0, hW0⟩ : ∃ W0, w.alloc (.cells #[.func (.func g) #[] #[]] 52 (0, 0)) = W0 := ⟨_, rfl⟩
  have hF0 : Fr noB w W0 := by rw [← hW0]; exact (Fr.refl noB w).alloc _
  have h0 : RdAt W0 rb s p := h.fr hF0 id
  have d0 := h0.c0
  have d1 := h0.c1
  have hkc : W0.heap[w.heap.size]? = some (.cells #[.func (.func g) #[] #[]] 52 (0, 0)) := by rw [← hW0]; exact heap_alloc_new w _
  obtain ⟨T, hT⟩ : ∃ T, s.extract p s.size = T := ⟨_, rfl⟩
  rw [hT] at e1 e4 e5
  have hTs : ((T.size : Nat) : Int) = (s.size : Int) - (p : Int) := by omega
  have HI : Hid (∀ W, Fr noB W0 W → Calls Tryz.prog 238 #[.string T, .func (.func 239) #[] #[.pointer (some ⟨w.heap.size, 0, none⟩)]] W fun e w' => e = .returned (.int .i64 (if m < T.size then (m : Int) else -1)) ∧ Fr noB W w') := fun W hW => by
    have := idxFunc_any g K c hk eg hg w.heap.size T W (lt_of_block (hW.obj hkc id)) (cellOf (hW.obj hkc id) rfl)
    rwa [e1] at this
  have HR : Hid (RdAt W0 rb s p) := h0
  have HQ : Hid (p + m = q) := e2
  have HE : Hid (T.extract 0 m = s.extract p q) := e5
  have hmf : ∀ (fn : Fn) (first cap : Array Value) (w : World), (Instr.makeFunc fn first cap).run Tryz.prog w = .ok (.func fn first cap) w := fun _ _ _ _ => rfl
  have hpm : (p : Int) + (m : Int) = (q : Int) := by omega
  have hql : (q : Int) ≤ (s.size : Int) := by omega
  have HF0 : Hid (Fr noB w W0) := hF0
  clear h h0 hF0 hkc e1 e2 e5 hq hg hk
  by_cases hm : m < T.size
  · have hm2 : ¬ (m : Int) < 0 := by omega
    have hm3 : (m : Int) ≤ (T.size : Int) := by omega
    have HJ : Hid (∀ W, Fr noB W0 W → Calls Tryz.prog 238 #[.string T, .func (.func 239) #[] #[.pointer (some ⟨w.heap.size, 0, none⟩)]] W fun e w' => e = .returned (.int .i64 (m : Int)) ∧ Fr noB W w') := fun W hW => by
      have := HI.out W hW
      rwa [if_pos hm] at this
    clear HI hm
    go_enter Tryz.func233, Tryz.ntmps233
    go_wp2_with fail
    try rw [hW0]
    go_quiet (fail)
    obtain ⟨W1, hW1⟩ : ∃ W1, W0.drewN nq = W1 := ⟨_, rfl⟩
    have hF1 : Fr noB W0 W1 := by rw [← hW1]; exact (Fr.refl noB _).drewN _
    rw [hW1]
    clear hW1 hT hW0
    go_wp2_with (go_at_call 238; refine (HJ.out _ hF1).mono ?_; rintro e W2 ⟨rfl, hF2⟩; have hR2 := HR.out.fr (hF1.trans hF2) id; have k1 := hR2.c1; have f1 := hR2.f1; have HR2 : Hid _ := hR2; clear hR2)
    go_ret
    rw [HE.out]
    exact ⟨rfl, HR2.out.set q, (((HF0.out.trans hF1).trans hF2).weak).setOne _ _⟩
  · have hm1 : T.size = m := by omega
    have HJ : Hid (∀ W, Fr noB W0 W → Calls Tryz.prog 238 #[.string T, .func (.func 239) #[] #[.pointer (some ⟨w.heap.size, 0, none⟩)]] W fun e w' => e = .returned (.int .i64 (-1)) ∧ Fr noB W w') := fun W hW => by
      have := HI.out W hW
      rwa [if_neg hm] at this
    clear HI hm e4 hTs
    go_enter Tryz.func233, Tryz.ntmps233
    go_wp2_with fail
    try rw [hW0]
    go_quiet (fail)
    obtain ⟨W1, hW1⟩ : ∃ W1, W0.drewN nq = W1 := ⟨_, rfl⟩
    have hF1 : Fr noB W0 W1 := by rw [← hW1]; exact (Fr.refl noB _).drewN _
    rw [hW1]
    clear hW1 hT hW0
    go_wp2_with (go_at_call 238; refine (HJ.out _ hF1).mono ?_; rintro e W2 ⟨rfl, hF2⟩; have hR2 := HR.out.fr (hF1.trans hF2) id; have k1 := hR2.c1; have f1 := hR2.f1; have HR2 : Hid _ := hR2; clear hR2)
    go_ret
    rw [HE.out]
    exact ⟨rfl, HR2.out.set q, (((HF0.out.trans hF1).trans hF2).weak).setOne _ _⟩
#print axioms idxFunc_any
end Go.Proofs.YtkohohjpnlhioaaGreatDoor
/- Columns, rows and names that the reader reads: where all is well, and where something is not. -/
namespace Go.Proofs.YtkohohjpnlhioaaGreatDoor
open Go.RowKit Go.Shelf

theorem run_cap (rb : Nat) (s : ByteArray) (p : Nat) (w : World) (h : RdAt w rb s p) (hp : p ≤ s.size) (hz : s.size ≤ 140737488355328) :
    Calls Tryz.prog 233 #[.pointer (some ⟨rb, 0, none⟩), .func (.func 227) #[] #[]] w fun e w' => e = .returned (.string (s.extract p (endK capK s p))) ∧ RdAt w' rb s (endK capK s p) ∧ Fr (oneB rb) w w' :=
  run_any 227 capK false kin_cap (enters_of Tryz.func227 (by kernel_rfl) rfl) cap_any rb s p w h hp hz
theorem run_dig (rb : Nat) (s : ByteArray) (p : Nat) (w : World) (h : RdAt w rb s p) (hp : p ≤ s.size) (hz : s.size ≤ 140737488355328) :
    Calls Tryz.prog 233 #[.pointer (some ⟨rb, 0, none⟩), .func (.func 191) #[] #[]] w fun e w' => e = .returned (.string (s.extract p (endK digK s p))) ∧ RdAt w' rb s (endK digK s p) ∧ Fr (oneB rb) w w' :=
  run_any 191 digK false kin_dig (enters_of Tryz.func191 (by kernel_rfl) rfl) dig_any rb s p w h hp hz
theorem run_wrd (rb : Nat) (s : ByteArray) (p : Nat) (w : World) (h : RdAt w rb s p) (hp : p ≤ s.size) (hz : s.size ≤ 140737488355328) :
    Calls Tryz.prog 233 #[.pointer (some ⟨rb, 0, none⟩), .func (.func 190) #[] #[]] w fun e w' => e = .returned (.string (s.extract p (endK wrdK s p))) ∧ RdAt w' rb s (endK wrdK s p) ∧ Fr (oneB rb) w w' :=
  run_any 190 wrdK false kin_wrd (enters_of Tryz.func190 (by kernel_rfl) rfl) wrd_any rb s p w h hp hz
theorem run_nqu (rb : Nat) (s : ByteArray) (p : Nat) (w : World) (h : RdAt w rb s p) (hp : p ≤ s.size) (hz : s.size ≤ 140737488355328) :
    Calls Tryz.prog 233 #[.pointer (some ⟨rb, 0, none⟩), .func (.func 234) #[] #[]] w fun e w' => e = .returned (.string (s.extract p (endK nquK s p))) ∧ RdAt w' rb s (endK nquK s p) ∧ Fr (oneB rb) w w' :=
  run_any 234 nquK true kin_nqu (enters_of Tryz.func234 (by kernel_rfl) rfl) nqu_any rb s p w h hp hz

set_option maxRecDepth 100000 in
set_option maxHeartbeats 2000000 in
theorem rcol_ok (rb : Nat) (s : ByteArray) (p n q : Nat) (w : World) (h : RdAt w rb s p) (hp : p ≤ s.size) (hz : s.size ≤ 140737488355328) (hc : coA s p = .ok (n, q)) :
    Calls Tryz.prog 223 #[.pointer (some ⟨rb, 0, none⟩)] w fun e w' => e = .returned (.int .i64 (n : Int)) ∧ RdAt w' rb s q ∧ Fr (oneB rb) w w' := by
  have d1 := h.c1
  have H1 := run_cap rb s p w h hp hz
  have H2 := parseCol_any (s.extract p (endK capK s p))
  unfold coA at hc
  split at hc
  case h_2 => cases hc
  rename_i m hm
  cases hc
  rw [hm] at H2
  unfold colV at H2
  have HH := hold_ok
  clear hm h
  generalize s.extract p (endK capK s p) = t at *
  generalize endK capK s p = q at *
  go_enter Tryz.func223, Tryz.ntmps223
  go_wp2_with (first | (go_at_call 233; refine H1.mono ?_; rintro e w1 ⟨rfl, hR, hF1⟩) | (go_at_call 235; refine (H2 _).mono ?_; rintro e w2 ⟨rfl, hF2⟩) | (go_at_call 183; refine (HH _ _ _).mono ?_; rintro e w3 ⟨rfl, rfl⟩))
  go_ret
  exact ⟨rfl, hR.fr hF2 id, hF1.trans hF2.weak⟩
set_option maxRecDepth 100000 in
set_option maxHeartbeats 2000000 in
theorem rcol_no (rb : Nat) (s : ByteArray) (p a : Nat) (c : Int) (w : World) (h : RdAt w rb s p) (hp : p ≤ s.size) (hz : s.size ≤ 140737488355328) (hc : coA s p = .error (a, c)) :
    Calls Tryz.prog 223 #[.pointer (some ⟨rb, 0, none⟩)] w fun e w' => e = thr a c ∧ Fr (oneB rb) w w' := by
  have d1 := h.c1
  have H1 := run_cap rb s p w h hp hz
  have H2 := parseCol_any (s.extract p (endK capK s p))
  unfold coA at hc
  split at hc
  case h_1 => cases hc
  rename_i hm
  cases hc
  rw [hm] at H2
  unfold colV at H2
  have HH := hold_no p 110
  clear hm h
  generalize s.extract p (endK capK s p) = t at *
  generalize endK capK s p = q at *
  go_enter Tryz.func223, Tryz.ntmps223
  go_wp2_with (first | (go_at_call 233; refine H1.mono ?_; rintro e w1 ⟨rfl, hR, hF1⟩) | (go_at_call 235; refine (H2 _).mono ?_; rintro e w2 ⟨rfl, hF2⟩) | (go_at_call 183; refine (HH _).mono ?_; rintro e w3 ⟨rfl, rfl⟩; exact ⟨rfl, rfl, hF1.trans hF2.weak⟩))
#print axioms rcol_ok
#print axioms rcol_no
end Go.Proofs.YtkohohjpnlhioaaGreatDoor
/- Rows that the reader reads. -/
namespace Go.Proofs.YtkohohjpnlhioaaGreatDoor
open Go.RowKit Go.Shelf

theorem bytesWorld_fr_r (w : World) (t : TypeId) (l : ByteArray) : Fr noB w (Lib.bytesWorld w t l) :=
  ⟨rfl, rfl, rfl, by rw [Lib.bytesWorld_size]; omega, fun k hk _ => Lib.bytesWorld_at_old w t l k hk⟩
/-- The two errors of strconv lie where they are laid. -/
structure ETab (w : World) : Prop where
  s : ∃ te pe, w.cell? ⟨7, 0, none⟩ = some (.iface te pe)
  r : ∃ te pe, w.cell? ⟨8, 0, none⟩ = some (.iface te pe)
theorem lt_of_cell {w : World} {a : Addr} {v : Value} (h : w.cell? a = some v) : a.block < w.heap.size := by
  rcases Nat.lt_or_ge a.block w.heap.size with h' | h'
  · exact h'
  · simp [World.cell?, Array.getElem?_eq_none h'] at h
theorem ETab.fr {w w' : World} {S : Nat → Prop} (h : ETab w) (hF : Fr S w w') (h4 : ¬ S 7) (h5 : ¬ S 8) : ETab w' := by
  obtain ⟨⟨a, b, h1⟩, ⟨c, d, h2⟩⟩ := h
  exact ⟨⟨a, b, (hF.cell (lt_of_cell h1) h4).trans h1⟩, ⟨c, d, (hF.cell (lt_of_cell h2) h5).trans h2⟩⟩
theorem atoi_ok (t : ByteArray) (v : Int) (hl : t.size ≤ 140737488355328) (h : Lib.atoiAll t.data.toList = .ok v) (w : World) : Calls Tryz.prog 67 #[.string t] w fun e w' => e = .returned (.tuple #[.int .i64 v, .nilIface]) ∧ Fr noB w w' := by
  refine (show Calls Tryz.prog 67 _ w _ from Any.strconv_Atoi_ok Tryz.laysLaysCn172 t (by omega) v h w).mono ?_
  rintro e w' ⟨rfl, rfl | ⟨t, rfl⟩⟩
  · exact ⟨rfl, Fr.refl _ _⟩
  · exact ⟨rfl, bytesWorld_fr_r _ _ _⟩
theorem atoi_no (t : ByteArray) (hl : t.size ≤ 140737488355328) (h : ∀ v, Lib.atoiAll t.data.toList ≠ .ok v) (w : World) (hE : ETab w) : Calls Tryz.prog 67 #[.string t] w fun e w' => ∃ (x : Int) (te : TypeId) (pe : Value), e = .returned (.tuple #[.int .i64 x, .iface te pe]) ∧ Fr noB w w' := by
  obtain ⟨⟨a, b, h1⟩, ⟨c, d, h2⟩⟩ := hE
  cases ha : Lib.atoiAll t.data.toList with
  | ok v => exact absurd ha (h v)
  | «syntax» =>
    refine (show Calls Tryz.prog 67 _ w _ from Any.strconv_Atoi_syntax Tryz.laysLaysCn172 t (by omega) ha _ w h1 (Or.inr ⟨_, _, rfl⟩)).mono ?_
    rintro e w' ⟨N, rfl, _, _, hB⟩
    exact ⟨_, _, _, rfl, Fr.ofBelow hB⟩
  | range =>
    refine (show Calls Tryz.prog 67 _ w _ from Any.strconv_Atoi_range Tryz.laysLaysCn172 t (by omega) ha _ w h2 (Or.inr ⟨_, _, rfl⟩)).mono ?_
    rintro e w' ⟨N, rfl, _, _, hB⟩
    exact ⟨_, _, _, rfl, Fr.ofBelow hB⟩
theorem pu_ge : ∀ (l : List UInt8) (a u : Nat), Lib.parseUint10 a l = .ok u → a ≤ u
  | [], a, u, h => by
    simp only [Lib.parseUint10] at h
    injection h with h
    omega
  | c :: r, a, u, h => by
    simp only [Lib.parseUint10] at h
    split at h
    · split at h
      · cases h
      · split at h
        · cases h
        · have := pu_ge r _ u h
          omega
    · cases h
/-- The number that digits spell. -/
theorem atoi_digits (c : UInt8) (r : List UInt8) (hc : 48 ≤ c.toNat ∧ c.toNat ≤ 57) (v : Int) (h : Lib.atoiAll (c :: r) = .ok v) : ((c.toNat - 48 : Nat) : Int) ≤ v := by
  unfold Lib.atoiAll at h
  have e1 : ¬ (c.toNat = 43 ∨ c.toNat = 45) := by omega
  have e2 : ¬ c.toNat = 45 := by omega
  have e3 : ¬ c.toNat = 43 := by omega
  simp only [e3, e2, or_self, not_false_eq_true, true_and, false_and, if_false] at h
  split at h
  · cases h
  · cases h
  · rename_i u hu
    unfold Lib.parseMag at hu
    rw [if_neg (by simp)] at hu
    simp only [Lib.parseUint10, hc, and_self, if_true] at hu
    split at hu
    · cases hu
    · split at hu
      · cases hu
      · have := pu_ge r _ u hu
        split at h
        · cases h
        · cases h
          omega
theorem ext_head (t : ByteArray) (h : 0 < t.size) : t.data.toList = (t[0]'h) :: t.data.toList.drop 1 := by
  have hl0 : 0 < t.data.toList.length := by simpa using h
  conv => lhs; rw [← List.drop_zero (l := t.data.toList), List.drop_eq_getElem_cons hl0]
  rfl
theorem ext_byt (s : ByteArray) (p q i : Nat) (hq : q ≤ s.size) (h : p + i < q) : byt (s.extract p q) i = byt s (p + i) := by
  rw [← byt_at (s.extract p q) i (by simp; omega), ← byt_at s (p + i) (by omega), ByteArray.getElem_extract]
/-- What a row's digits say, where it is a row. -/
theorem rowF_ok {s : ByteArray} {p n : Nat} (hp : p ≤ s.size) (h : rowF (s.extract p (endK digK s p)) = some n) : ∃ c, Lib.atoiAll (s.extract p (endK digK s p)).data.toList = .ok ((n : Int) + 1) ∧ n < 1048576 ∧ 0 < (s.extract p (endK digK s p)).size ∧ (∀ hh, ((s.extract p (endK digK s p))[0]'hh).toNat = c) ∧ c ≠ 48 ∧ c < 256 := by
  have hle := endK_le digK s p hp
  have hge := endK_ge digK s p
  have hall := endK_all digK s p
  have hlt := rowF_lt h
  have hsz : (s.extract p (endK digK s p)).size = endK digK s p - p := by simp; omega
  have hb := ext_byt s p (endK digK s p) 0 hle
  generalize hT : s.extract p (endK digK s p) = t at *
  unfold rowF at h
  split at h
  · rename_i v hv
    split at h
    · rename_i hc
      by_cases h0 : 0 < t.size
      · have hbt := byt_at t 0 h0
        have hd := hall p (Nat.le_refl _) (by omega)
        rw [hb (by omega), Nat.add_zero] at hbt
        have hd2 : 48 ≤ byt s p ∧ byt s p ≤ 57 := by simpa [digK] using hd
        rw [hb (by omega), Nat.add_zero] at hc
        have hv1 : (1 : Int) ≤ v := by
          rw [ext_head t h0] at hv
          have := atoi_digits _ _ (by rw [hbt]; exact hd2) v hv
          rw [hbt] at this
          omega
        have hvn : (((v - 1).toNat : Nat) : Int) + 1 = v := by omega
        cases h
        refine ⟨byt s p, by rw [hvn]; exact hv, hlt, h0, fun _ => hbt, hc.2, byt_lt s p⟩
      · exfalso
        have hz0 : t.size = 0 := by omega
        have : t.data.toList = [] := List.length_eq_zero_iff.1 (by simpa using hz0)
        rw [this] at hv
        simp [Lib.atoiAll] at hv
    · cases h
  · cases h
set_option maxRecDepth 100000 in
set_option maxHeartbeats 2000000 in
theorem rrow_ok (rb : Nat) (s : ByteArray) (p n q : Nat) (w : World) (h : RdAt w rb s p) (hp : p ≤ s.size) (hz : s.size ≤ 140737488355328) (hc : roA s p = .ok (n, q)) :
    Calls Tryz.prog 224 #[.pointer (some ⟨rb, 0, none⟩)] w fun e w' => e = .returned (.int .i64 (n : Int)) ∧ RdAt w' rb s q ∧ Fr (oneB rb) w w' := by
  have d1 := h.c1
  have H1 := run_dig rb s p w h hp hz
  have hle := endK_le digK s p hp
  unfold roA at hc
  split at hc
  case h_2 => cases hc
  rename_i m hm
  cases hc
  obtain ⟨c, e1, e2, e3, e4, e5, e6⟩ := rowF_ok hp hm
  have H2 := atoi_ok (s.extract p (endK digK s p)) _ (by simp; omega) e1
  have HH := hold_ok
  clear hm h e1
  generalize s.extract p (endK digK s p) = t at *
  generalize endK digK s p = q at *
  have g1 : ((n : Int) + 1) ≤ 1048576 := by omega
  have g2 : ¬ (c : Int) = 48 := by omega
  have g3 : (0 : Int) < (t.size : Int) := by omega
  have g2b : ((c : Int) != 48) = true := by simpa using g2
  have g4 : ((n : Int) + 1) - 1 = (n : Int) := by omega
  clear hp hle hz
  go_enter Tryz.func224, Tryz.ntmps224
  go_wp2_with (first | (go_at_call 233; with_reducible refine H1.mono ?_; rintro e w1 ⟨rfl, hR, hF1⟩) | (go_at_call 67; with_reducible refine (H2 _).mono ?_; rintro e w2 ⟨rfl, hF2⟩) | (go_at_call 183; with_reducible refine (HH _ _ _).mono ?_; rintro e w3 ⟨rfl, rfl⟩))
  go_ret
  exact ⟨rfl, hR.fr hF2 id, hF1.trans hF2.weak⟩
set_option maxRecDepth 100000 in
set_option maxHeartbeats 2000000 in
theorem rrow_no (rb : Nat) (s : ByteArray) (p a : Nat) (c : Int) (w : World) (h : RdAt w rb s p) (hE : ETab w) (hb1 : ¬ rb = 7) (hb2 : ¬ rb = 8) (hp : p ≤ s.size) (hz : s.size ≤ 140737488355328) (hc : roA s p = .error (a, c)) :
    Calls Tryz.prog 224 #[.pointer (some ⟨rb, 0, none⟩)] w fun e w' => e = thr a c ∧ Fr (oneB rb) w w' := by
  have d1 := h.c1
  have H1 := run_dig rb s p w h hp hz
  have hle := endK_le digK s p hp
  unfold roA at hc
  split at hc
  case h_1 => cases hc
  rename_i hm
  cases hc
  have hts : (s.extract p (endK digK s p)).size ≤ 140737488355328 := by simp; omega
  have HH := hold_no p 110
  have HE : Hid (ETab w) := hE
  have HB : Hid (∀ w1, Fr (oneB rb) w w1 → ETab w1) := fun w1 hF => HE.out.fr hF (fun e => hb1 e.symm) (fun e => hb2 e.symm)
  clear h hE hp hle hz
  generalize s.extract p (endK digK s p) = t at *
  generalize endK digK s p = q at *
  by_cases hv : ∃ v, Lib.atoiAll t.data.toList = .ok v
  · obtain ⟨v, hv⟩ := hv
    have H2 := atoi_ok t v hts hv
    unfold rowF at hm
    rw [hv] at hm
    simp only at hm
    by_cases g1 : v ≤ 1048576
    · have h0 : 0 < t.size := by
        rcases Nat.lt_or_ge 0 t.size with h | h
        · exact h
        · exfalso
          have hz0 : t.size = 0 := by omega
          have : t.data.toList = [] := List.length_eq_zero_iff.1 (by simpa using hz0)
          rw [this] at hv
          simp [Lib.atoiAll] at hv
      have h48 : byt t 0 = 48 := by
        rcases Nat.decEq (byt t 0) 48 with h | h
        · rw [if_pos ⟨g1, h⟩] at hm; cases hm
        · exact h
      have e4 : ∀ hh, ((t[0]'hh).toNat) = 48 := fun hh => (byt_at t 0 hh).trans h48
      have g3 : (0 : Int) < (t.size : Int) := by omega
      clear hm hv h48
      go_enter Tryz.func224, Tryz.ntmps224
      go_wp2_with (first | (go_at_call 233; with_reducible refine H1.mono ?_; rintro e w1 ⟨rfl, hR, hF1⟩) | (go_at_call 67; with_reducible refine (H2 _).mono ?_; rintro e w2 ⟨rfl, hF2⟩) | (go_at_call 183; refine (HH _).mono ?_; rintro e w3 ⟨rfl, rfl⟩; exact ⟨rfl, rfl, hF1.trans hF2.weak⟩))
    · clear hm hv
      go_enter Tryz.func224, Tryz.ntmps224
      go_wp2_with (first | (go_at_call 233; with_reducible refine H1.mono ?_; rintro e w1 ⟨rfl, hR, hF1⟩) | (go_at_call 67; with_reducible refine (H2 _).mono ?_; rintro e w2 ⟨rfl, hF2⟩) | (go_at_call 183; refine (HH _).mono ?_; rintro e w3 ⟨rfl, rfl⟩; exact ⟨rfl, rfl, hF1.trans hF2.weak⟩))
  · have H2 : ∀ w1, ETab w1 → _ := fun w1 hE1 => atoi_no t hts (fun v e => hv ⟨v, e⟩) w1 hE1
    clear hm hv
    go_enter Tryz.func224, Tryz.ntmps224
    go_wp2_with (first | (go_at_call 233; with_reducible refine H1.mono ?_; rintro e w1 ⟨rfl, hR, hF1⟩) | (go_at_call 67; with_reducible refine (H2 _ (HB.out _ hF1)).mono ?_; rintro e w2 ⟨x, te, pe, rfl, hF2⟩) | (go_at_call 183; refine (HH _).mono ?_; rintro e w3 ⟨rfl, rfl⟩; exact ⟨rfl, rfl, hF1.trans hF2.weak⟩))
#print axioms rrow_no
#print axioms rrow_ok
end Go.Proofs.YtkohohjpnlhioaaGreatDoor
