/- A sign that must stand there and does not. -/
import Derived.Test.YtkohohjpnlhioaaGreatDoorK26
import Derived.Deep.RegionHeld3
import Derived.Deep.MidRow
namespace Go.Proofs.YtkohohjpnlhioaaGreatDoor
open Go.RowKit Go.Shelf

theorem load_int (w : World) (b o : Nat) (v : Value) (h : w.cell? ⟨b, o, none⟩ = some v) : (Instr.loadAt 3 (.pointer (some ⟨b, o, none⟩))).run Tryz.prog w = .ok v w := by
  have hu := Tryz.underlying3
  simp [go_sem, h]
theorem load_str (w : World) (b o : Nat) (v : Value) (h : w.cell? ⟨b, o, none⟩ = some v) : (Instr.loadAt 9 (.pointer (some ⟨b, o, none⟩))).run Tryz.prog w = .ok v w := by
  have hu := Tryz.underlying9
  simp [go_sem, h]
theorem load_boo (w : World) (b o : Nat) (v : Value) (h : w.cell? ⟨b, o, none⟩ = some v) : (Instr.loadAt 4 (.pointer (some ⟨b, o, none⟩))).run Tryz.prog w = .ok v w := by
  have hu := Tryz.underlying4
  simp [go_sem, h]
section
variable {P : Program} {ops : Array Oper} {S : World → Prop} {op : Oper} {a : Act}
theorem y_loadOf (ty : TypeId) (hl : ∀ w b o v, w.cell? ⟨b, o, none⟩ = some v → (Instr.loadAt ty (.pointer (some ⟨b, o, none⟩))).run Tryz.prog w = .ok v w) (x : Operand) (b o : Nat) (v : Value) (hw : Region.wanted op (yielded ops a.tmps) = true) (ho : op.op = .load ty x) (hx : a.eval x = .pointer (some ⟨b, o, none⟩)) (hS : ∀ w, S w → w.cell? ⟨b, o, none⟩ = some v) : YieldsIf Tryz.prog ops S op v a :=
  .inl ⟨hw, fun w hw' => by
    unfold execOp
    simp only [ho, hx, Sem.run_bind, Sem.run_pure, hl w b o v (hS w hw'), Result.andThen_ok]⟩
/-- A call of a Go function that is named. -/
theorem wp_go {w : World} {next : Act → World → Prop} {Q : Exit → Act → World → Prop} (f : FuncId) (args : Array Value) (h : (execOp a.eval op).run P w = .ok (.enter f args) w)
    (hc : Calls P f args w fun e w'' => match e, w'' with
      | .returned v, w'' => next (a.put op.dst v) w''
      | .panicked chain, w'' => Q (.panic chain) a w''
      | .outgrown, _ => LetsOut Q) : Oper.wp P op a w next Q := by
  unfold Oper.wp
  rw [h]
  exact hc
end
set_option maxRecDepth 100000 in
set_option maxHeartbeats 4000000 in
theorem need_no (rb : Nat) (s : ByteArray) (c p : Nat) (hc : c < 256) (w : World) (h : RdAt w rb s p) (hp : p ≤ s.size) (hz : s.size ≤ 140737488355328) (hi : isAt s c p = false) :
    Calls Tryz.prog 184 #[.pointer (some ⟨rb, 0, none⟩), .string ⟨#[UInt8.ofNat c]⟩] w fun e w' => e = thr p 110 ∧ Fr (oneB rb) w w' := by
  have HS : Hid (∀ W, RdAt W rb s p → Calls Tryz.prog 181 #[.pointer (some ⟨rb, 0, none⟩), .string ⟨#[UInt8.ofNat c]⟩] W fun e w' => e = .returned (.bool false) ∧ RdAt w' rb s p ∧ Fr (oneB rb) W w') := fun W hW => by
    have e := skip_any rb s c p hc W hW hp hz
    rw [hi, show past s c p = p by unfold past; rw [if_neg (by rw [hi]; simp)]] at e
    exact e
  have h1 : RdAt w.drew rb s p := h.fr (Fr.refl noB w).drew id
  clear h hi
  generalize (⟨#[UInt8.ofNat c]⟩ : ByteArray) = t at *
  go_enter Tryz.func184, Tryz.ntmps184
  refine wp_region_held_drew (S := fun W => W.cell? ⟨rb, 1, none⟩ = some (.int .i64 (p : Int))) (by kernel_rfl) h1.c1 (fun hHeld => ?_)
  refine wpAnyH_take (i := 0) (v := .pointer (some ⟨rb, 0, none⟩)) rfl (by kernel_rfl) (by kernel_rfl) (by kernel_rfl) (fun _ _ _ h => h) (Or.inl ⟨by kernel_rfl, fun w hSw => by kernel_rfl⟩) hHeld ?_
  refine wpAnyH_take (i := 1) (v := .string t) rfl (by kernel_rfl) (by kernel_rfl) (by kernel_rfl) (fun _ _ _ h => h) (Or.inl ⟨by kernel_rfl, fun w hSw => by kernel_rfl⟩) hHeld ?_
  refine wpAnyH_take (i := 3) (v := .pointer (some ⟨rb, 0, none⟩)) rfl (by kernel_rfl) (by kernel_rfl) (by kernel_rfl) (fun _ _ _ h => h) (Or.inl ⟨by kernel_rfl, fun w hSw => by kernel_rfl⟩) hHeld ?_
  refine wpAnyH_take (i := 4) (v := .pointer (some ⟨rb, 0, none⟩)) rfl (by kernel_rfl) (by kernel_rfl) (by kernel_rfl) (fun _ _ _ h => h) (Or.inl ⟨by kernel_rfl, fun w hSw => by kernel_rfl⟩) hHeld ?_
  refine wpAnyH_take (i := 5) (v := .pointer (some ⟨rb, 1, none⟩)) rfl (by kernel_rfl) (by kernel_rfl) (by kernel_rfl) (fun _ _ _ h => h) (Or.inl ⟨by kernel_rfl, fun w hSw => by kernel_rfl⟩) hHeld ?_
  refine wpAnyH_take (i := 6) (v := .int .i64 (p : Int)) rfl (by kernel_rfl) (by kernel_rfl) (by kernel_rfl) (fun _ _ _ h => h) (y_loadOf 3 load_int (.tmp 9) rb 1 _ (by kernel_rfl) rfl (by kernel_rfl) (fun w h => h)) hHeld ?_
  refine wpAnyH_ready (rs := [2]) (by kernel_rfl) (by simp) ?_
  refine AllReadyH.cons rfl (fun K hK => ?_) AllReadyH.nil
  refine wp_go 181 #[.pointer (some ⟨rb, 0, none⟩), .string t] (by kernel_rfl) ?_
  refine (HS.out _ h1).mono ?_
  rintro e w2 ⟨rfl, hR, hF⟩
  refine hK.out _ _ hR.c1 (fun hHeld2 => ?_)
  clear hK K
  refine wpAnyH_ready (rs := [7]) (by kernel_rfl) (by simp) ?_
  refine AllReadyH.cons rfl (fun K hK => ?_) AllReadyH.nil
  refine wp_go 183 #[.bool false, .int .i64 (p : Int), .int .i64 110] (by kernel_rfl) ?_
  refine (hold_no p 110 _).mono ?_
  rintro e w3 ⟨rfl, rfl⟩
  exact ⟨rfl, rfl, Fr.trans ((Fr.refl _ _).drew) hF⟩
#print axioms need_no
end Go.Proofs.YtkohohjpnlhioaaGreatDoor
/- Names, sheets, the last sheet that the reader reads. -/
namespace Go.Proofs.YtkohohjpnlhioaaGreatDoor
open Go.RowKit Go.Shelf

theorem isAt_size {s : ByteArray} {c p : Nat} (h : isAt s c p = true) : p < s.size := by simp [isAt] at h; exact h.1
theorem nqu_stop (s : ByteArray) (p : Nat) (h : endK nquK s p < s.size) : isAt s 39 (endK nquK s p) = true := by
  have := endK_not nquK s p h
  unfold isAt
  rw [decide_eq_true h]
  simpa [nquK] using this
theorem nqu_none (s : ByteArray) (p : Nat) (h : ¬ endK nquK s p < s.size) : isAt s 39 (endK nquK s p) = false := by
  unfold isAt
  rw [decide_eq_false h]
  rfl
set_option maxRecDepth 100000 in
set_option maxHeartbeats 2000000 in
theorem name_plain (rb : Nat) (s : ByteArray) (p : Nat) (w : World) (h : RdAt w rb s p) (hp : p ≤ s.size) (hz : s.size ≤ 140737488355328) (hi : isAt s 39 p = false) :
    Calls Tryz.prog 222 #[.pointer (some ⟨rb, 0, none⟩)] w fun e w' => e = .returned (.string (s.extract p (endK wrdK s p))) ∧ RdAt w' rb s (endK wrdK s p) ∧ Fr (oneB rb) w w' := by
  have H1 := skip_any rb s 39 p (by decide) w h hp hz
  rw [hi, show past s 39 p = p by unfold past; rw [if_neg (by rw [hi]; simp)]] at H1
  have HR : Hid (∀ W, RdAt W rb s p → _) := fun W hW => run_wrd rb s p W hW hp hz
  clear h hi
  generalize s.extract p (endK wrdK s p) = t at *
  generalize endK wrdK s p = q at *
  go_enter Tryz.func222, Tryz.ntmps222
  go_wp2_with (first | (go_at_call 181; refine H1.mono ?_; rintro e w1 ⟨rfl, hR1, hF1⟩) | (go_at_call 233; refine (HR.out _ hR1).mono ?_; rintro e w2 ⟨rfl, hR2, hF2⟩))
  go_ret
  exact ⟨rfl, hR2, hF1.trans hF2⟩
set_option maxRecDepth 100000 in
set_option maxHeartbeats 2000000 in
theorem name_quo (rb : Nat) (s : ByteArray) (p : Nat) (w : World) (h : RdAt w rb s p) (hp : p ≤ s.size) (hz : s.size ≤ 140737488355328) (hi : isAt s 39 p = true) (hq : endK nquK s (p + 1) < s.size) :
    Calls Tryz.prog 222 #[.pointer (some ⟨rb, 0, none⟩)] w fun e w' => e = .returned (.string (s.extract (p + 1) (endK nquK s (p + 1)))) ∧ RdAt w' rb s (endK nquK s (p + 1) + 1) ∧ Fr (oneB rb) w w' := by
  have hlt := isAt_size hi
  have H1 := skip_any rb s 39 p (by decide) w h hp hz
  rw [hi, show past s 39 p = p + 1 by unfold past; rw [if_pos hi]] at H1
  have HR : Hid (∀ W, RdAt W rb s (p + 1) → _) := fun W hW => run_nqu rb s (p + 1) W hW (by omega) hz
  have HN : Hid (∀ W, RdAt W rb s (endK nquK s (p + 1)) → _) := fun W hW => need_ok rb s 39 (endK nquK s (p + 1)) (by decide) W hW (by omega) hz (nqu_stop s (p + 1) hq)
  clear h hi
  generalize s.extract (p + 1) (endK nquK s (p + 1)) = t at *
  generalize endK nquK s (p + 1) = q at *
  go_enter Tryz.func222, Tryz.ntmps222
  go_wp2_with (first | (go_at_call 181; refine H1.mono ?_; rintro e w1 ⟨rfl, hR1, hF1⟩) | (go_at_call 233; refine (HR.out _ hR1).mono ?_; rintro e w2 ⟨rfl, hR2, hF2⟩) | (go_at_call 184; refine (HN.out _ hR2).mono ?_; rintro e w3 ⟨rfl, hR3, hF3⟩))
  go_ret
  exact ⟨rfl, hR3, (hF1.trans hF2).trans hF3⟩
set_option maxRecDepth 100000 in
set_option maxHeartbeats 2000000 in
theorem name_open (rb : Nat) (s : ByteArray) (p : Nat) (w : World) (h : RdAt w rb s p) (hp : p ≤ s.size) (hz : s.size ≤ 140737488355328) (hi : isAt s 39 p = true) (hq : ¬ endK nquK s (p + 1) < s.size) :
    Calls Tryz.prog 222 #[.pointer (some ⟨rb, 0, none⟩)] w fun e w' => e = thr s.size 110 ∧ Fr (oneB rb) w w' := by
  have hlt := isAt_size hi
  have hle := endK_le nquK s (p + 1) (by omega)
  have he : endK nquK s (p + 1) = s.size := by omega
  have H1 := skip_any rb s 39 p (by decide) w h hp hz
  rw [hi, show past s 39 p = p + 1 by unfold past; rw [if_pos hi]] at H1
  have HR : Hid (∀ W, RdAt W rb s (p + 1) → Calls Tryz.prog 233 #[.pointer (some ⟨rb, 0, none⟩), .func (.func 234) #[] #[]] W fun e w' => e = .returned (.string (s.extract (p + 1) (endK nquK s (p + 1)))) ∧ RdAt w' rb s s.size ∧ Fr (oneB rb) W w') := fun W hW => by
    have := run_nqu rb s (p + 1) W hW (by omega) hz
    rw [he] at this ⊢
    exact this
  have hno : isAt s 39 s.size = false := by rw [← he]; exact nqu_none s (p + 1) hq
  have HN : Hid (∀ W, RdAt W rb s s.size → _) := fun W hW => need_no rb s 39 s.size (by decide) W hW (Nat.le_refl _) hz hno
  clear h hi he hno hq hle
  generalize s.extract (p + 1) (endK nquK s (p + 1)) = t at *
  generalize s.size = z at *
  go_enter Tryz.func222, Tryz.ntmps222
  go_wp2_with (first | (go_at_call 181; refine H1.mono ?_; rintro e w1 ⟨rfl, hR1, hF1⟩) | (go_at_call 233; refine (HR.out _ hR1).mono ?_; rintro e w2 ⟨rfl, hR2, hF2⟩) | (go_at_call 184; refine (HN.out _ hR2).mono ?_; rintro e w3 ⟨rfl, hF3⟩; exact ⟨rfl, rfl, (hF1.trans hF2).trans hF3⟩))
#print axioms name_plain
#print axioms name_quo
#print axioms name_open
end Go.Proofs.YtkohohjpnlhioaaGreatDoor
/- Sheets, the last sheet that the reader reads. -/
namespace Go.Proofs.YtkohohjpnlhioaaGreatDoor
open Go.RowKit Go.Shelf

def quoE (s : ByteArray) : Int := if shtF s = true then 0 else 111
theorem quote_two (s : ByteArray) (w : World) : Calls Tryz.prog 129 #[.string s] w fun e w' => e = .returned (.tuple #[.string (quoF s), .int .i64 (quoE s)]) ∧ Fr noB w w' := by
  have h := quote_any s w
  unfold quoV at h
  unfold quoE
  by_cases hs : shtF s = true
  · rw [if_pos hs] at h ⊢; exact h
  · rw [if_neg hs] at h ⊢
    rw [quoF_no s (by simpa using hs)]
    exact h
theorem emp_no (W : ByteArray) (h : 0 < W.size) : W.toList.isEmpty = false := by
  rw [ByteArray.toList_eq]
  have : W.data.toList.length = W.size := by simp
  cases hl : W.data.toList with
  | nil => rw [hl] at this; simp at this; omega
  | cons => rfl
theorem lst_ne (A B : ByteArray) (h : A ≠ B) : (A.toList == B.toList) = false := by
  rw [beq_eq_false_iff_ne]
  intro e
  apply h
  rw [ByteArray.toList_eq, ByteArray.toList_eq] at e
  exact ByteArray.ext (Array.toList_inj.1 e)
set_option maxRecDepth 100000 in
set_option maxHeartbeats 2000000 in
theorem sheet_nil (rb : Nat) (s t : ByteArray) (p : Nat) (w : World) (h : RdAt w rb s p) (hp : p ≤ s.size)
    (HN : Calls Tryz.prog 222 #[.pointer (some ⟨rb, 0, none⟩)] w fun e w' => e = .returned (.string t) ∧ RdAt w' rb s p ∧ Fr (oneB rb) w w') :
    Calls Tryz.prog 182 #[.pointer (some ⟨rb, 0, none⟩)] w fun e w' => e = .returned (.string ⟨#[]⟩) ∧ RdAt w' rb s p ∧ Fr (oneB rb) w w' := by
  have d1 := h.c1
  have hx : s.extract p p = ⟨#[]⟩ := by
    apply ByteArray.ext
    simp
  clear h
  go_enter Tryz.func182, Tryz.ntmps182
  go_wp2_with (go_at_call 222; refine HN.mono ?_; rintro e w1 ⟨rfl, hR1, hF1⟩; have k0 := hR1.c0; have k1 := hR1.c1; have HR1 : Hid _ := hR1; clear hR1)
  go_quiet (fail)
  go_wp2_with fail
  go_ret
  exact ⟨rfl, HR1.out.fr ((Fr.refl noB _).drewN _) id, hF1.drewN _⟩
set_option maxRecDepth 100000 in
set_option maxHeartbeats 2000000 in
theorem sheet_yes (rb : Nat) (s t : ByteArray) (p q : Nat) (w : World) (h : RdAt w rb s p) (hq : q ≤ s.size) (hpq : p < q)
    (HN : Calls Tryz.prog 222 #[.pointer (some ⟨rb, 0, none⟩)] w fun e w' => e = .returned (.string t) ∧ RdAt w' rb s q ∧ Fr (oneB rb) w w') (ht : t.size ≤ 64) (hW : quoF t = s.extract p q) :
    Calls Tryz.prog 182 #[.pointer (some ⟨rb, 0, none⟩)] w fun e w' => e = .returned (.string t) ∧ RdAt w' rb s q ∧ Fr (oneB rb) w w' := by
  have d1 := h.c1
  have HQ := quote_two t
  rw [hW] at HQ
  have hex : 0 < (s.extract p q).size := by simp; omega
  have hem := emp_no _ hex
  have HC := fun w => clone_any t w (by omega)
  have HH := hold_ok
  generalize quoE t = E at *
  generalize hX : s.extract p q = W at *
  have hws : ¬ W.size = 0 := by omega
  clear h hW hex
  go_enter Tryz.func182, Tryz.ntmps182
  go_wp2_with (go_at_call 222; refine HN.mono ?_; rintro e w1 ⟨rfl, hR1, hF1⟩; have k0 := hR1.c0; have k1 := hR1.c1; have HR1 : Hid _ := hR1; clear hR1)
  go_quiet (fail)
  obtain ⟨W1, hW1⟩ : ∃ W1, w1.drewN nq = W1 := ⟨_, rfl⟩
  have hF2 : Fr noB w1 W1 := by rw [← hW1]; exact (Fr.refl noB _).drewN _
  rw [hW1]
  clear hW1
  go_wp2_with (first | (go_at_call 129; refine (HQ _).mono ?_; rintro e w2 ⟨rfl, hF3⟩) | (go_at_call 183; refine (HH _ _ _).mono ?_; rintro e w3 ⟨rfl, rfl⟩) | (go_at_call 36; refine (HC _).mono ?_; rintro e w4 ⟨rfl, hF4⟩))
  go_ret
  exact ⟨rfl, ((HR1.out.fr hF2 id).fr hF3 id).fr hF4 id, ((hF1.trans hF2.weak).trans hF3.weak).trans hF4.weak⟩
set_option maxRecDepth 100000 in
set_option maxHeartbeats 2000000 in
theorem sheet_bad (rb : Nat) (s t : ByteArray) (p q : Nat) (w : World) (h : RdAt w rb s p) (hq : q ≤ s.size) (hpq : p < q)
    (HN : Calls Tryz.prog 222 #[.pointer (some ⟨rb, 0, none⟩)] w fun e w' => e = .returned (.string t) ∧ RdAt w' rb s q ∧ Fr (oneB rb) w w') (hW : quoF t ≠ s.extract p q) :
    Calls Tryz.prog 182 #[.pointer (some ⟨rb, 0, none⟩)] w fun e w' => e = thr p 111 ∧ Fr (oneB rb) w w' := by
  have d1 := h.c1
  have HQ := quote_two t
  have hne := lst_ne _ _ hW
  have hex : 0 < (s.extract p q).size := by simp; omega
  have hem := emp_no _ hex
  have HH := hold_no p 111
  generalize quoE t = E at *
  generalize hX : s.extract p q = W at *
  generalize quoF t = U at *
  have hws : ¬ W.size = 0 := by omega
  clear h hW hex
  go_enter Tryz.func182, Tryz.ntmps182
  go_wp2_with (go_at_call 222; refine HN.mono ?_; rintro e w1 ⟨rfl, hR1, hF1⟩; have k0 := hR1.c0; have k1 := hR1.c1; have HR1 : Hid _ := hR1; clear hR1)
  go_quiet (fail)
  obtain ⟨W1, hW1⟩ : ∃ W1, w1.drewN nq = W1 := ⟨_, rfl⟩
  have hF2 : Fr noB w1 W1 := by rw [← hW1]; exact (Fr.refl noB _).drewN _
  rw [hW1]
  clear hW1
  go_wp2_with (first | (go_at_call 129; refine (HQ _).mono ?_; rintro e w2 ⟨rfl, hF3⟩) | (go_at_call 183; refine (HH _).mono ?_; rintro e w3 ⟨rfl, rfl⟩; exact ⟨rfl, rfl, (hF1.trans hF2.weak).trans hF3.weak⟩))
set_option maxRecDepth 100000 in
theorem sheet_open (rb : Nat) (s : ByteArray) (p a : Nat) (c : Int) (w : World) (h : RdAt w rb s p)
    (HN : Calls Tryz.prog 222 #[.pointer (some ⟨rb, 0, none⟩)] w fun e w' => e = thr a c ∧ Fr (oneB rb) w w') :
    Calls Tryz.prog 182 #[.pointer (some ⟨rb, 0, none⟩)] w fun e w' => e = thr a c ∧ Fr (oneB rb) w w' := by
  have d1 := h.c1
  clear h
  go_enter Tryz.func182, Tryz.ntmps182
  go_wp2_with (go_at_call 222; refine HN.mono ?_; rintro e w1 ⟨rfl, hF1⟩; exact ⟨rfl, rfl, hF1⟩)

theorem ext_size (s : ByteArray) (p q : Nat) (hq : q ≤ s.size) : (s.extract p q).size = q - p := by simp; omega
theorem quo_plain {t : ByteArray} (h1 : shtF t = true) (h2 : wrdF t = true) : quoF t = t := by unfold quoF; rw [h1, h2]; rfl
theorem quo_quoted {t : ByteArray} (h1 : shtF t = true) (h2 : wrdF t = false) : quoF t = baL_r (39 :: (t.data.toList ++ [39])) := by unfold quoF; rw [h1, h2]; rfl
theorem quo_size {t : ByteArray} : (quoF t).size = if shtF t = true then (if wrdF t = true then t.size else t.size + 2) else 0 := by
  unfold quoF
  split
  · split
    · rfl
    · rw [baL_size_r]
      simp
  · rfl
theorem ext_list (s : ByteArray) (p q : Nat) : (s.extract p q).data.toList = (s.data.toList.drop p).take (q - p) := by
  rw [ByteArray.data_extract]
  simp [List.extract]
theorem ext_cons (s : ByteArray) (p q : Nat) (hpq : p < q) (hq : q ≤ s.size) : (s.extract p q).data.toList = (s[p]'(by omega)) :: (s.extract (p + 1) q).data.toList := by
  rw [ext_list, ext_list, List.drop_eq_getElem_cons (by simp; omega), show q - p = (q - (p + 1)) + 1 by omega, List.take_succ_cons]
  rfl
theorem ext_snoc (s : ByteArray) (p q : Nat) (hpq : p ≤ q) (hq : q < s.size) : (s.extract p (q + 1)).data.toList = (s.extract p q).data.toList ++ [s[q]'hq] := by
  rw [ext_list, ext_list, show q + 1 - p = (q - p) + 1 by omega, List.take_succ_eq_append_getElem (by simp; omega)]
  congr 2
  simp [List.getElem_drop, show p + (q - p) = q by omega]
  rfl
theorem byte_is {s : ByteArray} {c p : Nat} (h : isAt s c p = true) (hp : p < s.size) : s[p]'hp = UInt8.ofNat c := by
  simp [isAt] at h
  have h2 := h.2
  rw [← byt_at s p hp] at h2
  rw [← h2]
  exact UInt8.ofNat_toNat.symm
theorem quo_text (s : ByteArray) (p q : Nat) (h1 : isAt s 39 p = true) (h2 : isAt s 39 q = true) (hpq : p < q) : s.extract p (q + 1) = baL_r (39 :: ((s.extract (p + 1) q).data.toList ++ [39])) := by
  have hq := isAt_size h2
  have hp := isAt_size h1
  apply ByteArray.ext
  apply Array.toList_inj.1
  rw [baL_list_r, ext_cons s p (q + 1) (by omega) (by omega), ext_snoc s (p + 1) q (by omega) hq, byte_is h1, byte_is h2]
  rfl
theorem sheet_ok (rb : Nat) (s t : ByteArray) (p q : Nat) (w : World) (h : RdAt w rb s p) (hp : p ≤ s.size) (hz : s.size ≤ 140737488355328) (hs : shA s p = .ok (t, q)) :
    Calls Tryz.prog 182 #[.pointer (some ⟨rb, 0, none⟩)] w fun e w' => e = .returned (.string t) ∧ RdAt w' rb s q ∧ Fr (oneB rb) w w' := by
  unfold shA at hs
  split at hs
  · rename_i hi
    have hlt := isAt_size hi
    split at hs
    · rename_i hq
      split at hs
      · rename_i hc
        cases hs
        have hge := endK_ge nquK s (p + 1)
        refine sheet_yes rb s _ p _ w h (by omega) (by omega) (name_quo rb s p w h hp hz hi hq) (shtF_size hc.1).2 ?_
        rw [quo_quoted hc.1 hc.2]
        exact (quo_text s p _ hi (nqu_stop s (p + 1) hq) (by omega)).symm
      · cases hs
    · cases hs
  · rename_i hi
    have hi' : isAt s 39 p = false := by simpa using hi
    have hN := name_plain rb s p w h hp hz hi'
    have hge := endK_ge wrdK s p
    have hle := endK_le wrdK s p hp
    split at hs
    · rename_i he
      cases hs
      rw [he] at hN
      exact sheet_nil rb s _ p w h hp hN
    · split at hs
      · rename_i hc
        cases hs
        exact sheet_yes rb s _ p _ w h hle (by omega) hN (shtF_size hc.1).2 (quo_plain hc.1 hc.2)
      · cases hs
theorem sheet_no (rb : Nat) (s : ByteArray) (p a : Nat) (c : Int) (w : World) (h : RdAt w rb s p) (hp : p ≤ s.size) (hz : s.size ≤ 140737488355328) (hs : shA s p = .error (a, c)) :
    Calls Tryz.prog 182 #[.pointer (some ⟨rb, 0, none⟩)] w fun e w' => e = thr a c ∧ Fr (oneB rb) w w' := by
  unfold shA at hs
  split at hs
  · rename_i hi
    have hlt := isAt_size hi
    split at hs
    · rename_i hq
      split at hs
      · cases hs
      · rename_i hc
        cases hs
        have hge := endK_ge nquK s (p + 1)
        refine sheet_bad rb s _ p _ w h (by omega) (by omega) (name_quo rb s p w h hp hz hi hq) ?_
        intro e
        have e2 := congrArg ByteArray.size e
        rw [quo_size, ext_size s p _ (by omega), ext_size s (p + 1) _ (by omega)] at e2
        split at e2
        · rename_i h1
          split at e2
          · omega
          · rename_i h2
            exact hc ⟨h1, by simpa using h2⟩
        · omega
    · rename_i hq
      cases hs
      exact sheet_open rb s p _ _ w h (name_open rb s p w h hp hz hi hq)
  · rename_i hi
    have hi' : isAt s 39 p = false := by simpa using hi
    have hN := name_plain rb s p w h hp hz hi'
    have hge := endK_ge wrdK s p
    have hle := endK_le wrdK s p hp
    split at hs
    · cases hs
    · split at hs
      · cases hs
      · rename_i hc
        cases hs
        refine sheet_bad rb s _ p _ w h hle (by omega) hN ?_
        intro e
        have e2 := congrArg ByteArray.size e
        rw [quo_size, ext_size s p _ hle] at e2
        split at e2
        · rename_i h1
          split at e2
          · rename_i h2
            exact hc ⟨h1, h2⟩
          · omega
        · omega
#print axioms sheet_ok
#print axioms sheet_no
#print axioms sheet_nil
#print axioms sheet_yes
#print axioms sheet_bad
#print axioms sheet_open
end Go.Proofs.YtkohohjpnlhioaaGreatDoor
/- The last sheet, corners that the reader reads. -/
namespace Go.Proofs.YtkohohjpnlhioaaGreatDoor
open Go.RowKit Go.Shelf

theorem emp_yes (t : ByteArray) (h : t.size = 0) : t.toList.isEmpty = true := by
  rw [ByteArray.toList_eq]
  have : t.data.toList = [] := List.length_eq_zero_iff.1 (by simpa using h)
  rw [this]
  rfl
theorem toA_ok {s f t : ByteArray} {p q : Nat} (h : toA s f p = .ok (t, q)) : shA s p = .ok (t, q) ∧ (t.size = 0 ∨ f.size ≠ 0) := by
  unfold toA at h
  split at h
  · cases h
  · rename_i t' q' hs
    split at h
    · rename_i hc
      cases h
      exact ⟨hs, hc⟩
    · cases h
set_option maxRecDepth 100000 in
set_option maxHeartbeats 2000000 in
theorem to_ok (rb : Nat) (s f t : ByteArray) (p q : Nat) (w : World) (h : RdAt w rb s p) (hp : p ≤ s.size) (hz : s.size ≤ 140737488355328) (hs : toA s f p = .ok (t, q)) :
    Calls Tryz.prog 186 #[.pointer (some ⟨rb, 0, none⟩), .string f] w fun e w' => e = .returned (.string t) ∧ RdAt w' rb s q ∧ Fr (oneB rb) w w' := by
  obtain ⟨h1, h2⟩ := toA_ok hs
  have HS := sheet_ok rb s t p q w h hp hz h1
  have d1 := h.c1
  have HH := hold_ok
  clear h hs h1
  by_cases ht : t.size = 0
  · have e1 := emp_yes t ht
    clear h2 ht
    go_enter Tryz.func186, Tryz.ntmps186
    go_wp2_with (first | (go_at_call 182; refine HS.mono ?_; rintro e w1 ⟨rfl, hR1, hF1⟩) | (go_at_call 183; refine (HH _ _ _).mono ?_; rintro e w3 ⟨rfl, rfl⟩))
    go_ret
    exact ⟨rfl, hR1, hF1⟩
  · have e1 := emp_no t (by omega)
    have e2 := emp_no f (by omega)
    clear h2 ht
    go_enter Tryz.func186, Tryz.ntmps186
    go_wp2_with (first | (go_at_call 182; refine HS.mono ?_; rintro e w1 ⟨rfl, hR1, hF1⟩) | (go_at_call 183; refine (HH _ _ _).mono ?_; rintro e w3 ⟨rfl, rfl⟩))
    go_ret
    exact ⟨rfl, hR1, hF1⟩
set_option maxRecDepth 100000 in
set_option maxHeartbeats 2000000 in
theorem to_no (rb : Nat) (s f : ByteArray) (p a : Nat) (c : Int) (w : World) (h : RdAt w rb s p) (hp : p ≤ s.size) (hz : s.size ≤ 140737488355328) (hs : toA s f p = .error (a, c)) :
    Calls Tryz.prog 186 #[.pointer (some ⟨rb, 0, none⟩), .string f] w fun e w' => e = thr a c ∧ Fr (oneB rb) w w' := by
  have d1 := h.c1
  unfold toA at hs
  split at hs
  · rename_i e he
    cases hs
    have HS := sheet_no rb s p a c w h hp hz he
    clear h he
    go_enter Tryz.func186, Tryz.ntmps186
    go_wp2_with (go_at_call 182; refine HS.mono ?_; rintro e w1 ⟨rfl, hF1⟩; exact ⟨rfl, rfl, hF1⟩)
  · rename_i t q he
    split at hs
    · cases hs
    · rename_i hc
      cases hs
      have HS := sheet_ok rb s t p q w h hp hz he
      have HH := hold_no p 110
      have e1 := emp_no t (by omega)
      have e2 := emp_yes f (by omega)
      clear h he hc
      go_enter Tryz.func186, Tryz.ntmps186
      go_wp2_with (first | (go_at_call 182; refine HS.mono ?_; rintro e w1 ⟨rfl, hR1, hF1⟩) | (go_at_call 183; refine (HH _).mono ?_; rintro e w3 ⟨rfl, rfl⟩; exact ⟨rfl, rfl, hF1⟩))
#print axioms to_ok
#print axioms to_no

/-- A corner's cells in a block. -/
structure KAt (w : World) (B : Nat) (r c : Int) (x y : Bool) : Prop where
  o : w.heap[B]? = some (.cells #[.int .i64 r, .int .i64 c, .bool x, .bool y] 24 (0, 0))
theorem KAt.fr {S : Nat → Prop} {w w' : World} {B : Nat} {r c : Int} {x y : Bool} (h : KAt w B r c x y) (hF : Fr S w w') (hB : ¬ S B) : KAt w' B r c x y := ⟨hF.obj h.o hB⟩
section
variable {w : World} {B : Nat} {r c : Int} {x y : Bool} (h : KAt w B r c x y)
include h
theorem KAt.c0 : w.cell? ⟨B, 0, none⟩ = some (.int .i64 r) := cellOf (o := 0) h.o rfl
theorem KAt.c1 : w.cell? ⟨B, 1, none⟩ = some (.int .i64 c) := cellOf (o := 1) h.o rfl
theorem KAt.c2 : w.cell? ⟨B, 2, none⟩ = some (.bool x) := cellOf (o := 2) h.o rfl
theorem KAt.c3 : w.cell? ⟨B, 3, none⟩ = some (.bool y) := cellOf (o := 3) h.o rfl
theorem KAt.f : ∀ o, w.frozen? ⟨B, o, none⟩ = false := fun o => freeOf o h.o
theorem KAt.s0 (r' : Int) : KAt (w.setCell ⟨B, 0, none⟩ (.int .i64 r')) B r' c x y := ⟨setOf 0 _ h.o⟩
theorem KAt.s1 (c' : Int) : KAt (w.setCell ⟨B, 1, none⟩ (.int .i64 c')) B r c' x y := ⟨setOf 1 _ h.o⟩
theorem KAt.s2 (x' : Bool) : KAt (w.setCell ⟨B, 2, none⟩ (.bool x')) B r c x' y := ⟨setOf 2 _ h.o⟩
theorem KAt.s3 (y' : Bool) : KAt (w.setCell ⟨B, 3, none⟩ (.bool y')) B r c x y' := ⟨setOf 3 _ h.o⟩
end
theorem info_cor : (Tryz.prog.info? 24).map (·.size) = some 4 := by kernel_rfl
theorem kret {fn : Func} {p : Tmp} (h : fn.results = #[.cell p 24]) (tmps : Array Value) (w : World) (g : Nat) {r c : Int} {x y : Bool} (hp : tmps.getD p undef = .pointer (some ⟨g, 0, none⟩)) (hv : KAt w g r c x y) :
    (results fn tmps).run Tryz.prog w = .ok (.agg #[.int .i64 r, .int .i64 c, .bool x, .bool y]) w :=
  results_cell_row h tmps w g 24 _ (0, 0) _ hp hv.o Tryz.underlying24 rfl info_cor
theorem RdAt.setO {w : World} {rb : Nat} {s : ByteArray} {p : Nat} (h : RdAt w rb s p) (b o : Nat) (v : Value) (hb : rb ≠ b) : RdAt (w.setCell ⟨b, o, none⟩ v) rb s p := ⟨(Below.heap_setCell _ _ _ _ hb).trans h.at_⟩
theorem KAt.setO {w : World} {B : Nat} {r c : Int} {x y : Bool} (h : KAt w B r c x y) (b o : Nat) (v : Value) (hb : B ≠ b) : KAt (w.setCell ⟨b, o, none⟩ v) B r c x y := ⟨(Below.heap_setCell _ _ _ _ hb).trans h.o⟩
theorem skip36 (rb : Nat) (s : ByteArray) (p : Nat) (w : World) (h : RdAt w rb s p) (hp : p ≤ s.size) (hz : s.size ≤ 140737488355328) :
    Calls Tryz.prog 181 #[.pointer (some ⟨rb, 0, none⟩), .string ⟨#[36]⟩] w fun e w' => e = .returned (.bool (isAt s 36 p)) ∧ RdAt w' rb s (past s 36 p) ∧ Fr (oneB rb) w w' := skip_any rb s 36 p (by decide) w h hp hz
theorem skip58 (rb : Nat) (s : ByteArray) (p : Nat) (w : World) (h : RdAt w rb s p) (hp : p ≤ s.size) (hz : s.size ≤ 140737488355328) :
    Calls Tryz.prog 181 #[.pointer (some ⟨rb, 0, none⟩), .string ⟨#[58]⟩] w fun e w' => e = .returned (.bool (isAt s 58 p)) ∧ RdAt w' rb s (past s 58 p) ∧ Fr (oneB rb) w w' := skip_any rb s 58 p (by decide) w h hp hz
theorem need46 (rb : Nat) (s : ByteArray) (p : Nat) (w : World) (h : RdAt w rb s p) (hp : p ≤ s.size) (hz : s.size ≤ 140737488355328) (hi : isAt s 46 p = true) :
    Calls Tryz.prog 184 #[.pointer (some ⟨rb, 0, none⟩), .string ⟨#[46]⟩] w fun e w' => e = .returned (.tuple #[]) ∧ RdAt w' rb s (p + 1) ∧ Fr (oneB rb) w w' := need_ok rb s 46 p (by decide) w h hp hz hi
theorem need46n (rb : Nat) (s : ByteArray) (p : Nat) (w : World) (h : RdAt w rb s p) (hp : p ≤ s.size) (hz : s.size ≤ 140737488355328) (hi : isAt s 46 p = false) :
    Calls Tryz.prog 184 #[.pointer (some ⟨rb, 0, none⟩), .string ⟨#[46]⟩] w fun e w' => e = thr p 110 ∧ Fr (oneB rb) w w' := need_no rb s 46 p (by decide) w h hp hz hi
theorem Fr.one {w W W2 : World} {rb b : Nat} (h : Fr (oneB rb) w W) (hb : w.heap.size ≤ b) (o : Nat) (v : Value) (hF : Fr (oneB rb) (W.setCell ⟨b, o, none⟩ v) W2) : Fr (oneB rb) w W2 := (h.setCell ⟨b, o, none⟩ (Or.inr hb) v).trans hF

set_option maxRecDepth 100000 in
set_option maxHeartbeats 4000000 in
theorem corner_ok (rb : Nat) (s : ByteArray) (p r c z : Nat) (x y : Bool) (w : World) (h : RdAt w rb s p) (hp : p ≤ s.size) (hz : s.size ≤ 140737488355328) (hs : crA s p = .ok ((r, c, x, y), z)) :
    Calls Tryz.prog 185 #[.pointer (some ⟨rb, 0, none⟩)] w fun e w' => e = .returned (.agg #[.int .i64 (r : Int), .int .i64 (c : Int), .bool x, .bool y]) ∧ RdAt w' rb s z ∧ Fr (oneB rb) w w' := by
  obtain ⟨q, h1, h2, rfl, rfl⟩ := crA_ok hs
  have hp1 := past_le s 36 p hp
  have hc1 := coA_le hp1.2 h1
  have hp2 := past_le s 36 q hc1.2.1
  have hr1 := roA_le hp2.2 h2
  have hlt := h.lt
  obtain ⟨W0, hW0⟩ : ∃ W0, (w.alloc (.cells #[.int .i64 0, .int .i64 0, .bool false, .bool false] 24 (0, 0))).alloc (.cells #[.int .i64 0, .int .i64 0, .bool false, .bool false] 24 (0, 0)) = W0 := ⟨_, rfl⟩
  have hF0 : Fr noB w W0 := by rw [← hW0]; exact ((Fr.refl noB w).alloc _).alloc _
  have hR0 : RdAt W0 rb s p := h.fr hF0 id
  have hA0 : KAt W0 w.heap.size 0 0 false false := ⟨by rw [← hW0]; exact (Below.heap_alloc _ _ _ (by simp)).trans (heap_alloc_new w _)⟩
  have hB0 : KAt W0 (w.heap.size + 1) 0 0 false false := ⟨by
    rw [← hW0]
    have e := heap_alloc_new (w.alloc (.cells #[.int .i64 0, .int .i64 0, .bool false, .bool false] 24 (0, 0))) (.cells #[.int .i64 0, .int .i64 0, .bool false, .bool false] 24 (0, 0))
    rwa [World.size_alloc] at e⟩
  have n1 : rb ≠ w.heap.size + 1 := by omega
  have n0 : rb ≠ w.heap.size := by omega
  have n2 : ¬ oneB rb w.heap.size := fun e => by unfold oneB at e; omega
  have n3 : ¬ oneB rb (w.heap.size + 1) := fun e => by unfold oneB at e; omega
  have n4 : w.heap.size ≠ w.heap.size + 1 := by omega
  have H1 := skip36 rb s p W0 hR0 hp hz
  have H2 : Hid (∀ W, RdAt W rb s (past s 36 p) → _) := fun W hW => rcol_ok rb s _ c q W hW hp1.2 hz h1
  have H3 : Hid (∀ W, RdAt W rb s q → _) := fun W hW => skip36 rb s q W hW hc1.2.1 hz
  have H4 : Hid (∀ W, RdAt W rb s (past s 36 q) → _) := fun W hW => rrow_ok rb s _ r z W hW hp2.2 hz h2
  have HF0 : Hid (Fr (oneB rb) w W0) := hF0.weak
  have HS : Hid (w.heap.size ≤ w.heap.size + 1) := Nat.le_succ _
  clear h hs h1 h2 hF0 hR0 hp1 hc1 hp2 hr1
  generalize isAt s 36 p = y at *
  generalize isAt s 36 q = x at *
  generalize past s 36 p = p1 at *
  generalize past s 36 q = p2 at *
  go_enter Tryz.func185, Tryz.ntmps185
  go_wp2_with (first
    | (go_at_call 181; (with_reducible refine H1.mono ?_); rintro e w1 ⟨rfl, hR1, hF1⟩; have hA1 := hA0.fr hF1 n2; have hB1 := hB0.fr hF1 n3; have g3 := hB1.c3; have f1 := hB1.f; have HG1 : Hid _ := HF0.out.trans hF1; clear hA0 hB0 hF1 H1)
    | (go_at_call 223; (with_reducible refine (H2.out _ (hR1.setO _ _ _ n1)).mono ?_); rintro e w2 ⟨rfl, hR2, hF2⟩; have hA2 := (hA1.setO _ 3 (.bool y) n4).fr hF2 n2; have hB2 := (hB1.s3 y).fr hF2 n3; have HG2 : Hid _ := HG1.out.one HS.out _ _ hF2; clear hA1 hB1 g3 f1 hF2 HG1 hR1 H2; have g1 := hB2.c1; have f2 := hB2.f)
    | (go_at_call 181; (with_reducible refine (H3.out _ (hR2.setO _ _ _ n1)).mono ?_); rintro e w3 ⟨rfl, hR3, hF3⟩; have hA3 := (hA2.setO _ 1 (.int .i64 (c : Int)) n4).fr hF3 n2; have hB3 := (hB2.s1 (c : Int)).fr hF3 n3; have HG3 : Hid _ := HG2.out.one HS.out _ _ hF3; clear hA2 hB2 g1 f2 hF3 HG2 hR2 H3; have g2 := hB3.c2; have f3 := hB3.f)
    | (go_at_call 224; (with_reducible refine (H4.out _ (hR3.setO _ _ _ n1)).mono ?_); rintro e w4 ⟨rfl, hR4, hF4⟩; have hA4 := (hA3.setO _ 2 (.bool x) n4).fr hF4 n2; have hB4 := (hB3.s2 x).fr hF4 n3; have HG4 : Hid _ := HG3.out.one HS.out _ _ hF4; clear hA3 hB3 g2 f3 hF4 HG3 hR3 H4; have g4 := hB4.c0; have g5 := hB4.c1; have g6 := hB4.c2; have g7 := hB4.c3; have f4 := hB4.f; have k0 := hA4.c0; have k1 := hA4.c1; have k2 := hA4.c2; have k3 := hA4.c3; have f5 := hA4.f))
  refine bodyPost_ret (kret Tryz.results185 _ _ w.heap.size rfl (((((hA4.setO _ 0 (.int .i64 (r : Int)) n4).s0 (r : Int)).s1 (c : Int)).s2 x).s3 y)) rfl ⟨rfl, ?_, ?_⟩
  · exact ((((hR4.setO _ _ _ n1).setO _ _ _ n0).setO _ _ _ n0).setO _ _ _ n0).setO _ _ _ n0
  · exact ((((HG4.out.setCell _ (Or.inr HS.out) _).setCell _ (Or.inr (Nat.le_refl _)) _).setCell _ (Or.inr (Nat.le_refl _)) _).setCell _ (Or.inr (Nat.le_refl _)) _).setCell _ (Or.inr (Nat.le_refl _)) _
#print axioms corner_ok
set_option maxRecDepth 100000 in
set_option maxHeartbeats 4000000 in
theorem corner_no (rb : Nat) (s : ByteArray) (p a : Nat) (d : Int) (w : World) (h : RdAt w rb s p) (hE : ETab w) (hb1 : ¬ rb = 7) (hb2 : ¬ rb = 8) (hp : p ≤ s.size) (hz : s.size ≤ 140737488355328) (hs : crA s p = .error (a, d)) :
    Calls Tryz.prog 185 #[.pointer (some ⟨rb, 0, none⟩)] w fun e w' => e = thr a d ∧ Fr (oneB rb) w w' := by
  have hp1 := past_le s 36 p hp
  have hlt := h.lt
  have hg1 : 7 < w.heap.size := by obtain ⟨⟨_, _, e⟩, _⟩ := hE; exact lt_of_cell e
  have hg2 : 8 < w.heap.size := by obtain ⟨_, ⟨_, _, e⟩⟩ := hE; exact lt_of_cell e
  obtain ⟨W0, hW0⟩ : ∃ W0, (w.alloc (.cells #[.int .i64 0, .int .i64 0, .bool false, .bool false] 24 (0, 0))).alloc (.cells #[.int .i64 0, .int .i64 0, .bool false, .bool false] 24 (0, 0)) = W0 := ⟨_, rfl⟩
  have hF0 : Fr noB w W0 := by rw [← hW0]; exact ((Fr.refl noB w).alloc _).alloc _
  have hR0 : RdAt W0 rb s p := h.fr hF0 id
  have hB0 : KAt W0 (w.heap.size + 1) 0 0 false false := ⟨by
    rw [← hW0]
    have e := heap_alloc_new (w.alloc (.cells #[.int .i64 0, .int .i64 0, .bool false, .bool false] 24 (0, 0))) (.cells #[.int .i64 0, .int .i64 0, .bool false, .bool false] 24 (0, 0))
    rwa [World.size_alloc] at e⟩
  have n1 : rb ≠ w.heap.size + 1 := by omega
  have n3 : ¬ oneB rb (w.heap.size + 1) := fun e => by unfold oneB at e; omega
  have H1 := skip36 rb s p W0 hR0 hp hz
  have HE : Hid (∀ W, Fr (oneB rb) w W → ETab W) := fun W hF => hE.fr hF (fun e => hb1 e.symm) (fun e => hb2 e.symm)
  have HF0 : Hid (Fr (oneB rb) w W0) := hF0.weak
  have HS : Hid (w.heap.size ≤ w.heap.size + 1) := Nat.le_succ _
  unfold crA at hs
  split at hs
  · rename_i e he
    cases hs
    have H2 : Hid (∀ W, RdAt W rb s (past s 36 p) → _) := fun W hW => rcol_no rb s _ a d W hW hp1.2 hz he
    clear h hF0 hR0 hp1 he hE hb1 hb2
    generalize isAt s 36 p = y at *
    generalize past s 36 p = p1 at *
    go_enter Tryz.func185, Tryz.ntmps185
    go_wp2_with (first
      | (go_at_call 181; (with_reducible refine H1.mono ?_); rintro e w1 ⟨rfl, hR1, hF1⟩; have hB1 := hB0.fr hF1 n3; have g3 := hB1.c3; have f1 := hB1.f; have HG1 : Hid _ := HF0.out.trans hF1; clear hB0 hF1 H1)
      | (go_at_call 223; (with_reducible refine (H2.out _ (hR1.setO _ _ _ n1)).mono ?_); rintro e w2 ⟨rfl, hF2⟩; exact ⟨rfl, rfl, HG1.out.one HS.out _ _ hF2⟩))
  · rename_i c q he
    have hc1 := coA_le hp1.2 he
    have hp2 := past_le s 36 q hc1.2.1
    split at hs
    · rename_i e hr
      cases hs
      have H2 : Hid (∀ W, RdAt W rb s (past s 36 p) → _) := fun W hW => rcol_ok rb s _ c q W hW hp1.2 hz he
      have H3 : Hid (∀ W, RdAt W rb s q → _) := fun W hW => skip36 rb s q W hW hc1.2.1 hz
      have H4 : Hid (∀ W, RdAt W rb s (past s 36 q) → ETab W → _) := fun W hW hEE => rrow_no rb s _ a d W hW hEE hb1 hb2 hp2.2 hz hr
      clear h hF0 hR0 hp1 hc1 hp2 he hr hE hb1 hb2
      generalize isAt s 36 p = y at *
      generalize isAt s 36 q = x at *
      generalize past s 36 p = p1 at *
      generalize past s 36 q = p2 at *
      go_enter Tryz.func185, Tryz.ntmps185
      go_wp2_with (first
        | (go_at_call 181; (with_reducible refine H1.mono ?_); rintro e w1 ⟨rfl, hR1, hF1⟩; have hB1 := hB0.fr hF1 n3; have g3 := hB1.c3; have f1 := hB1.f; have HG1 : Hid _ := HF0.out.trans hF1; clear hB0 hF1 H1)
        | (go_at_call 223; (with_reducible refine (H2.out _ (hR1.setO _ _ _ n1)).mono ?_); rintro e w2 ⟨rfl, hR2, hF2⟩; have hB2 := (hB1.s3 y).fr hF2 n3; have HG2 : Hid _ := HG1.out.one HS.out _ _ hF2; clear hB1 g3 f1 hF2 HG1 hR1 H2; have g1 := hB2.c1; have f2 := hB2.f)
        | (go_at_call 181; (with_reducible refine (H3.out _ (hR2.setO _ _ _ n1)).mono ?_); rintro e w3 ⟨rfl, hR3, hF3⟩; have hB3 := (hB2.s1 (c : Int)).fr hF3 n3; have HG3 : Hid _ := HG2.out.one HS.out _ _ hF3; clear hB2 g1 f2 hF3 HG2 hR2 H3; have g2 := hB3.c2; have f3 := hB3.f)
        | (go_at_call 224; (with_reducible refine (H4.out _ (hR3.setO _ _ _ n1) (HE.out _ (HG3.out.setCell _ (Or.inr HS.out) _))).mono ?_); rintro e w4 ⟨rfl, hF4⟩; exact ⟨rfl, rfl, HG3.out.one HS.out _ _ hF4⟩))
    · cases hs
#print axioms corner_no
end Go.Proofs.YtkohohjpnlhioaaGreatDoor
/- A reference in memory; the reader reads a whole reference. -/
namespace Go.Proofs.YtkohohjpnlhioaaGreatDoor
open Go.RowKit Go.Shelf

/-- A reference's cells in a block. -/
structure RAt (w : World) (B : Nat) (t u : ByteArray) (fx ar : Bool) (r1 c1 : Int) (x1 y1 : Bool) (r2 c2 : Int) (x2 y2 : Bool) : Prop where
  o : w.heap[B]? = some (.cells #[.string t, .string u, .bool fx, .bool ar, .int .i64 r1, .int .i64 c1, .bool x1, .bool y1, .int .i64 r2, .int .i64 c2, .bool x2, .bool y2] 26 (0, 0))
theorem RAt.fr {S : Nat → Prop} {w w' : World} {B : Nat} {t u : ByteArray} {fx ar : Bool} {r1 c1 : Int} {x1 y1 : Bool} {r2 c2 : Int} {x2 y2 : Bool} (h : RAt w B t u fx ar r1 c1 x1 y1 r2 c2 x2 y2) (hF : Fr S w w') (hB : ¬ S B) : RAt w' B t u fx ar r1 c1 x1 y1 r2 c2 x2 y2 := ⟨hF.obj h.o hB⟩
theorem RAt.setO {w : World} {B : Nat} {t u : ByteArray} {fx ar : Bool} {r1 c1 : Int} {x1 y1 : Bool} {r2 c2 : Int} {x2 y2 : Bool} (h : RAt w B t u fx ar r1 c1 x1 y1 r2 c2 x2 y2) (b o : Nat) (v : Value) (hb : B ≠ b) : RAt (w.setCell ⟨b, o, none⟩ v) B t u fx ar r1 c1 x1 y1 r2 c2 x2 y2 := ⟨(Below.heap_setCell _ _ _ _ hb).trans h.o⟩
section
variable {w : World} {B : Nat} {t u : ByteArray} {fx ar : Bool} {r1 c1 : Int} {x1 y1 : Bool} {r2 c2 : Int} {x2 y2 : Bool} (h : RAt w B t u fx ar r1 c1 x1 y1 r2 c2 x2 y2)
include h
theorem RAt.g0 : w.cell? ⟨B, 0, none⟩ = some (.string t) := cellOf (o := 0) h.o rfl
theorem RAt.g1 : w.cell? ⟨B, 1, none⟩ = some (.string u) := cellOf (o := 1) h.o rfl
theorem RAt.g2 : w.cell? ⟨B, 2, none⟩ = some (.bool fx) := cellOf (o := 2) h.o rfl
theorem RAt.g3 : w.cell? ⟨B, 3, none⟩ = some (.bool ar) := cellOf (o := 3) h.o rfl
theorem RAt.g4 : w.cell? ⟨B, 4, none⟩ = some (.int .i64 r1) := cellOf (o := 4) h.o rfl
theorem RAt.g5 : w.cell? ⟨B, 5, none⟩ = some (.int .i64 c1) := cellOf (o := 5) h.o rfl
theorem RAt.g6 : w.cell? ⟨B, 6, none⟩ = some (.bool x1) := cellOf (o := 6) h.o rfl
theorem RAt.g7 : w.cell? ⟨B, 7, none⟩ = some (.bool y1) := cellOf (o := 7) h.o rfl
theorem RAt.g8 : w.cell? ⟨B, 8, none⟩ = some (.int .i64 r2) := cellOf (o := 8) h.o rfl
theorem RAt.g9 : w.cell? ⟨B, 9, none⟩ = some (.int .i64 c2) := cellOf (o := 9) h.o rfl
theorem RAt.g10 : w.cell? ⟨B, 10, none⟩ = some (.bool x2) := cellOf (o := 10) h.o rfl
theorem RAt.g11 : w.cell? ⟨B, 11, none⟩ = some (.bool y2) := cellOf (o := 11) h.o rfl
theorem RAt.f : ∀ o, w.frozen? ⟨B, o, none⟩ = false := fun o => freeOf o h.o
theorem RAt.s0 (v : ByteArray) : RAt (w.setCell ⟨B, 0, none⟩ (.string v)) B v u fx ar r1 c1 x1 y1 r2 c2 x2 y2 := ⟨setOf 0 _ h.o⟩
theorem RAt.s1 (v : ByteArray) : RAt (w.setCell ⟨B, 1, none⟩ (.string v)) B t v fx ar r1 c1 x1 y1 r2 c2 x2 y2 := ⟨setOf 1 _ h.o⟩
theorem RAt.s2 (v : Bool) : RAt (w.setCell ⟨B, 2, none⟩ (.bool v)) B t u v ar r1 c1 x1 y1 r2 c2 x2 y2 := ⟨setOf 2 _ h.o⟩
theorem RAt.s3 (v : Bool) : RAt (w.setCell ⟨B, 3, none⟩ (.bool v)) B t u fx v r1 c1 x1 y1 r2 c2 x2 y2 := ⟨setOf 3 _ h.o⟩
theorem RAt.s4 (v : Int) : RAt (w.setCell ⟨B, 4, none⟩ (.int .i64 v)) B t u fx ar v c1 x1 y1 r2 c2 x2 y2 := ⟨setOf 4 _ h.o⟩
theorem RAt.s5 (v : Int) : RAt (w.setCell ⟨B, 5, none⟩ (.int .i64 v)) B t u fx ar r1 v x1 y1 r2 c2 x2 y2 := ⟨setOf 5 _ h.o⟩
theorem RAt.s6 (v : Bool) : RAt (w.setCell ⟨B, 6, none⟩ (.bool v)) B t u fx ar r1 c1 v y1 r2 c2 x2 y2 := ⟨setOf 6 _ h.o⟩
theorem RAt.s7 (v : Bool) : RAt (w.setCell ⟨B, 7, none⟩ (.bool v)) B t u fx ar r1 c1 x1 v r2 c2 x2 y2 := ⟨setOf 7 _ h.o⟩
theorem RAt.s8 (v : Int) : RAt (w.setCell ⟨B, 8, none⟩ (.int .i64 v)) B t u fx ar r1 c1 x1 y1 v c2 x2 y2 := ⟨setOf 8 _ h.o⟩
theorem RAt.s9 (v : Int) : RAt (w.setCell ⟨B, 9, none⟩ (.int .i64 v)) B t u fx ar r1 c1 x1 y1 r2 v x2 y2 := ⟨setOf 9 _ h.o⟩
theorem RAt.s10 (v : Bool) : RAt (w.setCell ⟨B, 10, none⟩ (.bool v)) B t u fx ar r1 c1 x1 y1 r2 c2 v y2 := ⟨setOf 10 _ h.o⟩
theorem RAt.s11 (v : Bool) : RAt (w.setCell ⟨B, 11, none⟩ (.bool v)) B t u fx ar r1 c1 x1 y1 r2 c2 x2 v := ⟨setOf 11 _ h.o⟩
end
theorem info_ref : (Tryz.prog.info? 26).map (·.size) = some 12 := by kernel_rfl
theorem rret {fn : Func} {p : Tmp} (h : fn.results = #[.cell p 26]) (tmps : Array Value) (w : World) (g : Nat) {t u : ByteArray} {fx ar : Bool} {r1 c1 : Int} {x1 y1 : Bool} {r2 c2 : Int} {x2 y2 : Bool} (hp : tmps.getD p undef = .pointer (some ⟨g, 0, none⟩)) (hv : RAt w g t u fx ar r1 c1 x1 y1 r2 c2 x2 y2) :
    (results fn tmps).run Tryz.prog w = .ok (.agg #[.string t, .string u, .bool fx, .bool ar, .int .i64 r1, .int .i64 c1, .bool x1, .bool y1, .int .i64 r2, .int .i64 c2, .bool x2, .bool y2]) w :=
  results_cell_row h tmps w g 26 _ (0, 0) _ hp hv.o Tryz.underlying26 rfl info_ref
theorem two_refs (w : World) : RAt ((w.alloc (.cells #[.string ⟨#[]⟩, .string ⟨#[]⟩, .bool false, .bool false, .int .i64 0, .int .i64 0, .bool false, .bool false, .int .i64 0, .int .i64 0, .bool false, .bool false] 26 (0, 0))).alloc (.cells #[.string ⟨#[]⟩, .string ⟨#[]⟩, .bool false, .bool false, .int .i64 0, .int .i64 0, .bool false, .bool false, .int .i64 0, .int .i64 0, .bool false, .bool false] 26 (0, 0))) w.heap.size ⟨#[]⟩ ⟨#[]⟩ false false 0 0 false false 0 0 false false ∧ RAt ((w.alloc (.cells #[.string ⟨#[]⟩, .string ⟨#[]⟩, .bool false, .bool false, .int .i64 0, .int .i64 0, .bool false, .bool false, .int .i64 0, .int .i64 0, .bool false, .bool false] 26 (0, 0))).alloc (.cells #[.string ⟨#[]⟩, .string ⟨#[]⟩, .bool false, .bool false, .int .i64 0, .int .i64 0, .bool false, .bool false, .int .i64 0, .int .i64 0, .bool false, .bool false] 26 (0, 0))) (w.heap.size + 1) ⟨#[]⟩ ⟨#[]⟩ false false 0 0 false false 0 0 false false :=
  ⟨⟨(Below.heap_alloc _ _ _ (by simp)).trans (heap_alloc_new w _)⟩, ⟨by
    have e := heap_alloc_new (w.alloc (.cells #[.string ⟨#[]⟩, .string ⟨#[]⟩, .bool false, .bool false, .int .i64 0, .int .i64 0, .bool false, .bool false, .int .i64 0, .int .i64 0, .bool false, .bool false] 26 (0, 0))) (.cells #[.string ⟨#[]⟩, .string ⟨#[]⟩, .bool false, .bool false, .int .i64 0, .int .i64 0, .bool false, .bool false, .int .i64 0, .int .i64 0, .bool false, .bool false] 26 (0, 0))
    rwa [World.size_alloc] at e⟩⟩
theorem RAt.all {w : World} {B : Nat} {t0 u0 : ByteArray} {f0 a0 : Bool} {r0 c0 : Int} {x0 y0 : Bool} {r9 c9 : Int} {x9 y9 : Bool} (h : RAt w B t0 u0 f0 a0 r0 c0 x0 y0 r9 c9 x9 y9) (t u : ByteArray) (fx ar : Bool) (r1 c1 : Int) (x1 y1 : Bool) (r2 c2 : Int) (x2 y2 : Bool) : RAt ((((((((((((w.setCell ⟨B, 0, none⟩ (.string t)).setCell ⟨B, 1, none⟩ (.string u)).setCell ⟨B, 2, none⟩ (.bool fx)).setCell ⟨B, 3, none⟩ (.bool ar)).setCell ⟨B, 4, none⟩ (.int .i64 r1)).setCell ⟨B, 5, none⟩ (.int .i64 c1)).setCell ⟨B, 6, none⟩ (.bool x1)).setCell ⟨B, 7, none⟩ (.bool y1)).setCell ⟨B, 8, none⟩ (.int .i64 r2)).setCell ⟨B, 9, none⟩ (.int .i64 c2)).setCell ⟨B, 10, none⟩ (.bool x2)).setCell ⟨B, 11, none⟩ (.bool y2)) B t u fx ar r1 c1 x1 y1 r2 c2 x2 y2 :=
  ((((((((((((h.s0 t).s1 u).s2 fx).s3 ar).s4 r1).s5 c1).s6 x1).s7 y1).s8 r2).s9 c2).s10 x2).s11 y2)
theorem Fr.all {S : Nat → Prop} {a w : World} {B : Nat} (h : Fr S a w) (hB : S B ∨ a.heap.size ≤ B) (t u : ByteArray) (fx ar : Bool) (r1 c1 : Int) (x1 y1 : Bool) (r2 c2 : Int) (x2 y2 : Bool) : Fr S a ((((((((((((w.setCell ⟨B, 0, none⟩ (.string t)).setCell ⟨B, 1, none⟩ (.string u)).setCell ⟨B, 2, none⟩ (.bool fx)).setCell ⟨B, 3, none⟩ (.bool ar)).setCell ⟨B, 4, none⟩ (.int .i64 r1)).setCell ⟨B, 5, none⟩ (.int .i64 c1)).setCell ⟨B, 6, none⟩ (.bool x1)).setCell ⟨B, 7, none⟩ (.bool y1)).setCell ⟨B, 8, none⟩ (.int .i64 r2)).setCell ⟨B, 9, none⟩ (.int .i64 c2)).setCell ⟨B, 10, none⟩ (.bool x2)).setCell ⟨B, 11, none⟩ (.bool y2)) :=
  ((((((((((((h.setCell ⟨B, 0, none⟩ hB _).setCell ⟨B, 1, none⟩ hB _).setCell ⟨B, 2, none⟩ hB _).setCell ⟨B, 3, none⟩ hB _).setCell ⟨B, 4, none⟩ hB _).setCell ⟨B, 5, none⟩ hB _).setCell ⟨B, 6, none⟩ hB _).setCell ⟨B, 7, none⟩ hB _).setCell ⟨B, 8, none⟩ hB _).setCell ⟨B, 9, none⟩ hB _).setCell ⟨B, 10, none⟩ hB _).setCell ⟨B, 11, none⟩ hB _)
theorem heap_all (w : World) (B k : Nat) (h : k ≠ B) (t u : ByteArray) (fx ar : Bool) (r1 c1 : Int) (x1 y1 : Bool) (r2 c2 : Int) (x2 y2 : Bool) : ((((((((((((w.setCell ⟨B, 0, none⟩ (.string t)).setCell ⟨B, 1, none⟩ (.string u)).setCell ⟨B, 2, none⟩ (.bool fx)).setCell ⟨B, 3, none⟩ (.bool ar)).setCell ⟨B, 4, none⟩ (.int .i64 r1)).setCell ⟨B, 5, none⟩ (.int .i64 c1)).setCell ⟨B, 6, none⟩ (.bool x1)).setCell ⟨B, 7, none⟩ (.bool y1)).setCell ⟨B, 8, none⟩ (.int .i64 r2)).setCell ⟨B, 9, none⟩ (.int .i64 c2)).setCell ⟨B, 10, none⟩ (.bool x2)).setCell ⟨B, 11, none⟩ (.bool y2)).heap[k]? = w.heap[k]? := by
  rw [Below.heap_setCell _ _ _ _ h, Below.heap_setCell _ _ _ _ h, Below.heap_setCell _ _ _ _ h, Below.heap_setCell _ _ _ _ h, Below.heap_setCell _ _ _ _ h, Below.heap_setCell _ _ _ _ h, Below.heap_setCell _ _ _ _ h, Below.heap_setCell _ _ _ _ h, Below.heap_setCell _ _ _ _ h, Below.heap_setCell _ _ _ _ h, Below.heap_setCell _ _ _ _ h, Below.heap_setCell _ _ _ _ h]
#print axioms two_refs
end Go.Proofs.YtkohohjpnlhioaaGreatDoor
/- The reader reads a whole reference, and all is well. -/
namespace Go.Proofs.YtkohohjpnlhioaaGreatDoor
open Go.RowKit Go.Shelf
set_option maxRecDepth 100000 in
set_option maxHeartbeats 8000000 in
theorem ref_cell (rb : Nat) (s t : ByteArray) (q r c z : Nat) (x y fx : Bool) (w : World) (h : RdAt w rb s 0) (hz : s.size ≤ 140737488355328) (hfx : isAt s 36 0 = fx) (hs : shA s (past s 36 0) = .ok (t, q)) (hbad : ¬ (fx = true ∧ t.size = 0)) (hi : isAt s 46 q = true) (hk : crA s (q + 1) = .ok ((r, c, x, y), z)) (h58 : isAt s 58 z = false) (hend : z = s.size) :
    Calls Tryz.prog 145 #[.pointer (some ⟨rb, 0, none⟩)] w fun e w' => e = .returned (.agg #[.string t, .string ⟨#[]⟩, .bool fx, .bool false, .int .i64 (r : Int), .int .i64 (c : Int), .bool x, .bool y, .int .i64 0, .int .i64 0, .bool false, .bool false]) ∧ Fr (oneB rb) w w' := by
  have hp0 := past_le s 36 0 (Nat.zero_le _)
  have hs1 := shA_le hp0.2 hs
  have hq1 := isAt_size hi
  have hk1 := crA_le (by omega) hk
  have hlt := h.lt
  obtain ⟨W0, hW0⟩ : ∃ W0, (w.alloc (.cells #[.string ⟨#[]⟩, .string ⟨#[]⟩, .bool false, .bool false, .int .i64 0, .int .i64 0, .bool false, .bool false, .int .i64 0, .int .i64 0, .bool false, .bool false] 26 (0, 0))).alloc (.cells #[.string ⟨#[]⟩, .string ⟨#[]⟩, .bool false, .bool false, .int .i64 0, .int .i64 0, .bool false, .bool false, .int .i64 0, .int .i64 0, .bool false, .bool false] 26 (0, 0)) = W0 := ⟨_, rfl⟩
  have hF0 : Fr noB w W0 := by rw [← hW0]; exact ((Fr.refl noB w).alloc _).alloc _
  have hR0 : RdAt W0 rb s 0 := h.fr hF0 id
  have hAB := two_refs w
  rw [hW0] at hAB
  obtain ⟨hA0, hB0⟩ := hAB
  have n1 : rb ≠ w.heap.size + 1 := by omega
  have n0 : rb ≠ w.heap.size := by omega
  have n2 : ¬ oneB rb w.heap.size := fun e => by unfold oneB at e; omega
  have n3 : ¬ oneB rb (w.heap.size + 1) := fun e => by unfold oneB at e; omega
  have n4 : w.heap.size ≠ w.heap.size + 1 := by omega
  have H1 := skip36 rb s 0 W0 hR0 (Nat.zero_le _) hz
  rw [hfx] at H1
  have H2 : Hid (∀ W, RdAt W rb s (past s 36 0) → _) := fun W hW => sheet_ok rb s t _ q W hW hp0.2 hz hs
  have H3 : Hid (∀ W, RdAt W rb s q → _) := fun W hW => need46 rb s q W hW (by omega) hz hi
  have H4 : Hid (∀ W, RdAt W rb s (q + 1) → _) := fun W hW => corner_ok rb s (q + 1) r c z x y W hW (by omega) hz hk
  have H5 : Hid (∀ W, RdAt W rb s z → Calls Tryz.prog 181 #[.pointer (some ⟨rb, 0, none⟩), .string ⟨#[58]⟩] W fun e w' => e = .returned (.bool false) ∧ RdAt w' rb s z ∧ Fr (oneB rb) W w') := fun W hW => by
    have e := skip58 rb s z W hW (by omega) hz
    rwa [h58, show past s 58 z = z by unfold past; rw [if_neg (by rw [h58]; simp)]] at e
  have HF0 : Hid (Fr (oneB rb) w W0) := hF0.weak
  have HS : Hid (w.heap.size ≤ w.heap.size + 1) := Nat.le_succ _
  have HH := hold_ok
  have hcd : (t.toList.isEmpty = false ∧ 0 < t.size) ∨ (t.toList.isEmpty = true ∧ t.size = 0 ∧ fx = false) := by
    by_cases ht : t.size = 0
    · right
      refine ⟨emp_yes t ht, ht, ?_⟩
      cases fx with
      | false => rfl
      | true => exact absurd ⟨rfl, ht⟩ hbad
    · left
      exact ⟨emp_no t (by omega), by omega⟩
  subst hend
  clear h hs hi hk hF0 hR0 hp0 hs1 hq1 hk1 hbad h58 hfx
  generalize past s 36 0 = p1 at *
  go_enter Tryz.func145, Tryz.ntmps145
  go_wp2_with (first
    | (go_at_call 181; (with_reducible refine H1.mono ?_); rintro e w1 ⟨rfl, hR1, hF1⟩; have hA1 := hA0.fr hF1 n2; have hB1 := hB0.fr hF1 n3; have g3 := hB1.g2; have f1 := hB1.f; have HG1 : Hid _ := HF0.out.trans hF1; clear hA0 hB0 hF1 H1)
    | (go_at_call 182; (with_reducible refine (H2.out _ (hR1.setO _ _ _ n1)).mono ?_); rintro e w2 ⟨rfl, hR2, hF2⟩; have hA2 := (hA1.setO _ 2 (.bool fx) n4).fr hF2 n2; have hB2 := (hB1.s2 fx).fr hF2 n3; have HG2 : Hid _ := HG1.out.one HS.out _ _ hF2; clear hA1 hB1 g3 f1 hF2 HG1 hR1 H2; have g1 := hB2.g0; have f2 := hB2.f))
  obtain ⟨W2, hW2⟩ : ∃ W2, w2.setCell ⟨w.heap.size + 1, 0, none⟩ (.string t) = W2 := ⟨_, rfl⟩
  have hR3 : RdAt W2 rb s q := by rw [← hW2]; exact hR2.setO _ _ _ n1
  have hA3 := hA2.setO (w.heap.size + 1) 0 (.string t) n4
  have hB3 := hB2.s0 t
  have hG3 := HG2.out.setCell ⟨w.heap.size + 1, 0, none⟩ (Or.inr HS.out) (.string t)
  rw [hW2] at hA3 hB3 hG3
  rw [hW2]
  clear hW2 hA2 hB2 HG2 hR2 g1 f2
  have k0 := hB3.g0
  have k2 := hB3.g2
  have k1 := hR3.c1
  rcases hcd with ⟨he, hts⟩ | ⟨he, hts, rfl⟩
  all_goals
    go_quiet ((go_at_call 183; exact Calls.quiet_of_same (HH _ _ _)))
    obtain ⟨W3, hW3⟩ : ∃ W3, W2.drewN nq = W3 := ⟨_, rfl⟩
    have hF3 : Fr noB W2 W3 := by rw [← hW3]; exact (Fr.refl noB _).drewN _
    rw [hW3]
    clear hW3 k0 k2 k1
    have hR4 := hR3.fr hF3 id
    have hA4 := hA3.fr hF3 id
    have hB4 := hB3.fr hF3 id
    have HG4 : Hid _ := hG3.trans hF3.weak
    clear hR3 hA3 hB3 hG3 hF3
    go_wp2_with (first
      | (go_at_call 184; (with_reducible refine (H3.out _ hR4).mono ?_); rintro e w5 ⟨rfl, hR5, hF5⟩; have hA5 := hA4.fr hF5 n2; have hB5 := hB4.fr hF5 n3; have HG5 : Hid _ := HG4.out.trans hF5; clear hA4 hB4 hF5 HG4 hR4)
      | (go_at_call 185; (with_reducible refine (H4.out _ hR5).mono ?_); rintro e w6 ⟨rfl, hR6, hF6⟩; have hA6 := hA5.fr hF6 n2; have hB6 := hB5.fr hF6 n3; have HG6 : Hid _ := HG5.out.trans hF6; clear hA5 hB5 hF6 HG5 hR5; have g4 := hB6.g4; have g5 := hB6.g5; have g6 := hB6.g6; have g7 := hB6.g7; have f6 := hB6.f)
      | (go_at_call 181; (with_reducible refine (H5.out _ ((((hR6.setO _ 4 (.int .i64 (r : Int)) n1).setO _ 5 (.int .i64 (c : Int)) n1).setO _ 6 (.bool x) n1).setO _ 7 (.bool y) n1)).mono ?_); rintro e w7 ⟨rfl, hR7, hF7⟩; have hA7 := ((((hA6.setO _ 4 (.int .i64 (r : Int)) n4).setO _ 5 (.int .i64 (c : Int)) n4).setO _ 6 (.bool x) n4).setO _ 7 (.bool y) n4).fr hF7 n2; have hB7 := ((((hB6.s4 (r : Int)).s5 (c : Int)).s6 x).s7 y).fr hF7 n3; have HG7 : Hid _ := ((((HG6.out.setCell ⟨w.heap.size + 1, 4, none⟩ (Or.inr HS.out) (.int .i64 (r : Int))).setCell ⟨w.heap.size + 1, 5, none⟩ (Or.inr HS.out) (.int .i64 (c : Int))).setCell ⟨w.heap.size + 1, 6, none⟩ (Or.inr HS.out) (.bool x)).setCell ⟨w.heap.size + 1, 7, none⟩ (Or.inr HS.out) (.bool y)).trans hF7; clear hA6 hB6 hF7 HG6 hR6 g4 g5 g6 g7 f6))
    have k0 := hR7.c0
    have k1 := hR7.c1
    have hzz : ((s.size : Int) == (s.size : Int)) = true := by simp
    go_quiet ((go_at_call 183; exact Calls.quiet_of_same (HH _ _ _)))
    obtain ⟨W8, hW8⟩ : ∃ W8, w7.drewN nq = W8 := ⟨_, rfl⟩
    have hF8 : Fr noB w7 W8 := by rw [← hW8]; exact (Fr.refl noB _).drewN _
    rw [hW8]
    clear hW8 k0 k1
    have hA8 := hA7.fr hF8 id
    have hB8 := hB7.fr hF8 id
    have HG8 : Hid _ := HG7.out.trans hF8.weak
    clear hR7 hA7 hB7 HG7 hF8
    have g0 := hB8.g0; have g1 := hB8.g1; have g2 := hB8.g2; have g3 := hB8.g3; have g4 := hB8.g4; have g5 := hB8.g5; have g6 := hB8.g6; have g7 := hB8.g7; have g8 := hB8.g8; have g9 := hB8.g9; have g10 := hB8.g10; have g11 := hB8.g11
    have k0 := hA8.g0; have k1 := hA8.g1; have k2 := hA8.g2; have k3 := hA8.g3; have k4 := hA8.g4; have k5 := hA8.g5; have k6 := hA8.g6; have k7 := hA8.g7; have k8 := hA8.g8; have k9 := hA8.g9; have k10 := hA8.g10; have k11 := hA8.g11
    have f8 := hA8.f
    go_wp2_with fail
    exact bodyPost_ret (rret Tryz.results145 _ _ w.heap.size rfl (hA8.all _ _ _ _ _ _ _ _ _ _ _ _)) rfl ⟨rfl, HG8.out.all (Or.inr (Nat.le_refl _)) _ _ _ _ _ _ _ _ _ _ _ _⟩
set_option maxRecDepth 100000 in
set_option maxHeartbeats 8000000 in
theorem ref_area (rb : Nat) (s t : ByteArray) (q r c z : Nat) (x y fx : Bool) (u : ByteArray) (q2 r2 c2 z2 : Nat) (x2 y2 : Bool) (w : World) (h : RdAt w rb s 0) (hz : s.size ≤ 140737488355328) (hfx : isAt s 36 0 = fx) (hs : shA s (past s 36 0) = .ok (t, q)) (hbad : ¬ (fx = true ∧ t.size = 0)) (hi : isAt s 46 q = true) (hk : crA s (q + 1) = .ok ((r, c, x, y), z)) (h58 : isAt s 58 z = true) (hto : toA s t (z + 1) = .ok (u, q2)) (hi2 : isAt s 46 q2 = true) (hk2 : crA s (q2 + 1) = .ok ((r2, c2, x2, y2), z2)) (hend : z2 = s.size) :
    Calls Tryz.prog 145 #[.pointer (some ⟨rb, 0, none⟩)] w fun e w' => e = .returned (.agg #[.string t, .string u, .bool fx, .bool true, .int .i64 (r : Int), .int .i64 (c : Int), .bool x, .bool y, .int .i64 (r2 : Int), .int .i64 (c2 : Int), .bool x2, .bool y2]) ∧ Fr (oneB rb) w w' := by
  have hp0 := past_le s 36 0 (Nat.zero_le _)
  have hs1 := shA_le hp0.2 hs
  have hq1 := isAt_size hi
  have hk1 := crA_le (by omega) hk
  have hlt := h.lt
  obtain ⟨W0, hW0⟩ : ∃ W0, (w.alloc (.cells #[.string ⟨#[]⟩, .string ⟨#[]⟩, .bool false, .bool false, .int .i64 0, .int .i64 0, .bool false, .bool false, .int .i64 0, .int .i64 0, .bool false, .bool false] 26 (0, 0))).alloc (.cells #[.string ⟨#[]⟩, .string ⟨#[]⟩, .bool false, .bool false, .int .i64 0, .int .i64 0, .bool false, .bool false, .int .i64 0, .int .i64 0, .bool false, .bool false] 26 (0, 0)) = W0 := ⟨_, rfl⟩
  have hF0 : Fr noB w W0 := by rw [← hW0]; exact ((Fr.refl noB w).alloc _).alloc _
  have hR0 : RdAt W0 rb s 0 := h.fr hF0 id
  have hAB := two_refs w
  rw [hW0] at hAB
  obtain ⟨hA0, hB0⟩ := hAB
  have n1 : rb ≠ w.heap.size + 1 := by omega
  have n0 : rb ≠ w.heap.size := by omega
  have n2 : ¬ oneB rb w.heap.size := fun e => by unfold oneB at e; omega
  have n3 : ¬ oneB rb (w.heap.size + 1) := fun e => by unfold oneB at e; omega
  have n4 : w.heap.size ≠ w.heap.size + 1 := by omega
  have H1 := skip36 rb s 0 W0 hR0 (Nat.zero_le _) hz
  rw [hfx] at H1
  have H2 : Hid (∀ W, RdAt W rb s (past s 36 0) → _) := fun W hW => sheet_ok rb s t _ q W hW hp0.2 hz hs
  have H3 : Hid (∀ W, RdAt W rb s q → _) := fun W hW => need46 rb s q W hW (by omega) hz hi
  have H4 : Hid (∀ W, RdAt W rb s (q + 1) → _) := fun W hW => corner_ok rb s (q + 1) r c z x y W hW (by omega) hz hk
  have hz58 := isAt_size h58
  have hto1 := shA_le (by omega) (toA_ok hto).1
  have hq2 := isAt_size hi2
  have H5 : Hid (∀ W, RdAt W rb s z → Calls Tryz.prog 181 #[.pointer (some ⟨rb, 0, none⟩), .string ⟨#[58]⟩] W fun e w' => e = .returned (.bool true) ∧ RdAt w' rb s (z + 1) ∧ Fr (oneB rb) W w') := fun W hW => by
    have e := skip58 rb s z W hW (by omega) hz
    rwa [h58, show past s 58 z = z + 1 by unfold past; rw [if_pos h58]] at e
  have H6 : Hid (∀ W, RdAt W rb s (z + 1) → _) := fun W hW => to_ok rb s t u (z + 1) q2 W hW (by omega) hz hto
  have H7 : Hid (∀ W, RdAt W rb s q2 → _) := fun W hW => need46 rb s q2 W hW (by omega) hz hi2
  have H8 : Hid (∀ W, RdAt W rb s (q2 + 1) → _) := fun W hW => corner_ok rb s (q2 + 1) r2 c2 z2 x2 y2 W hW (by omega) hz hk2
  have HF0 : Hid (Fr (oneB rb) w W0) := hF0.weak
  have HS : Hid (w.heap.size ≤ w.heap.size + 1) := Nat.le_succ _
  have HH := hold_ok
  have hcd : (t.toList.isEmpty = false ∧ 0 < t.size) ∨ (t.toList.isEmpty = true ∧ t.size = 0 ∧ fx = false) := by
    by_cases ht : t.size = 0
    · right
      refine ⟨emp_yes t ht, ht, ?_⟩
      cases fx with
      | false => rfl
      | true => exact absurd ⟨rfl, ht⟩ hbad
    · left
      exact ⟨emp_no t (by omega), by omega⟩
  subst hend
  clear h hs hi hk hF0 hR0 hp0 hs1 hq1 hk1 hbad h58 hfx hto hi2 hk2 hto1 hq2 hz58
  generalize past s 36 0 = p1 at *
  go_enter Tryz.func145, Tryz.ntmps145
  go_wp2_with (first
    | (go_at_call 181; (with_reducible refine H1.mono ?_); rintro e w1 ⟨rfl, hR1, hF1⟩; have hA1 := hA0.fr hF1 n2; have hB1 := hB0.fr hF1 n3; have g3 := hB1.g2; have f1 := hB1.f; have HG1 : Hid _ := HF0.out.trans hF1; clear hA0 hB0 hF1 H1)
    | (go_at_call 182; (with_reducible refine (H2.out _ (hR1.setO _ _ _ n1)).mono ?_); rintro e w2 ⟨rfl, hR2, hF2⟩; have hA2 := (hA1.setO _ 2 (.bool fx) n4).fr hF2 n2; have hB2 := (hB1.s2 fx).fr hF2 n3; have HG2 : Hid _ := HG1.out.one HS.out _ _ hF2; clear hA1 hB1 g3 f1 hF2 HG1 hR1 H2; have g1 := hB2.g0; have f2 := hB2.f))
  obtain ⟨W2, hW2⟩ : ∃ W2, w2.setCell ⟨w.heap.size + 1, 0, none⟩ (.string t) = W2 := ⟨_, rfl⟩
  have hR3 : RdAt W2 rb s q := by rw [← hW2]; exact hR2.setO _ _ _ n1
  have hA3 := hA2.setO (w.heap.size + 1) 0 (.string t) n4
  have hB3 := hB2.s0 t
  have hG3 := HG2.out.setCell ⟨w.heap.size + 1, 0, none⟩ (Or.inr HS.out) (.string t)
  rw [hW2] at hA3 hB3 hG3
  rw [hW2]
  clear hW2 hA2 hB2 HG2 hR2 g1 f2
  have k0 := hB3.g0
  have k2 := hB3.g2
  have k1 := hR3.c1
  rcases hcd with ⟨he, hts⟩ | ⟨he, hts, rfl⟩
  all_goals
    go_quiet ((go_at_call 183; exact Calls.quiet_of_same (HH _ _ _)))
    obtain ⟨W3, hW3⟩ : ∃ W3, W2.drewN nq = W3 := ⟨_, rfl⟩
    have hF3 : Fr noB W2 W3 := by rw [← hW3]; exact (Fr.refl noB _).drewN _
    rw [hW3]
    clear hW3 k0 k2 k1
    have hR4 := hR3.fr hF3 id
    have hA4 := hA3.fr hF3 id
    have hB4 := hB3.fr hF3 id
    have HG4 : Hid _ := hG3.trans hF3.weak
    clear hR3 hA3 hB3 hG3 hF3
    go_wp2_with (first
      | (go_at_call 184; (with_reducible refine (H3.out _ hR4).mono ?_); rintro e w5 ⟨rfl, hR5, hF5⟩; have hA5 := hA4.fr hF5 n2; have hB5 := hB4.fr hF5 n3; have HG5 : Hid _ := HG4.out.trans hF5; clear hA4 hB4 hF5 HG4 hR4)
      | (go_at_call 185; (with_reducible refine (H4.out _ hR5).mono ?_); rintro e w6 ⟨rfl, hR6, hF6⟩; have hA6 := hA5.fr hF6 n2; have hB6 := hB5.fr hF6 n3; have HG6 : Hid _ := HG5.out.trans hF6; clear hA5 hB5 hF6 HG5 hR5; have g4 := hB6.g4; have g5 := hB6.g5; have g6 := hB6.g6; have g7 := hB6.g7; have f6 := hB6.f)
      | (go_at_call 181; (with_reducible refine (H5.out _ ((((hR6.setO _ 4 (.int .i64 (r : Int)) n1).setO _ 5 (.int .i64 (c : Int)) n1).setO _ 6 (.bool x) n1).setO _ 7 (.bool y) n1)).mono ?_); rintro e w7 ⟨rfl, hR7, hF7⟩; have hA7 := ((((hA6.setO _ 4 (.int .i64 (r : Int)) n4).setO _ 5 (.int .i64 (c : Int)) n4).setO _ 6 (.bool x) n4).setO _ 7 (.bool y) n4).fr hF7 n2; have hB7 := ((((hB6.s4 (r : Int)).s5 (c : Int)).s6 x).s7 y).fr hF7 n3; have HG7 : Hid _ := ((((HG6.out.setCell ⟨w.heap.size + 1, 4, none⟩ (Or.inr HS.out) (.int .i64 (r : Int))).setCell ⟨w.heap.size + 1, 5, none⟩ (Or.inr HS.out) (.int .i64 (c : Int))).setCell ⟨w.heap.size + 1, 6, none⟩ (Or.inr HS.out) (.bool x)).setCell ⟨w.heap.size + 1, 7, none⟩ (Or.inr HS.out) (.bool y)).trans hF7; clear hA6 hB6 hF7 HG6 hR6 g4 g5 g6 g7 f6; have g0 := hB7.g0; have g3 := hB7.g3; have f7 := hB7.f)
      | (go_at_call 186; (with_reducible refine (H6.out _ (hR7.setO _ 3 (.bool true) n1)).mono ?_); rintro e w8 ⟨rfl, hR8, hF8⟩; have hA8 := (hA7.setO _ 3 (.bool true) n4).fr hF8 n2; have hB8 := (hB7.s3 true).fr hF8 n3; have HG8 : Hid _ := HG7.out.one HS.out _ _ hF8; clear hA7 hB7 hF8 HG7 hR7 g0 g3 f7; have g1 := hB8.g1; have f8 := hB8.f)
      | (go_at_call 184; (with_reducible refine (H7.out _ (hR8.setO _ 1 (.string u) n1)).mono ?_); rintro e w9 ⟨rfl, hR9, hF9⟩; have hA9 := (hA8.setO _ 1 (.string u) n4).fr hF9 n2; have hB9 := (hB8.s1 u).fr hF9 n3; have HG9 : Hid _ := HG8.out.one HS.out _ _ hF9; clear hA8 hB8 hF9 HG8 hR8 g1 f8)
      | (go_at_call 185; (with_reducible refine (H8.out _ hR9).mono ?_); rintro e wa ⟨rfl, hRa, hFa⟩; have hAa := hA9.fr hFa n2; have hBa := hB9.fr hFa n3; have HGa : Hid _ := HG9.out.trans hFa; clear hA9 hB9 hFa HG9 hR9; have g8 := hBa.g8; have g9 := hBa.g9; have g10 := hBa.g10; have g11 := hBa.g11; have fa := hBa.f))
    obtain ⟨Wb, hWb⟩ : ∃ Wb, (((wa.setCell ⟨w.heap.size + 1, 8, none⟩ (.int .i64 (r2 : Int))).setCell ⟨w.heap.size + 1, 9, none⟩ (.int .i64 (c2 : Int))).setCell ⟨w.heap.size + 1, 10, none⟩ (.bool x2)).setCell ⟨w.heap.size + 1, 11, none⟩ (.bool y2) = Wb := ⟨_, rfl⟩
    have hRb := (((hRa.setO _ 8 (.int .i64 (r2 : Int)) n1).setO _ 9 (.int .i64 (c2 : Int)) n1).setO _ 10 (.bool x2) n1).setO _ 11 (.bool y2) n1
    have hAb := (((hAa.setO _ 8 (.int .i64 (r2 : Int)) n4).setO _ 9 (.int .i64 (c2 : Int)) n4).setO _ 10 (.bool x2) n4).setO _ 11 (.bool y2) n4
    have hBb := (((hBa.s8 (r2 : Int)).s9 (c2 : Int)).s10 x2).s11 y2
    have hGb := ((((HGa.out.setCell ⟨w.heap.size + 1, 8, none⟩ (Or.inr HS.out) (.int .i64 (r2 : Int))).setCell ⟨w.heap.size + 1, 9, none⟩ (Or.inr HS.out) (.int .i64 (c2 : Int))).setCell ⟨w.heap.size + 1, 10, none⟩ (Or.inr HS.out) (.bool x2)).setCell ⟨w.heap.size + 1, 11, none⟩ (Or.inr HS.out) (.bool y2))
    rw [hWb] at hRb hAb hBb hGb
    rw [hWb]
    have HGb : Hid _ := hGb
    clear hWb hRa hAa hBa HGa hGb g8 g9 g10 g11 fa
    have k0 := hRb.c0
    have k1 := hRb.c1
    have hzz : ((s.size : Int) == (s.size : Int)) = true := by simp
    go_quiet ((go_at_call 183; exact Calls.quiet_of_same (HH _ _ _)))
    obtain ⟨W8, hW8⟩ : ∃ W8, Wb.drewN nq = W8 := ⟨_, rfl⟩
    have hF8 : Fr noB Wb W8 := by rw [← hW8]; exact (Fr.refl noB _).drewN _
    rw [hW8]
    clear hW8 k0 k1
    have hA8 := hAb.fr hF8 id
    have hB8 := hBb.fr hF8 id
    have HG8 : Hid _ := HGb.out.trans hF8.weak
    clear hRb hAb hBb HGb hF8
    have g0 := hB8.g0; have g1 := hB8.g1; have g2 := hB8.g2; have g3 := hB8.g3; have g4 := hB8.g4; have g5 := hB8.g5; have g6 := hB8.g6; have g7 := hB8.g7; have g8 := hB8.g8; have g9 := hB8.g9; have g10 := hB8.g10; have g11 := hB8.g11
    have k0 := hA8.g0; have k1 := hA8.g1; have k2 := hA8.g2; have k3 := hA8.g3; have k4 := hA8.g4; have k5 := hA8.g5; have k6 := hA8.g6; have k7 := hA8.g7; have k8 := hA8.g8; have k9 := hA8.g9; have k10 := hA8.g10; have k11 := hA8.g11
    have f8 := hA8.f
    go_wp2_with fail
    exact bodyPost_ret (rret Tryz.results145 _ _ w.heap.size rfl (hA8.all _ _ _ _ _ _ _ _ _ _ _ _)) rfl ⟨rfl, HG8.out.all (Or.inr (Nat.le_refl _)) _ _ _ _ _ _ _ _ _ _ _ _⟩
#print axioms ref_cell
#print axioms ref_area
end Go.Proofs.YtkohohjpnlhioaaGreatDoor
