/- Text: the document's contract. -/
import Derived.Test.YtdmjbhbiehjelaaGreatDoorK43
import Derived.Test.YtdmjbhbiehjelaaGreatDoorK44
namespace Go.Proofs.YtdmjbhbiehjelaaGreatDoor
open Go.RowKit Go.Shelf

set_option maxRecDepth 100000 in
set_option maxHeartbeats 1000000 in
theorem rwritten_any (r c : Nat) (x y : Bool) (w : World) (hr : r < 1048576) (hc : c < 1024) (hU : UTab_r w) :
    Calls Tryz.prog 62 #[(.agg #[.int .i64 (r : Int), .int .i64 (c : Int), .bool x, .bool y])] w fun e w' => e = .returned (.string (baL_r (corL r c x y))) ∧ Fr noB w w' := by
  have HC := rcolumn_any (c : Int)
  rw [if_pos (by omega), show ((c : Int)).toNat = c by simp] at HC
  have HI : Hid (∀ W, Fr noB w W → _) := fun W hW => itoa_any (r + 1) (by omega) W (hU.fr hW)
  have HE : Hid (baL_r (corL r c x y) = ((dolB y ++ baL_r (ltrL c)) ++ dolB x) ++ baL_r (Lib.decDigits (r + 1))) := by
    show baL_r (corL r c x y) = _
    rw [dolB_is, dolB_is]
    apply ByteArray.ext
    simp [baL_r, corL, ByteArray.data_append]
  have z4 : (baL_r (ltrL c)).size ≤ 1024 := by rw [baL_size_r]; have := ltrGo_len 1025 (c + 1); unfold ltrL; omega
  have z5 : (baL_r (Lib.decDigits (r + 1))).size ≤ 1048580 := by rw [baL_size_r]; have := dec_len (r + 1); omega
  have hr1 : ((r + 1 : Nat) : Int) = (r : Int) + 1 := by omega
  rw [hr1] at HI
  obtain ⟨W0, hW0⟩ : ∃ W0, w.alloc (.cells #[.int .i64 (r : Int), .int .i64 (c : Int), .bool x, .bool y] 24 (0, 0)) = W0 := ⟨_, rfl⟩
  have hK0 : KAt W0 w.heap.size r c x y := ⟨by rw [← hW0]; exact heap_alloc_new w _⟩
  have hF0 : Fr noB w W0 := by rw [← hW0]; exact (Fr.refl noB w).alloc _
  have HG : Hid (∀ W, Fr noB W0 W → KAt W w.heap.size r c x y ∧ Fr noB w W) := fun W hW => ⟨hK0.fr hW id, hF0.trans hW⟩
  have g1 := hK0.c1
  generalize baL_r (ltrL c) = L at *
  generalize baL_r (Lib.decDigits (r + 1)) = D at *
  have h36 : (⟨#[36]⟩ : ByteArray).size = 1 := rfl
  have hrb : (r : Int) + 1 ≤ 1048576 := by omega
  have hcat0 : ∀ A : ByteArray, (⟨#[]⟩ : ByteArray) ++ A = A := fun A => by apply ByteArray.ext; simp [ByteArray.data_append]
  have hcat1 : ∀ A : ByteArray, A ++ (⟨#[]⟩ : ByteArray) = A := fun A => by apply ByteArray.ext; simp [ByteArray.data_append]
  have HC0 : Hid _ := And.intro hcat0 hcat1
  clear hK0 hF0 hU hr1 hcat0 hcat1
  cases y <;> cases x
  all_goals
    go_enter Tryz.func62, Tryz.ntmps62
    go_wp2_with (first
      | (go_at_call 94; refine (HC _).mono ?_; rintro e w1 ⟨rfl, hF1⟩; have hK1 := (HG.out _ hF1).1; have k0 := hK1.c0; have k2 := hK1.c2; have k3 := hK1.c3)
      | (go_at_call 57; refine (HI.out _ (HG.out _ hF1).2).mono ?_; rintro e w2 ⟨rfl, hF2⟩))
    go_ret
    rw [HE.out]
    refine ⟨?_, (HG.out _ hF1).2.trans hF2⟩
    show Ending.returned (Value.string _) = Ending.returned (Value.string _)
    congr 2
    try simp only [dolB, if_true, Bool.false_eq_true, if_false, HC0.out.1, HC0.out.2]
#print axioms rwritten_any
set_option maxRecDepth 100000 in
set_option maxHeartbeats 1000000 in
theorem rtext_no (t u : ByteArray) (fx ar : Bool) (r1 c1 : Int) (x1 y1 : Bool) (r2 c2 : Int) (x2 y2 : Bool) (w : World) (ht : t.size ≤ 140737488355328) (hu : u.size ≤ 140737488355328) (hT : Tabs w) (hne : ¬ chkF t u fx ar r1 c1 r2 c2 x2 y2 = 0) :
    Calls Tryz.prog 33 #[(.agg #[.string t, .string u, .bool fx, .bool ar, .int .i64 r1, .int .i64 c1, .bool x1, .bool y1, .int .i64 r2, .int .i64 c2, .bool x2, .bool y2])] w fun e w' => e = .returned (.tuple #[.string ⟨#[]⟩, .int .i64 (chkF t u fx ar r1 c1 r2 c2 x2 y2)]) ∧ Fr noB w w' := by
  have H1 := fun w h => rcheck_any t u fx ar r1 c1 x1 y1 r2 c2 x2 y2 w ht hu h
  generalize chkF t u fx ar r1 c1 r2 c2 x2 y2 = E at *
  have hF0 : Fr noB w (w.alloc (.cells #[.string t, .string u, .bool fx, .bool ar, .int .i64 r1, .int .i64 c1, .bool x1, .bool y1, .int .i64 r2, .int .i64 c2, .bool x2, .bool y2] 26 (0, 0))) := (Fr.refl noB w).alloc _
  have H2 := H1 _ (hT.keep hF0)
  have HF : Hid _ := hF0
  clear hF0 hT H1
  go_enter Tryz.func33, Tryz.ntmps33
  go_wp2_with (go_at_call 60; refine H2.mono ?_; rintro e w1 ⟨rfl, hF1⟩)
  go_ret2
  exact ⟨rfl, HF.out.trans hF1⟩
theorem ret_two {a b : ByteArray} {k : Int} (h : a = b) : Ending.returned (.tuple #[.string a, .int .i64 k]) = .returned (.tuple #[.string b, .int .i64 k]) := by rw [h]
theorem emp_quo (t : ByteArray) (h : t.toList.isEmpty = true) : quoF t = ⟨#[]⟩ := by
  refine quoF_no t (shtF_no1 t ?_)
  rw [ByteArray.toList_eq] at h
  have : t.data.toList = [] := by simpa using h
  have h2 : t.data.toList.length = 0 := by rw [this]; rfl
  have h3 : t.size = 0 := by simpa using h2
  omega
theorem cel_split (t : ByteArray) (r c : Nat) (x y : Bool) : baL_r (celL t r c x y) = quoF t ++ (⟨#[46]⟩ ++ baL_r (corL r c x y)) := by
  apply ByteArray.ext
  simp [baL_r, celL, ByteArray.data_append]
theorem cor_len (r c : Nat) (x y : Bool) (hr : r < 1048576) (hc : c < 1024) : (baL_r (corL r c x y)).size ≤ 1060000 := by
  rw [baL_size_r]
  have h := cel_len ⟨#[]⟩ r c x y hr hc
  unfold celL at h
  simp only [List.length_append, List.length_cons] at h
  omega
set_option maxRecDepth 100000 in
set_option maxHeartbeats 4000000 in
theorem rtext_ok (t u : ByteArray) (fx ar : Bool) (r1 c1 : Nat) (x1 y1 : Bool) (r2 c2 : Nat) (x2 y2 : Bool) (w : World) (hts : t.size ≤ 140737488355328) (hus : u.size ≤ 140737488355328) (hok : chkF t u fx ar r1 c1 r2 c2 x2 y2 = 0) (hr1 : r1 < 1048576) (hc1 : c1 < 1024) (hr2 : r2 < 1048576) (hc2 : c2 < 1024) (hT : Tabs w) (hU : UTab_r w) :
    Calls Tryz.prog 33 #[(.agg #[.string t, .string u, .bool fx, .bool ar, .int .i64 (r1 : Int), .int .i64 (c1 : Int), .bool x1, .bool y1, .int .i64 (r2 : Int), .int .i64 (c2 : Int), .bool x2, .bool y2])] w fun e w' => e = .returned (.tuple #[.string (baL_r (texL t u fx ar r1 c1 x1 y1 r2 c2 x2 y2)), .int .i64 0]) ∧ Fr noB w w' := by
  have H1 := fun w h => rcheck_any t u fx ar r1 c1 x1 y1 r2 c2 x2 y2 w hts hus h
  rw [hok] at H1
  have HQ := fun w h => rquote_any t w hts h
  have HQ2 := fun w h => rquote_any u w hus h
  have HA : Hid (∀ W, Fr noB w W → _) := fun W hW => rwritten_any r1 c1 x1 y1 W hr1 hc1 (hU.fr hW)
  have HB : Hid (∀ W, Fr noB w W → _) := fun W hW => rwritten_any r2 c2 x2 y2 W hr2 hc2 (hU.fr hW)
  have z1 := quo_small t
  have z2 := quo_small u
  have z3 := cor_len r1 c1 x1 y1 hr1 hc1
  have z4 := cor_len r2 c2 x2 y2 hr2 hc2
  have HE : Hid (baL_r (texL t u fx ar r1 c1 x1 y1 r2 c2 x2 y2) = (if ar = true then (dolB fx ++ (quoF t ++ (⟨#[46]⟩ ++ baL_r (corL r1 c1 x1 y1)))) ++ (⟨#[58]⟩ ++ (quoF u ++ (⟨#[46]⟩ ++ baL_r (corL r2 c2 x2 y2)))) else dolB fx ++ (quoF t ++ (⟨#[46]⟩ ++ baL_r (corL r1 c1 x1 y1))))) := by
    show baL_r (texL t u fx ar r1 c1 x1 y1 r2 c2 x2 y2) = _
    rw [← cel_split, ← cel_split, dolB_is]
    cases ar
    · rw [if_neg (by simp)]
      apply ByteArray.ext
      simp [baL_r, texL, ByteArray.data_append]
    · rw [if_pos rfl]
      apply ByteArray.ext
      simp [baL_r, texL, ByteArray.data_append]
  have hq1 := emp_quo t
  have hq2 := emp_quo u
  obtain ⟨W0, hW0⟩ : ∃ W0, w.alloc (.cells #[.string t, .string u, .bool fx, .bool ar, .int .i64 (r1 : Int), .int .i64 (c1 : Int), .bool x1, .bool y1, .int .i64 (r2 : Int), .int .i64 (c2 : Int), .bool x2, .bool y2] 26 (0, 0)) = W0 := ⟨_, rfl⟩
  have hA0 : RAt W0 w.heap.size t u fx ar (r1 : Int) (c1 : Int) x1 y1 (r2 : Int) (c2 : Int) x2 y2 := ⟨by rw [← hW0]; exact heap_alloc_new w _⟩
  have hF0 : Fr noB w W0 := by rw [← hW0]; exact (Fr.refl noB w).alloc _
  have HG : Hid (∀ W, Fr noB W0 W → RAt W w.heap.size t u fx ar (r1 : Int) (c1 : Int) x1 y1 (r2 : Int) (c2 : Int) x2 y2 ∧ Fr noB w W) := fun W hW => ⟨hA0.fr hW id, hF0.trans hW⟩
  have HT : Hid (∀ W, Fr noB w W → Tabs W) := fun W hW => hT.keep hW
  have g0 := hA0.g0; have g1 := hA0.g1; have g2 := hA0.g2; have g3 := hA0.g3; have g4 := hA0.g4; have g5 := hA0.g5; have g6 := hA0.g6; have g7 := hA0.g7; have g8 := hA0.g8; have g9 := hA0.g9; have g10 := hA0.g10; have g11 := hA0.g11
  generalize quoF t = QT at *
  generalize quoF u = QU at *
  generalize quoE t = ET at *
  generalize quoE u = EU at *
  generalize baL_r (corL r1 c1 x1 y1) = CA at *
  generalize baL_r (corL r2 c2 x2 y2) = CB at *
  generalize baL_r (texL t u fx ar r1 c1 x1 y1 r2 c2 x2 y2) = TX at *
  have h58 : (⟨#[58]⟩ : ByteArray).size = 1 := rfl
  have h46 : (⟨#[46]⟩ : ByteArray).size = 1 := rfl
  have h36 : (⟨#[36]⟩ : ByteArray).size = 1 := rfl
  have h00 : (⟨#[]⟩ : ByteArray).size = 0 := rfl
  clear hA0 hF0 hU hT hok hr1 hc1 hr2 hc2
  have key : ∀ (D : ByteArray), D.size ≤ 1 → True := fun _ _ => trivial
  clear key
  cases fx <;> cases e1 : t.toList.isEmpty
  all_goals
    cases ar with
    | false =>
      first
      | (have h := hq1 (by assumption); subst h; clear hq1 hq2)
      | clear hq1 hq2
      go_enter Tryz.func33, Tryz.ntmps33
      go_wp2_with (first
        | (go_at_call 60; refine (H1 _ (HT.out _ (HG.out _ (by repeat first | assumption | exact Fr.refl _ _ | refine Fr.trans ?_ (by assumption))).2)).mono ?_; rintro e w1 ⟨rfl, hF1⟩; have hA1 := (HG.out w1 (by repeat first | assumption | exact Fr.refl _ _ | refine Fr.trans ?_ (by assumption))).1; have q10 := hA1.g0; have q11 := hA1.g1; have q12 := hA1.g2; have q13 := hA1.g3; have q14 := hA1.g4; have q15 := hA1.g5; have q16 := hA1.g6; have q17 := hA1.g7; have q18 := hA1.g8; have q19 := hA1.g9; have q110 := hA1.g10; have q111 := hA1.g11)
        | (go_at_call 61; (with_reducible refine (HQ _ (HT.out _ (HG.out _ (by repeat first | assumption | exact Fr.refl _ _ | refine Fr.trans ?_ (by assumption))).2)).mono ?_); rintro e w2 ⟨rfl, hF2⟩; have hA2 := (HG.out w2 (by repeat first | assumption | exact Fr.refl _ _ | refine Fr.trans ?_ (by assumption))).1; have q20 := hA2.g0; have q21 := hA2.g1; have q22 := hA2.g2; have q23 := hA2.g3; have q24 := hA2.g4; have q25 := hA2.g5; have q26 := hA2.g6; have q27 := hA2.g7; have q28 := hA2.g8; have q29 := hA2.g9; have q210 := hA2.g10; have q211 := hA2.g11)
        | (go_at_call 61; (with_reducible refine (HQ2 _ (HT.out _ (HG.out _ (by repeat first | assumption | exact Fr.refl _ _ | refine Fr.trans ?_ (by assumption))).2)).mono ?_); rintro e w3 ⟨rfl, hF3⟩; have hA3 := (HG.out w3 (by repeat first | assumption | exact Fr.refl _ _ | refine Fr.trans ?_ (by assumption))).1; have q30 := hA3.g0; have q31 := hA3.g1; have q32 := hA3.g2; have q33 := hA3.g3; have q34 := hA3.g4; have q35 := hA3.g5; have q36 := hA3.g6; have q37 := hA3.g7; have q38 := hA3.g8; have q39 := hA3.g9; have q310 := hA3.g10; have q311 := hA3.g11)
        | (go_at_call 62; (with_reducible refine (HA.out _ (HG.out _ (by repeat first | assumption | exact Fr.refl _ _ | refine Fr.trans ?_ (by assumption))).2).mono ?_); rintro e w4 ⟨rfl, hF4⟩; have hA4 := (HG.out w4 (by repeat first | assumption | exact Fr.refl _ _ | refine Fr.trans ?_ (by assumption))).1; have q40 := hA4.g0; have q41 := hA4.g1; have q42 := hA4.g2; have q43 := hA4.g3; have q44 := hA4.g4; have q45 := hA4.g5; have q46 := hA4.g6; have q47 := hA4.g7; have q48 := hA4.g8; have q49 := hA4.g9; have q410 := hA4.g10; have q411 := hA4.g11)
        | (go_at_call 62; (with_reducible refine (HB.out _ (HG.out _ (by repeat first | assumption | exact Fr.refl _ _ | refine Fr.trans ?_ (by assumption))).2).mono ?_); rintro e w5 ⟨rfl, hF5⟩; have hA5 := (HG.out w5 (by repeat first | assumption | exact Fr.refl _ _ | refine Fr.trans ?_ (by assumption))).1; have q50 := hA5.g0; have q51 := hA5.g1; have q52 := hA5.g2; have q53 := hA5.g3; have q54 := hA5.g4; have q55 := hA5.g5; have q56 := hA5.g6; have q57 := hA5.g7; have q58 := hA5.g8; have q59 := hA5.g9; have q510 := hA5.g10; have q511 := hA5.g11))
      go_ret2
      rw [HE.out]
      refine ⟨ret_two ?_, (HG.out _ (by repeat first | assumption | exact Fr.refl _ _ | refine Fr.trans ?_ (by assumption))).2⟩
      apply ByteArray.ext
      apply Array.toList_inj.1
      simp [dolB, ByteArray.data_append]
    | true =>
      cases e2 : u.toList.isEmpty
      all_goals
        first
        | (have h := hq1 (by assumption); subst h; clear hq1)
        | clear hq1
        first
        | (have h := hq2 (by assumption); subst h; clear hq2)
        | clear hq2
        go_enter Tryz.func33, Tryz.ntmps33
        go_wp2_with (first
        | (go_at_call 60; refine (H1 _ (HT.out _ (HG.out _ (by repeat first | assumption | exact Fr.refl _ _ | refine Fr.trans ?_ (by assumption))).2)).mono ?_; rintro e w1 ⟨rfl, hF1⟩; have hA1 := (HG.out w1 (by repeat first | assumption | exact Fr.refl _ _ | refine Fr.trans ?_ (by assumption))).1; have q10 := hA1.g0; have q11 := hA1.g1; have q12 := hA1.g2; have q13 := hA1.g3; have q14 := hA1.g4; have q15 := hA1.g5; have q16 := hA1.g6; have q17 := hA1.g7; have q18 := hA1.g8; have q19 := hA1.g9; have q110 := hA1.g10; have q111 := hA1.g11)
        | (go_at_call 61; (with_reducible refine (HQ _ (HT.out _ (HG.out _ (by repeat first | assumption | exact Fr.refl _ _ | refine Fr.trans ?_ (by assumption))).2)).mono ?_); rintro e w2 ⟨rfl, hF2⟩; have hA2 := (HG.out w2 (by repeat first | assumption | exact Fr.refl _ _ | refine Fr.trans ?_ (by assumption))).1; have q20 := hA2.g0; have q21 := hA2.g1; have q22 := hA2.g2; have q23 := hA2.g3; have q24 := hA2.g4; have q25 := hA2.g5; have q26 := hA2.g6; have q27 := hA2.g7; have q28 := hA2.g8; have q29 := hA2.g9; have q210 := hA2.g10; have q211 := hA2.g11)
        | (go_at_call 61; (with_reducible refine (HQ2 _ (HT.out _ (HG.out _ (by repeat first | assumption | exact Fr.refl _ _ | refine Fr.trans ?_ (by assumption))).2)).mono ?_); rintro e w3 ⟨rfl, hF3⟩; have hA3 := (HG.out w3 (by repeat first | assumption | exact Fr.refl _ _ | refine Fr.trans ?_ (by assumption))).1; have q30 := hA3.g0; have q31 := hA3.g1; have q32 := hA3.g2; have q33 := hA3.g3; have q34 := hA3.g4; have q35 := hA3.g5; have q36 := hA3.g6; have q37 := hA3.g7; have q38 := hA3.g8; have q39 := hA3.g9; have q310 := hA3.g10; have q311 := hA3.g11)
        | (go_at_call 62; (with_reducible refine (HA.out _ (HG.out _ (by repeat first | assumption | exact Fr.refl _ _ | refine Fr.trans ?_ (by assumption))).2).mono ?_); rintro e w4 ⟨rfl, hF4⟩; have hA4 := (HG.out w4 (by repeat first | assumption | exact Fr.refl _ _ | refine Fr.trans ?_ (by assumption))).1; have q40 := hA4.g0; have q41 := hA4.g1; have q42 := hA4.g2; have q43 := hA4.g3; have q44 := hA4.g4; have q45 := hA4.g5; have q46 := hA4.g6; have q47 := hA4.g7; have q48 := hA4.g8; have q49 := hA4.g9; have q410 := hA4.g10; have q411 := hA4.g11)
        | (go_at_call 62; (with_reducible refine (HB.out _ (HG.out _ (by repeat first | assumption | exact Fr.refl _ _ | refine Fr.trans ?_ (by assumption))).2).mono ?_); rintro e w5 ⟨rfl, hF5⟩; have hA5 := (HG.out w5 (by repeat first | assumption | exact Fr.refl _ _ | refine Fr.trans ?_ (by assumption))).1; have q50 := hA5.g0; have q51 := hA5.g1; have q52 := hA5.g2; have q53 := hA5.g3; have q54 := hA5.g4; have q55 := hA5.g5; have q56 := hA5.g6; have q57 := hA5.g7; have q58 := hA5.g8; have q59 := hA5.g9; have q510 := hA5.g10; have q511 := hA5.g11))
        go_ret2
        rw [HE.out]
        refine ⟨ret_two ?_, (HG.out _ (by repeat first | assumption | exact Fr.refl _ _ | refine Fr.trans ?_ (by assumption))).2⟩
        apply ByteArray.ext
        apply Array.toList_inj.1
        simp [dolB, ByteArray.data_append]
#print axioms rtext_ok
end Go.Proofs.YtdmjbhbiehjelaaGreatDoor
/- Text of any reference, both sides, under names of their own. -/
namespace Go.Proofs.YtdmjbhbiehjelaaGreatDoor
open Go.RowKit Go.Shelf

theorem chk_ok {t u : ByteArray} {fx ar : Bool} {r1 c1 r2 c2 : Int} {x2 y2 : Bool} (h : chkF t u fx ar r1 c1 r2 c2 x2 y2 = 0) : ∃ a b c d : Nat, r1 = a ∧ c1 = b ∧ r2 = c ∧ c2 = d ∧ a < 1048576 ∧ b < 1024 ∧ c < 1048576 ∧ d < 1024 ∧ shsB t u fx = true ∧ (ar = false → r2 = 0 ∧ c2 = 0 ∧ x2 = false ∧ y2 = false ∧ empB u = true) := by
  have hs : shsB t u fx = true := by
    cases hb : shsB t u fx with
    | true => rfl
    | false => unfold chkF at h; rw [if_pos hb] at h; cases h
  unfold chkF at h
  rw [if_neg (by rw [hs]; simp)] at h
  have hb : (!(corsB ar r1 c1 r2 c2 x2 y2) || (!(empB u) && !ar)) = false := by
    cases hb : (!(corsB ar r1 c1 r2 c2 x2 y2) || (!(empB u) && !ar)) with
    | false => rfl
    | true => rw [if_pos hb] at h; cases h
  have hc : corsB ar r1 c1 r2 c2 x2 y2 = true := by
    cases hc : corsB ar r1 c1 r2 c2 x2 y2 with
    | true => rfl
    | false => rw [hc] at hb; simp at hb
  have hu : ar = false → empB u = true := by
    intro ha
    rw [hc, ha] at hb
    simpa using hb
  unfold corsB at hc
  have hz : (!ar && !(zerB r2 c2 x2 y2)) = false := by
    cases hz : (!ar && !(zerB r2 c2 x2 y2)) with
    | false => rfl
    | true => rw [if_pos hz] at hc; cases hc
  rw [if_neg (by rw [hz]; simp)] at hc
  simp only [Bool.and_eq_true] at hc
  obtain ⟨hA, hB⟩ := hc
  unfold corB at hA hB
  simp only [Bool.and_eq_true, decide_eq_true_eq] at hA hB
  refine ⟨r1.toNat, c1.toNat, r2.toNat, c2.toNat, by omega, by omega, by omega, by omega, by omega, by omega, by omega, by omega, hs, ?_⟩
  intro ha
  rcases zer_cases r2 c2 x2 y2 with ⟨_, e1, e2, e3, e4⟩ | ⟨e, _⟩
  · exact ⟨e1, e2, e3, e4, hu ha⟩
  · rw [ha, e] at hz
    simp at hz
/-- What Text answers. -/
def txtB (t u : ByteArray) (fx ar : Bool) (r1 c1 : Int) (x1 y1 : Bool) (r2 c2 : Int) (x2 y2 : Bool) : ByteArray := if chkF t u fx ar r1 c1 r2 c2 x2 y2 = 0 then baL_r (texL t u fx ar r1.toNat c1.toNat x1 y1 r2.toNat c2.toNat x2 y2) else ⟨#[]⟩
theorem reftext_any (t u : ByteArray) (fx ar : Bool) (r1 c1 : Int) (x1 y1 : Bool) (r2 c2 : Int) (x2 y2 : Bool) (w : World) (hU : UTab_r w) : Calls Tryz.prog 44 #[(.agg #[.string t, .string u, .bool fx, .bool ar, .int .i64 r1, .int .i64 c1, .bool x1, .bool y1, .int .i64 r2, .int .i64 c2, .bool x2, .bool y2])] w fun e w' => e = .returned (.tuple #[.string (txtB t u fx ar r1 c1 x1 y1 r2 c2 x2 y2), .int .i64 (chkF t u fx ar r1 c1 r2 c2 x2 y2)]) ∧ Fr noB w w' := by
  unfold txtB
  by_cases h : chkF t u fx ar r1 c1 r2 c2 x2 y2 = 0
  · rw [if_pos h, h]
    obtain ⟨a, b, c, d, rfl, rfl, rfl, rfl, ha, hb, hc, hd, _, _⟩ := chk_ok h
    simp only [Int.toNat_natCast]
    exact text_ok t u fx ar a b x1 y1 c d x2 y2 w h ha hb hc hd hU
  · rw [if_neg h]
    exact text_no t u fx ar r1 c1 x1 y1 r2 c2 x2 y2 w h
theorem rreftext_any (t u : ByteArray) (fx ar : Bool) (r1 c1 : Int) (x1 y1 : Bool) (r2 c2 : Int) (x2 y2 : Bool) (w : World) (ht : t.size ≤ 140737488355328) (hu : u.size ≤ 140737488355328) (hT : Tabs w) (hU : UTab_r w) : Calls Tryz.prog 33 #[(.agg #[.string t, .string u, .bool fx, .bool ar, .int .i64 r1, .int .i64 c1, .bool x1, .bool y1, .int .i64 r2, .int .i64 c2, .bool x2, .bool y2])] w fun e w' => e = .returned (.tuple #[.string (txtB t u fx ar r1 c1 x1 y1 r2 c2 x2 y2), .int .i64 (chkF t u fx ar r1 c1 r2 c2 x2 y2)]) ∧ Fr noB w w' := by
  unfold txtB
  by_cases h : chkF t u fx ar r1 c1 r2 c2 x2 y2 = 0
  · rw [if_pos h, h]
    obtain ⟨a, b, c, d, rfl, rfl, rfl, rfl, ha, hb, hc, hd, _, _⟩ := chk_ok h
    simp only [Int.toNat_natCast]
    exact rtext_ok t u fx ar a b x1 y1 c d x2 y2 w ht hu h ha hb hc hd hT hU
  · rw [if_neg h]
    exact rtext_no t u fx ar r1 c1 x1 y1 r2 c2 x2 y2 w ht hu hT h
theorem txtB_size (t u : ByteArray) (fx ar : Bool) (r1 c1 : Int) (x1 y1 : Bool) (r2 c2 : Int) (x2 y2 : Bool) : (txtB t u fx ar r1 c1 x1 y1 r2 c2 x2 y2).size ≤ 3000000 := by
  unfold txtB
  by_cases h : chkF t u fx ar r1 c1 r2 c2 x2 y2 = 0
  · rw [if_pos h]
    obtain ⟨a, b, c, d, rfl, rfl, rfl, rfl, ha, hb, hc, hd, _, _⟩ := chk_ok h
    simp only [Int.toNat_natCast]
    rw [baL_size_r]
    unfold texL
    have l1 := cel_len t a b x1 y1 ha hb
    have l2 := cel_len u c d x2 y2 hc hd
    have l3 : (dolL fx).length ≤ 1 := by cases fx <;> decide
    cases ar
    · simp only [List.length_append, Bool.false_eq_true, if_false, List.length_nil]; omega
    · simp only [List.length_append, if_true, List.length_cons]; omega
  · rw [if_neg h]
    exact Nat.zero_le _
#print axioms reftext_any
#print axioms rreftext_any
end Go.Proofs.YtdmjbhbiehjelaaGreatDoor
