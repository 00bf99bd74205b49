/- The document's Parse, case by case (cells). -/
import Derived.Test.YtiokbpknaldbaaaDoorRDp0
namespace Go.Proofs.YtiokbpknaldbaaaDoor
open Go.RowKit Go.Shelf

set_option maxRecDepth 100000 in
set_option maxHeartbeats 8000000 in
theorem parseD_4 (s : ByteArray) (w : World) (hT : Tabs w) (hz : s.size ≤ 140737488355328) (t : ByteArray) (q : Nat) (fx : Bool) (hfx : isAt s 36 0 = fx) (hs : shA s (past s 36 0) = .ok (t, q)) (hbad : ¬ (fx = true ∧ t.size = 0)) (r c z : Nat) (x y : Bool) (hpt : ptA s q = .ok ((r, c, x, y), z)) (h58 : isAt s 58 z = false) (hend : z = s.size) :
    Calls Tryd.prog 6 #[.string s] w fun rr w' => rr = .returned (.tuple #[(.agg #[.string t, .string ⟨#[]⟩, .bool fx, .bool false, .int .i64 (r : Int), .int .i64 (c : Int), .bool x, .bool y, .int .i64 0, .int .i64 0, .bool false, .bool false]), .int .i64 0, .int .i64 0]) ∧ Fr noB w w' := by
  obtain ⟨W0, hW0, hQ0⟩ := parseD_laid s w
  have hp0 := past_le s 36 0 (Nat.zero_le _)
  have HT0 := takeL_ok (w.heap.size + 1) s 0 0 36 36 rfl W0 hQ0.d hz (Nat.zero_le _)
  have HSH : Hid (∀ W, DAt W (w.heap.size + 1) s (past s 36 0) 0 0 → (∀ W2, Fr (oneB (w.heap.size + 1)) W W2 → Tabs W2) → _) := fun W hW hB => rsheet_any (w.heap.size + 1) s (past s 36 0) 0 W hW hz hp0.2 hB
  have HOK : Hid _ := hs
  have hs1 := shA_le hp0.2 hs
  rw [hfx] at HT0
  have HCO : Hid (∀ W, DAt W (w.heap.size + 1) s q 0 0 → _) := fun W hW => rcorD_any (w.heap.size + 1) s q 0 W hW hz hs1.2.1
  have HPT : Hid _ := hpt
  have hzs := ptA_le hpt
  have HT5 : Hid (∀ W, DAt W (w.heap.size + 1) s z 0 0 → _) := fun W hW => takeL_ok (w.heap.size + 1) s z 0 58 58 rfl W hW hz hzs
  rw [h58, show past s 58 z = z by unfold past; rw [if_neg (by rw [h58]; simp)]] at HT5
  have hzi : ¬ (z : Int) < (s.size : Int) := by omega
  generalize past s 36 0 = p0 at *
  clear hs hp0 hfx hpt h58 hend
  cases fx with
  | false =>
    clear hbad
    go_enter Tryd.func6, Tryd.ntmps6
    go_wp2_with (first
      | (go_at_call 18; (with_reducible refine (HT0).mono ?_); rintro e w1 ⟨rfl, hD1, hF1⟩; have hQ1 := hQ0.call hF1 hD1; have g2 := hQ1.v.g2; have gf := hQ1.v.f)
      | (go_at_call 19; (with_reducible refine (HSH.out _ (hQ1.v2 false).d ((hQ1.v2 false).tabs hT)).mono ?_); rintro e w2 hh; obtain ⟨rfl, hD2, hF2⟩ := hh.1 t q HOK.out; have hQ2 := (hQ1.v2 false).call hF2 hD2; clear g2 gf; have g0 := hQ2.v.g0; have g1 := hQ2.v.g1; have g2 := hQ2.v.g2; have g3 := hQ2.v.g3; have g4 := hQ2.v.g4; have g5 := hQ2.v.g5; have g6 := hQ2.v.g6; have g7 := hQ2.v.g7; have g8 := hQ2.v.g8; have g9 := hQ2.v.g9; have g10 := hQ2.v.g10; have g11 := hQ2.v.g11; have gf := hQ2.v.f; have d0 := hQ2.d.c0; have d1 := hQ2.d.c1; have d2 := hQ2.d.c2; have d3 := hQ2.d.c3)
      | (go_at_call 21; (with_reducible refine (HCO.out _ (hQ2.v0 t).d).mono ?_); rintro e w4 hh; obtain ⟨rfl, hD4, hF4⟩ := hh.1 (r, c, x, y) z HPT.out; have hQ4 := (hQ2.v0 t).call hF4 hD4; clear g0 g1 g2 g3 g4 g5 g6 g7 g8 g9 g10 g11 gf; clear d0 d1 d2 d3; have g0 := hQ4.v.g0; have g1 := hQ4.v.g1; have g2 := hQ4.v.g2; have g3 := hQ4.v.g3; have g4 := hQ4.v.g4; have g5 := hQ4.v.g5; have g6 := hQ4.v.g6; have g7 := hQ4.v.g7; have g8 := hQ4.v.g8; have g9 := hQ4.v.g9; have g10 := hQ4.v.g10; have g11 := hQ4.v.g11; have gf := hQ4.v.f)
      | (go_at_call 18; (with_reducible refine (HT5.out _ ((((hQ4.v4 (r : Int)).v5 (c : Int)).v6 x).v7 y).d).mono ?_); rintro e w5 ⟨rfl, hD5, hF5⟩; have hQ5 := ((((hQ4.v4 (r : Int)).v5 (c : Int)).v6 x).v7 y).call hF5 hD5; clear g0 g1 g2 g3 g4 g5 g6 g7 g8 g9 g10 g11 gf; have d0 := hQ5.d.c0; have d1 := hQ5.d.c1; have d2 := hQ5.d.c2; have d3 := hQ5.d.c3; have a0 := hQ5.a.g0; have a1 := hQ5.a.g1; have a2 := hQ5.a.g2; have a3 := hQ5.a.g3; have a4 := hQ5.a.g4; have a5 := hQ5.a.g5; have a6 := hQ5.a.g6; have a7 := hQ5.a.g7; have a8 := hQ5.a.g8; have a9 := hQ5.a.g9; have a10 := hQ5.a.g10; have a11 := hQ5.a.g11; have af := hQ5.a.f; have g0 := hQ5.v.g0; have g1 := hQ5.v.g1; have g2 := hQ5.v.g2; have g3 := hQ5.v.g3; have g4 := hQ5.v.g4; have g5 := hQ5.v.g5; have g6 := hQ5.v.g6; have g7 := hQ5.v.g7; have g8 := hQ5.v.g8; have g9 := hQ5.v.g9; have g10 := hQ5.v.g10; have g11 := hQ5.v.g11; have gf := hQ5.v.f))
    exact bodyPost_ret (rret3 Tryd.results6 _ _ w.heap.size rfl rfl rfl (hQ5.a.all _ _ _ _ _ _ _ _ _ _ _ _)) rfl ⟨rfl, hQ5.f.all (Or.inr (Nat.le_refl _)) _ _ _ _ _ _ _ _ _ _ _ _⟩
  | true =>
    have hte : t.toList.isEmpty = false := emp_no t (Nat.pos_of_ne_zero (fun e => hbad ⟨rfl, e⟩))
    clear hbad
    go_enter Tryd.func6, Tryd.ntmps6
    go_wp2_with (first
      | (go_at_call 18; (with_reducible refine (HT0).mono ?_); rintro e w1 ⟨rfl, hD1, hF1⟩; have hQ1 := hQ0.call hF1 hD1; have g2 := hQ1.v.g2; have gf := hQ1.v.f)
      | (go_at_call 19; (with_reducible refine (HSH.out _ (hQ1.v2 true).d ((hQ1.v2 true).tabs hT)).mono ?_); rintro e w2 hh; obtain ⟨rfl, hD2, hF2⟩ := hh.1 t q HOK.out; have hQ2 := (hQ1.v2 true).call hF2 hD2; clear g2 gf; have g0 := hQ2.v.g0; have g1 := hQ2.v.g1; have g2 := hQ2.v.g2; have g3 := hQ2.v.g3; have g4 := hQ2.v.g4; have g5 := hQ2.v.g5; have g6 := hQ2.v.g6; have g7 := hQ2.v.g7; have g8 := hQ2.v.g8; have g9 := hQ2.v.g9; have g10 := hQ2.v.g10; have g11 := hQ2.v.g11; have gf := hQ2.v.f; have d0 := hQ2.d.c0; have d1 := hQ2.d.c1; have d2 := hQ2.d.c2; have d3 := hQ2.d.c3)
      | (go_at_call 21; (with_reducible refine (HCO.out _ (hQ2.v0 t).d).mono ?_); rintro e w4 hh; obtain ⟨rfl, hD4, hF4⟩ := hh.1 (r, c, x, y) z HPT.out; have hQ4 := (hQ2.v0 t).call hF4 hD4; clear g0 g1 g2 g3 g4 g5 g6 g7 g8 g9 g10 g11 gf; clear d0 d1 d2 d3; have g0 := hQ4.v.g0; have g1 := hQ4.v.g1; have g2 := hQ4.v.g2; have g3 := hQ4.v.g3; have g4 := hQ4.v.g4; have g5 := hQ4.v.g5; have g6 := hQ4.v.g6; have g7 := hQ4.v.g7; have g8 := hQ4.v.g8; have g9 := hQ4.v.g9; have g10 := hQ4.v.g10; have g11 := hQ4.v.g11; have gf := hQ4.v.f)
      | (go_at_call 18; (with_reducible refine (HT5.out _ ((((hQ4.v4 (r : Int)).v5 (c : Int)).v6 x).v7 y).d).mono ?_); rintro e w5 ⟨rfl, hD5, hF5⟩; have hQ5 := ((((hQ4.v4 (r : Int)).v5 (c : Int)).v6 x).v7 y).call hF5 hD5; clear g0 g1 g2 g3 g4 g5 g6 g7 g8 g9 g10 g11 gf; have d0 := hQ5.d.c0; have d1 := hQ5.d.c1; have d2 := hQ5.d.c2; have d3 := hQ5.d.c3; have a0 := hQ5.a.g0; have a1 := hQ5.a.g1; have a2 := hQ5.a.g2; have a3 := hQ5.a.g3; have a4 := hQ5.a.g4; have a5 := hQ5.a.g5; have a6 := hQ5.a.g6; have a7 := hQ5.a.g7; have a8 := hQ5.a.g8; have a9 := hQ5.a.g9; have a10 := hQ5.a.g10; have a11 := hQ5.a.g11; have af := hQ5.a.f; have g0 := hQ5.v.g0; have g1 := hQ5.v.g1; have g2 := hQ5.v.g2; have g3 := hQ5.v.g3; have g4 := hQ5.v.g4; have g5 := hQ5.v.g5; have g6 := hQ5.v.g6; have g7 := hQ5.v.g7; have g8 := hQ5.v.g8; have g9 := hQ5.v.g9; have g10 := hQ5.v.g10; have g11 := hQ5.v.g11; have gf := hQ5.v.f))
    exact bodyPost_ret (rret3 Tryd.results6 _ _ w.heap.size rfl rfl rfl (hQ5.a.all _ _ _ _ _ _ _ _ _ _ _ _)) rfl ⟨rfl, hQ5.f.all (Or.inr (Nat.le_refl _)) _ _ _ _ _ _ _ _ _ _ _ _⟩
set_option maxRecDepth 100000 in
set_option maxHeartbeats 8000000 in
theorem parseD_5 (s : ByteArray) (w : World) (hT : Tabs w) (hz : s.size ≤ 140737488355328) (t : ByteArray) (q : Nat) (fx : Bool) (hfx : isAt s 36 0 = fx) (hs : shA s (past s 36 0) = .ok (t, q)) (hbad : ¬ (fx = true ∧ t.size = 0)) (r c z : Nat) (x y : Bool) (hpt : ptA s q = .ok ((r, c, x, y), z)) (h58 : isAt s 58 z = false) (hend : ¬ z = s.size) :
    Calls Tryd.prog 6 #[.string s] w fun r w' => r = .returned (.tuple #[(.agg #[.string ⟨#[]⟩, .string ⟨#[]⟩, .bool false, .bool false, .int .i64 0, .int .i64 0, .bool false, .bool false, .int .i64 0, .int .i64 0, .bool false, .bool false]), .int .i64 (z : Int), .int .i64 110]) ∧ Fr noB w w' := by
  obtain ⟨W0, hW0, hQ0⟩ := parseD_laid s w
  have hp0 := past_le s 36 0 (Nat.zero_le _)
  have HT0 := takeL_ok (w.heap.size + 1) s 0 0 36 36 rfl W0 hQ0.d hz (Nat.zero_le _)
  have HSH : Hid (∀ W, DAt W (w.heap.size + 1) s (past s 36 0) 0 0 → (∀ W2, Fr (oneB (w.heap.size + 1)) W W2 → Tabs W2) → _) := fun W hW hB => rsheet_any (w.heap.size + 1) s (past s 36 0) 0 W hW hz hp0.2 hB
  have HOK : Hid _ := hs
  have hs1 := shA_le hp0.2 hs
  rw [hfx] at HT0
  have HCO : Hid (∀ W, DAt W (w.heap.size + 1) s q 0 0 → _) := fun W hW => rcorD_any (w.heap.size + 1) s q 0 W hW hz hs1.2.1
  have HPT : Hid _ := hpt
  have hzs := ptA_le hpt
  have HT5 : Hid (∀ W, DAt W (w.heap.size + 1) s z 0 0 → _) := fun W hW => takeL_ok (w.heap.size + 1) s z 0 58 58 rfl W hW hz hzs
  rw [h58, show past s 58 z = z by unfold past; rw [if_neg (by rw [h58]; simp)]] at HT5
  have hzi : (z : Int) < (s.size : Int) := by omega
  generalize past s 36 0 = p0 at *
  clear hs hp0 hfx hpt h58 hend
  cases fx with
  | false =>
    clear hbad
    go_enter Tryd.func6, Tryd.ntmps6
    go_wp2_with (first
      | (go_at_call 18; (with_reducible refine (HT0).mono ?_); rintro e w1 ⟨rfl, hD1, hF1⟩; have hQ1 := hQ0.call hF1 hD1; have g2 := hQ1.v.g2; have gf := hQ1.v.f)
      | (go_at_call 19; (with_reducible refine (HSH.out _ (hQ1.v2 false).d ((hQ1.v2 false).tabs hT)).mono ?_); rintro e w2 hh; obtain ⟨rfl, hD2, hF2⟩ := hh.1 t q HOK.out; have hQ2 := (hQ1.v2 false).call hF2 hD2; clear g2 gf; have g0 := hQ2.v.g0; have g1 := hQ2.v.g1; have g2 := hQ2.v.g2; have g3 := hQ2.v.g3; have g4 := hQ2.v.g4; have g5 := hQ2.v.g5; have g6 := hQ2.v.g6; have g7 := hQ2.v.g7; have g8 := hQ2.v.g8; have g9 := hQ2.v.g9; have g10 := hQ2.v.g10; have g11 := hQ2.v.g11; have gf := hQ2.v.f; have d0 := hQ2.d.c0; have d1 := hQ2.d.c1; have d2 := hQ2.d.c2; have d3 := hQ2.d.c3)
      | (go_at_call 21; (with_reducible refine (HCO.out _ (hQ2.v0 t).d).mono ?_); rintro e w4 hh; obtain ⟨rfl, hD4, hF4⟩ := hh.1 (r, c, x, y) z HPT.out; have hQ4 := (hQ2.v0 t).call hF4 hD4; clear g0 g1 g2 g3 g4 g5 g6 g7 g8 g9 g10 g11 gf; clear d0 d1 d2 d3; have g0 := hQ4.v.g0; have g1 := hQ4.v.g1; have g2 := hQ4.v.g2; have g3 := hQ4.v.g3; have g4 := hQ4.v.g4; have g5 := hQ4.v.g5; have g6 := hQ4.v.g6; have g7 := hQ4.v.g7; have g8 := hQ4.v.g8; have g9 := hQ4.v.g9; have g10 := hQ4.v.g10; have g11 := hQ4.v.g11; have gf := hQ4.v.f)
      | (go_at_call 18; (with_reducible refine (HT5.out _ ((((hQ4.v4 (r : Int)).v5 (c : Int)).v6 x).v7 y).d).mono ?_); rintro e w5 ⟨rfl, hD5, hF5⟩; have hQ5 := ((((hQ4.v4 (r : Int)).v5 (c : Int)).v6 x).v7 y).call hF5 hD5; clear g0 g1 g2 g3 g4 g5 g6 g7 g8 g9 g10 g11 gf; have d0 := hQ5.d.c0; have d1 := hQ5.d.c1; have d2 := hQ5.d.c2; have d3 := hQ5.d.c3; have a0 := hQ5.a.g0; have a1 := hQ5.a.g1; have a2 := hQ5.a.g2; have a3 := hQ5.a.g3; have a4 := hQ5.a.g4; have a5 := hQ5.a.g5; have a6 := hQ5.a.g6; have a7 := hQ5.a.g7; have a8 := hQ5.a.g8; have a9 := hQ5.a.g9; have a10 := hQ5.a.g10; have a11 := hQ5.a.g11; have af := hQ5.a.f; have g0 := hQ5.v.g0; have g1 := hQ5.v.g1; have g2 := hQ5.v.g2; have g3 := hQ5.v.g3; have g4 := hQ5.v.g4; have g5 := hQ5.v.g5; have g6 := hQ5.v.g6; have g7 := hQ5.v.g7; have g8 := hQ5.v.g8; have g9 := hQ5.v.g9; have g10 := hQ5.v.g10; have g11 := hQ5.v.g11; have gf := hQ5.v.f)
      | (go_at_call 20; (with_reducible refine (fail_ok (w.heap.size + 1) s z 0 z 110 _ hQ5.d).mono ?_); rintro e w6 ⟨rfl, hD6, hF6⟩; have hQ6 := hQ5.call hF6 hD6; clear d0 d1 d2 d3; clear a0 a1 a2 a3 a4 a5 a6 a7 a8 a9 a10 a11 af; clear g0 g1 g2 g3 g4 g5 g6 g7 g8 g9 g10 g11 gf; have d0 := hQ6.d.c0; have d1 := hQ6.d.c1; have d2 := hQ6.d.c2; have d3 := hQ6.d.c3; have a0 := hQ6.a.g0; have a1 := hQ6.a.g1; have a2 := hQ6.a.g2; have a3 := hQ6.a.g3; have a4 := hQ6.a.g4; have a5 := hQ6.a.g5; have a6 := hQ6.a.g6; have a7 := hQ6.a.g7; have a8 := hQ6.a.g8; have a9 := hQ6.a.g9; have a10 := hQ6.a.g10; have a11 := hQ6.a.g11; have af := hQ6.a.f))
    all_goals
      go_region
      go_wp2_with fail
      first | exact bodyPost_ret (rret3 Tryd.results6 _ _ w.heap.size rfl rfl rfl (((hQ6).a.all ⟨#[]⟩ ⟨#[]⟩ false false 0 0 false false 0 0 false false).fr (Fr.refl noB _).drew id)) rfl ⟨rfl, ((hQ6).f.all (Or.inr (Nat.le_refl _)) ⟨#[]⟩ ⟨#[]⟩ false false 0 0 false false 0 0 false false).drew⟩
  | true =>
    have hte : t.toList.isEmpty = false := emp_no t (Nat.pos_of_ne_zero (fun e => hbad ⟨rfl, e⟩))
    clear hbad
    go_enter Tryd.func6, Tryd.ntmps6
    go_wp2_with (first
      | (go_at_call 18; (with_reducible refine (HT0).mono ?_); rintro e w1 ⟨rfl, hD1, hF1⟩; have hQ1 := hQ0.call hF1 hD1; have g2 := hQ1.v.g2; have gf := hQ1.v.f)
      | (go_at_call 19; (with_reducible refine (HSH.out _ (hQ1.v2 true).d ((hQ1.v2 true).tabs hT)).mono ?_); rintro e w2 hh; obtain ⟨rfl, hD2, hF2⟩ := hh.1 t q HOK.out; have hQ2 := (hQ1.v2 true).call hF2 hD2; clear g2 gf; have g0 := hQ2.v.g0; have g1 := hQ2.v.g1; have g2 := hQ2.v.g2; have g3 := hQ2.v.g3; have g4 := hQ2.v.g4; have g5 := hQ2.v.g5; have g6 := hQ2.v.g6; have g7 := hQ2.v.g7; have g8 := hQ2.v.g8; have g9 := hQ2.v.g9; have g10 := hQ2.v.g10; have g11 := hQ2.v.g11; have gf := hQ2.v.f; have d0 := hQ2.d.c0; have d1 := hQ2.d.c1; have d2 := hQ2.d.c2; have d3 := hQ2.d.c3)
      | (go_at_call 21; (with_reducible refine (HCO.out _ (hQ2.v0 t).d).mono ?_); rintro e w4 hh; obtain ⟨rfl, hD4, hF4⟩ := hh.1 (r, c, x, y) z HPT.out; have hQ4 := (hQ2.v0 t).call hF4 hD4; clear g0 g1 g2 g3 g4 g5 g6 g7 g8 g9 g10 g11 gf; clear d0 d1 d2 d3; have g0 := hQ4.v.g0; have g1 := hQ4.v.g1; have g2 := hQ4.v.g2; have g3 := hQ4.v.g3; have g4 := hQ4.v.g4; have g5 := hQ4.v.g5; have g6 := hQ4.v.g6; have g7 := hQ4.v.g7; have g8 := hQ4.v.g8; have g9 := hQ4.v.g9; have g10 := hQ4.v.g10; have g11 := hQ4.v.g11; have gf := hQ4.v.f)
      | (go_at_call 18; (with_reducible refine (HT5.out _ ((((hQ4.v4 (r : Int)).v5 (c : Int)).v6 x).v7 y).d).mono ?_); rintro e w5 ⟨rfl, hD5, hF5⟩; have hQ5 := ((((hQ4.v4 (r : Int)).v5 (c : Int)).v6 x).v7 y).call hF5 hD5; clear g0 g1 g2 g3 g4 g5 g6 g7 g8 g9 g10 g11 gf; have d0 := hQ5.d.c0; have d1 := hQ5.d.c1; have d2 := hQ5.d.c2; have d3 := hQ5.d.c3; have a0 := hQ5.a.g0; have a1 := hQ5.a.g1; have a2 := hQ5.a.g2; have a3 := hQ5.a.g3; have a4 := hQ5.a.g4; have a5 := hQ5.a.g5; have a6 := hQ5.a.g6; have a7 := hQ5.a.g7; have a8 := hQ5.a.g8; have a9 := hQ5.a.g9; have a10 := hQ5.a.g10; have a11 := hQ5.a.g11; have af := hQ5.a.f; have g0 := hQ5.v.g0; have g1 := hQ5.v.g1; have g2 := hQ5.v.g2; have g3 := hQ5.v.g3; have g4 := hQ5.v.g4; have g5 := hQ5.v.g5; have g6 := hQ5.v.g6; have g7 := hQ5.v.g7; have g8 := hQ5.v.g8; have g9 := hQ5.v.g9; have g10 := hQ5.v.g10; have g11 := hQ5.v.g11; have gf := hQ5.v.f)
      | (go_at_call 20; (with_reducible refine (fail_ok (w.heap.size + 1) s z 0 z 110 _ hQ5.d).mono ?_); rintro e w6 ⟨rfl, hD6, hF6⟩; have hQ6 := hQ5.call hF6 hD6; clear d0 d1 d2 d3; clear a0 a1 a2 a3 a4 a5 a6 a7 a8 a9 a10 a11 af; clear g0 g1 g2 g3 g4 g5 g6 g7 g8 g9 g10 g11 gf; have d0 := hQ6.d.c0; have d1 := hQ6.d.c1; have d2 := hQ6.d.c2; have d3 := hQ6.d.c3; have a0 := hQ6.a.g0; have a1 := hQ6.a.g1; have a2 := hQ6.a.g2; have a3 := hQ6.a.g3; have a4 := hQ6.a.g4; have a5 := hQ6.a.g5; have a6 := hQ6.a.g6; have a7 := hQ6.a.g7; have a8 := hQ6.a.g8; have a9 := hQ6.a.g9; have a10 := hQ6.a.g10; have a11 := hQ6.a.g11; have af := hQ6.a.f))
    all_goals
      go_region
      go_wp2_with fail
      first | exact bodyPost_ret (rret3 Tryd.results6 _ _ w.heap.size rfl rfl rfl (((hQ6).a.all ⟨#[]⟩ ⟨#[]⟩ false false 0 0 false false 0 0 false false).fr (Fr.refl noB _).drew id)) rfl ⟨rfl, ((hQ6).f.all (Or.inr (Nat.le_refl _)) ⟨#[]⟩ ⟨#[]⟩ false false 0 0 false false 0 0 false false).drew⟩
set_option maxRecDepth 100000 in
set_option maxHeartbeats 8000000 in
theorem parseD_7 (s : ByteArray) (w : World) (hT : Tabs w) (hz : s.size ≤ 140737488355328) (t : ByteArray) (q : Nat) (fx : Bool) (hfx : isAt s 36 0 = fx) (hs : shA s (past s 36 0) = .ok (t, q)) (hbad : ¬ (fx = true ∧ t.size = 0)) (r c z : Nat) (x y : Bool) (hpt : ptA s q = .ok ((r, c, x, y), z)) (h58 : isAt s 58 z = true) (u : ByteArray) (q2 : Nat) (hs2 : shA s (z + 1) = .ok (u, q2)) (htz : t.size = 0) (hu : ¬ u.size = 0) :
    Calls Tryd.prog 6 #[.string s] w fun r w' => r = .returned (.tuple #[(.agg #[.string ⟨#[]⟩, .string ⟨#[]⟩, .bool false, .bool false, .int .i64 0, .int .i64 0, .bool false, .bool false, .int .i64 0, .int .i64 0, .bool false, .bool false]), .int .i64 ((z + 1 : Nat) : Int), .int .i64 110]) ∧ Fr noB w w' := by
  obtain ⟨W0, hW0, hQ0⟩ := parseD_laid s w
  have hp0 := past_le s 36 0 (Nat.zero_le _)
  have HT0 := takeL_ok (w.heap.size + 1) s 0 0 36 36 rfl W0 hQ0.d hz (Nat.zero_le _)
  have HSH : Hid (∀ W, DAt W (w.heap.size + 1) s (past s 36 0) 0 0 → (∀ W2, Fr (oneB (w.heap.size + 1)) W W2 → Tabs W2) → _) := fun W hW hB => rsheet_any (w.heap.size + 1) s (past s 36 0) 0 W hW hz hp0.2 hB
  have HOK : Hid _ := hs
  have hs1 := shA_le hp0.2 hs
  rw [hfx] at HT0
  have HCO : Hid (∀ W, DAt W (w.heap.size + 1) s q 0 0 → _) := fun W hW => rcorD_any (w.heap.size + 1) s q 0 W hW hz hs1.2.1
  have HPT : Hid _ := hpt
  have hzs := ptA_le hpt
  have HT5 : Hid (∀ W, DAt W (w.heap.size + 1) s z 0 0 → _) := fun W hW => takeL_ok (w.heap.size + 1) s z 0 58 58 rfl W hW hz hzs
  have hzl := isAt_size h58
  rw [h58, show past s 58 z = z + 1 by unfold past; rw [if_pos h58]] at HT5
  have HS2 : Hid (∀ W, DAt W (w.heap.size + 1) s (z + 1) 0 0 → (∀ W2, Fr (oneB (w.heap.size + 1)) W W2 → Tabs W2) → _) := fun W hW hB => rsheet_any (w.heap.size + 1) s (z + 1) 0 W hW hz (by omega) hB
  have HOK2 : Hid _ := hs2
  have hue : u.toList.isEmpty = false := emp_no u (by omega)
  have hte : t.toList.isEmpty = true := emp_yes t htz
  have hdn : ¬ (110 : Int) = 0 := by decide
  have hff : fx = false := by
    cases fx with
    | false => rfl
    | true => exact absurd ⟨rfl, htz⟩ hbad
  subst hff
  generalize past s 36 0 = p0 at *
  clear hs hp0 hfx hpt h58 hs2 hbad htz hu
  go_enter Tryd.func6, Tryd.ntmps6
  go_wp2_with (first
    | (go_at_call 18; (with_reducible refine (HT0).mono ?_); rintro e w1 ⟨rfl, hD1, hF1⟩; have hQ1 := hQ0.call hF1 hD1; have g2 := hQ1.v.g2; have gf := hQ1.v.f)
    | (go_at_call 19; (with_reducible refine (HSH.out _ (hQ1.v2 false).d ((hQ1.v2 false).tabs hT)).mono ?_); rintro e w2 hh; obtain ⟨rfl, hD2, hF2⟩ := hh.1 t q HOK.out; have hQ2 := (hQ1.v2 false).call hF2 hD2; clear g2 gf; have g0 := hQ2.v.g0; have g1 := hQ2.v.g1; have g2 := hQ2.v.g2; have g3 := hQ2.v.g3; have g4 := hQ2.v.g4; have g5 := hQ2.v.g5; have g6 := hQ2.v.g6; have g7 := hQ2.v.g7; have g8 := hQ2.v.g8; have g9 := hQ2.v.g9; have g10 := hQ2.v.g10; have g11 := hQ2.v.g11; have gf := hQ2.v.f; have d0 := hQ2.d.c0; have d1 := hQ2.d.c1; have d2 := hQ2.d.c2; have d3 := hQ2.d.c3)
    | (go_at_call 21; (with_reducible refine (HCO.out _ (hQ2.v0 t).d).mono ?_); rintro e w4 hh; obtain ⟨rfl, hD4, hF4⟩ := hh.1 (r, c, x, y) z HPT.out; have hQ4 := (hQ2.v0 t).call hF4 hD4; clear g0 g1 g2 g3 g4 g5 g6 g7 g8 g9 g10 g11 gf; clear d0 d1 d2 d3; have g0 := hQ4.v.g0; have g1 := hQ4.v.g1; have g2 := hQ4.v.g2; have g3 := hQ4.v.g3; have g4 := hQ4.v.g4; have g5 := hQ4.v.g5; have g6 := hQ4.v.g6; have g7 := hQ4.v.g7; have g8 := hQ4.v.g8; have g9 := hQ4.v.g9; have g10 := hQ4.v.g10; have g11 := hQ4.v.g11; have gf := hQ4.v.f)
    | (go_at_call 18; (with_reducible refine (HT5.out _ ((((hQ4.v4 (r : Int)).v5 (c : Int)).v6 x).v7 y).d).mono ?_); rintro e w5 ⟨rfl, hD5, hF5⟩; have hQ5 := ((((hQ4.v4 (r : Int)).v5 (c : Int)).v6 x).v7 y).call hF5 hD5; clear g0 g1 g2 g3 g4 g5 g6 g7 g8 g9 g10 g11 gf; have d0 := hQ5.d.c0; have d1 := hQ5.d.c1; have d2 := hQ5.d.c2; have d3 := hQ5.d.c3; have a0 := hQ5.a.g0; have a1 := hQ5.a.g1; have a2 := hQ5.a.g2; have a3 := hQ5.a.g3; have a4 := hQ5.a.g4; have a5 := hQ5.a.g5; have a6 := hQ5.a.g6; have a7 := hQ5.a.g7; have a8 := hQ5.a.g8; have a9 := hQ5.a.g9; have a10 := hQ5.a.g10; have a11 := hQ5.a.g11; have af := hQ5.a.f; have g0 := hQ5.v.g0; have g1 := hQ5.v.g1; have g2 := hQ5.v.g2; have g3 := hQ5.v.g3; have g4 := hQ5.v.g4; have g5 := hQ5.v.g5; have g6 := hQ5.v.g6; have g7 := hQ5.v.g7; have g8 := hQ5.v.g8; have g9 := hQ5.v.g9; have g10 := hQ5.v.g10; have g11 := hQ5.v.g11; have gf := hQ5.v.f)
    | (go_at_call 19; (with_reducible refine (HS2.out _ (hQ5.v3 true).d ((hQ5.v3 true).tabs hT)).mono ?_); rintro e w7 hh; obtain ⟨rfl, hD7, hF7⟩ := hh.1 u q2 HOK2.out; have hQ7 := (hQ5.v3 true).call hF7 hD7; clear g0 g1 g2 g3 g4 g5 g6 g7 g8 g9 g10 g11 gf; clear d0 d1 d2 d3; clear a0 a1 a2 a3 a4 a5 a6 a7 a8 a9 a10 a11 af; have g0 := hQ7.v.g0; have g1 := hQ7.v.g1; have g2 := hQ7.v.g2; have g3 := hQ7.v.g3; have g4 := hQ7.v.g4; have g5 := hQ7.v.g5; have g6 := hQ7.v.g6; have g7 := hQ7.v.g7; have g8 := hQ7.v.g8; have g9 := hQ7.v.g9; have g10 := hQ7.v.g10; have g11 := hQ7.v.g11; have gf := hQ7.v.f; have d0 := hQ7.d.c0; have d1 := hQ7.d.c1; have d2 := hQ7.d.c2; have d3 := hQ7.d.c3)
    | (go_at_call 20; (with_reducible refine (failL_ok (w.heap.size + 1) s q2 0 (z + 1) _ (by simp) 110 _ (hQ7.v1 u).d).mono ?_); rintro e w8 ⟨rfl, hD8, hF8⟩; have hQ8 := (hQ7.v1 u).call hF8 hD8; clear g0 g1 g2 g3 g4 g5 g6 g7 g8 g9 g10 g11 gf; clear d0 d1 d2 d3; have g0 := hQ8.v.g0; have g1 := hQ8.v.g1; have g2 := hQ8.v.g2; have g3 := hQ8.v.g3; have g4 := hQ8.v.g4; have g5 := hQ8.v.g5; have g6 := hQ8.v.g6; have g7 := hQ8.v.g7; have g8 := hQ8.v.g8; have g9 := hQ8.v.g9; have g10 := hQ8.v.g10; have g11 := hQ8.v.g11; have gf := hQ8.v.f; have d0 := hQ8.d.c0; have d1 := hQ8.d.c1; have d2 := hQ8.d.c2; have d3 := hQ8.d.c3)
    | (go_at_call 21; (with_reducible refine (rcorD_e (w.heap.size + 1) s q2 (z + 1) _ 110 hQ8.d hdn).mono ?_); rintro e w9 ⟨rfl, hD9, hF9⟩; have hQ9 := hQ8.call hF9 hD9; clear g0 g1 g2 g3 g4 g5 g6 g7 g8 g9 g10 g11 gf; clear d0 d1 d2 d3; have g0 := hQ9.v.g0; have g1 := hQ9.v.g1; have g2 := hQ9.v.g2; have g3 := hQ9.v.g3; have g4 := hQ9.v.g4; have g5 := hQ9.v.g5; have g6 := hQ9.v.g6; have g7 := hQ9.v.g7; have g8 := hQ9.v.g8; have g9 := hQ9.v.g9; have g10 := hQ9.v.g10; have g11 := hQ9.v.g11; have gf := hQ9.v.f; have a0 := hQ9.a.g0; have a1 := hQ9.a.g1; have a2 := hQ9.a.g2; have a3 := hQ9.a.g3; have a4 := hQ9.a.g4; have a5 := hQ9.a.g5; have a6 := hQ9.a.g6; have a7 := hQ9.a.g7; have a8 := hQ9.a.g8; have a9 := hQ9.a.g9; have a10 := hQ9.a.g10; have a11 := hQ9.a.g11; have af := hQ9.a.f; have d0 := hQ9.d.c0; have d1 := hQ9.d.c1; have d2 := hQ9.d.c2; have d3 := hQ9.d.c3)
    | (go_at_call 20; (with_reducible refine (fail_e (w.heap.size + 1) s q2 (z + 1) _ 110 110 _ ((((hQ9.v8 (-1)).v9 0).v10 false).v11 false).d hdn).mono ?_); rintro e w6 ⟨rfl, hD6, hF6⟩; have hQ6 := ((((hQ9.v8 (-1)).v9 0).v10 false).v11 false).call hF6 hD6; clear d0 d1 d2 d3; clear a0 a1 a2 a3 a4 a5 a6 a7 a8 a9 a10 a11 af; have d0 := hQ6.d.c0; have d1 := hQ6.d.c1; have d2 := hQ6.d.c2; have d3 := hQ6.d.c3; have a0 := hQ6.a.g0; have a1 := hQ6.a.g1; have a2 := hQ6.a.g2; have a3 := hQ6.a.g3; have a4 := hQ6.a.g4; have a5 := hQ6.a.g5; have a6 := hQ6.a.g6; have a7 := hQ6.a.g7; have a8 := hQ6.a.g8; have a9 := hQ6.a.g9; have a10 := hQ6.a.g10; have a11 := hQ6.a.g11; have af := hQ6.a.f))
  all_goals
    go_region
    go_wp2_with fail
    first | exact bodyPost_ret (rret3 Tryd.results6 _ _ w.heap.size rfl rfl rfl (((hQ6).a.all ⟨#[]⟩ ⟨#[]⟩ false false 0 0 false false 0 0 false false).fr (Fr.refl noB _).drew id)) rfl ⟨rfl, ((hQ6).f.all (Or.inr (Nat.le_refl _)) ⟨#[]⟩ ⟨#[]⟩ false false 0 0 false false 0 0 false false).drew⟩ | exact bodyPost_ret (rret3 Tryd.results6 _ _ w.heap.size rfl rfl rfl (((((((hQ9.v8 (-1)).v9 0).v10 false).v11 false)).a.all ⟨#[]⟩ ⟨#[]⟩ false false 0 0 false false 0 0 false false).fr (Fr.refl noB _).drew id)) rfl ⟨rfl, ((((((hQ9.v8 (-1)).v9 0).v10 false).v11 false)).f.all (Or.inr (Nat.le_refl _)) ⟨#[]⟩ ⟨#[]⟩ false false 0 0 false false 0 0 false false).drew⟩
end Go.Proofs.YtiokbpknaldbaaaDoor
