/- The document's Parse, case by case (the first sheet, the first corner). -/
import Derived.Test.YtiokbpknaldbaaaDoorRDp0
namespace Go.Proofs.YtiokbpknaldbaaaDoor
open Go.RowKit Go.Shelf

set_option maxRecDepth 100000 in
set_option maxHeartbeats 8000000 in
theorem parseD_1 (s : ByteArray) (w : World) (hT : Tabs w) (hz : s.size ≤ 140737488355328) (a : Nat) (d : Int) (hs : shA s (past s 36 0) = .error (a, d)) :
    Calls Tryd.prog 6 #[.string s] w fun r w' => r = .returned (.tuple #[(.agg #[.string ⟨#[]⟩, .string ⟨#[]⟩, .bool false, .bool false, .int .i64 0, .int .i64 0, .bool false, .bool false, .int .i64 0, .int .i64 0, .bool false, .bool false]), .int .i64 (a : Int), .int .i64 d]) ∧ Fr noB w w' := by
  obtain ⟨W0, hW0, hQ0⟩ := parseD_laid s w
  have hp0 := past_le s 36 0 (Nat.zero_le _)
  have HT0 := takeL_ok (w.heap.size + 1) s 0 0 36 36 rfl W0 hQ0.d hz (Nat.zero_le _)
  have HSH : Hid (∀ W, DAt W (w.heap.size + 1) s (past s 36 0) 0 0 → (∀ W2, Fr (oneB (w.heap.size + 1)) W W2 → Tabs W2) → _) := fun W hW hB => rsheet_any (w.heap.size + 1) s (past s 36 0) 0 W hW hz hp0.2 hB
  have HER : Hid _ := hs
  generalize isAt s 36 0 = fx at *
  generalize past s 36 0 = p0 at *
  clear hs hp0
  cases fx with
  | false =>
    go_enter Tryd.func6, Tryd.ntmps6
    go_wp2_with (first
      | (go_at_call 18; (with_reducible refine (HT0).mono ?_); rintro e w1 ⟨rfl, hD1, hF1⟩; have hQ1 := hQ0.call hF1 hD1; have g2 := hQ1.v.g2; have gf := hQ1.v.f)
      | (go_at_call 19; (with_reducible refine (HSH.out _ (hQ1.v2 false).d ((hQ1.v2 false).tabs hT)).mono ?_); rintro e w2 hh; obtain ⟨t, q, rfl, hdn, hqs, hD2, hF2⟩ := hh.2 a d HER.out; have hd2 : (d != 0) = true := (by simpa using hdn); have hQ2 := (hQ1.v2 false).call hF2 hD2; clear g2 gf; have g0 := hQ2.v.g0; have g1 := hQ2.v.g1; have g2 := hQ2.v.g2; have g3 := hQ2.v.g3; have g4 := hQ2.v.g4; have g5 := hQ2.v.g5; have g6 := hQ2.v.g6; have g7 := hQ2.v.g7; have g8 := hQ2.v.g8; have g9 := hQ2.v.g9; have g10 := hQ2.v.g10; have g11 := hQ2.v.g11; have gf := hQ2.v.f; have d0 := hQ2.d.c0; have d1 := hQ2.d.c1; have d2 := hQ2.d.c2; have d3 := hQ2.d.c3)
      | (go_at_call 21; (with_reducible refine (rcorD_e (w.heap.size + 1) s q a _ d (hQ2.v0 t).d hdn).mono ?_); rintro e w4 ⟨rfl, hD4, hF4⟩; have hQ4 := (hQ2.v0 t).call hF4 hD4; clear g0 g1 g2 g3 g4 g5 g6 g7 g8 g9 g10 g11 gf; clear d0 d1 d2 d3; have g0 := hQ4.v.g0; have g1 := hQ4.v.g1; have g2 := hQ4.v.g2; have g3 := hQ4.v.g3; have g4 := hQ4.v.g4; have g5 := hQ4.v.g5; have g6 := hQ4.v.g6; have g7 := hQ4.v.g7; have g8 := hQ4.v.g8; have g9 := hQ4.v.g9; have g10 := hQ4.v.g10; have g11 := hQ4.v.g11; have gf := hQ4.v.f)
      | (go_at_call 18; (with_reducible refine (takeL_e (w.heap.size + 1) s q a 58 58 rfl d _ ((((hQ4.v4 (-1)).v5 0).v6 false).v7 false).d hdn).mono ?_); rintro e w5 ⟨rfl, hD5, hF5⟩; have hQ5 := ((((hQ4.v4 (-1)).v5 0).v6 false).v7 false).call hF5 hD5; clear g0 g1 g2 g3 g4 g5 g6 g7 g8 g9 g10 g11 gf; have d0 := hQ5.d.c0; have d1 := hQ5.d.c1; have d2 := hQ5.d.c2; have d3 := hQ5.d.c3; have a0 := hQ5.a.g0; have a1 := hQ5.a.g1; have a2 := hQ5.a.g2; have a3 := hQ5.a.g3; have a4 := hQ5.a.g4; have a5 := hQ5.a.g5; have a6 := hQ5.a.g6; have a7 := hQ5.a.g7; have a8 := hQ5.a.g8; have a9 := hQ5.a.g9; have a10 := hQ5.a.g10; have a11 := hQ5.a.g11; have af := hQ5.a.f)
      | (go_at_call 20; (with_reducible refine (fail_e (w.heap.size + 1) s q a _ 110 d _ hQ5.d hdn).mono ?_); rintro e w6 ⟨rfl, hD6, hF6⟩; have hQ6 := hQ5.call hF6 hD6; clear d0 d1 d2 d3; clear a0 a1 a2 a3 a4 a5 a6 a7 a8 a9 a10 a11 af; have d0 := hQ6.d.c0; have d1 := hQ6.d.c1; have d2 := hQ6.d.c2; have d3 := hQ6.d.c3; have a0 := hQ6.a.g0; have a1 := hQ6.a.g1; have a2 := hQ6.a.g2; have a3 := hQ6.a.g3; have a4 := hQ6.a.g4; have a5 := hQ6.a.g5; have a6 := hQ6.a.g6; have a7 := hQ6.a.g7; have a8 := hQ6.a.g8; have a9 := hQ6.a.g9; have a10 := hQ6.a.g10; have a11 := hQ6.a.g11; have af := hQ6.a.f))
    all_goals
      go_region
      go_wp2_with fail
      first | exact bodyPost_ret (rret3 Tryd.results6 _ _ w.heap.size rfl rfl rfl (((hQ6).a.all ⟨#[]⟩ ⟨#[]⟩ false false 0 0 false false 0 0 false false).fr (Fr.refl noB _).drew id)) rfl ⟨rfl, ((hQ6).f.all (Or.inr (Nat.le_refl _)) ⟨#[]⟩ ⟨#[]⟩ false false 0 0 false false 0 0 false false).drew⟩ | exact bodyPost_ret (rret3 Tryd.results6 _ _ w.heap.size rfl rfl rfl (((hQ5).a.all ⟨#[]⟩ ⟨#[]⟩ false false 0 0 false false 0 0 false false).fr (Fr.refl noB _).drew id)) rfl ⟨rfl, ((hQ5).f.all (Or.inr (Nat.le_refl _)) ⟨#[]⟩ ⟨#[]⟩ false false 0 0 false false 0 0 false false).drew⟩
  | true =>
    go_enter Tryd.func6, Tryd.ntmps6
    go_wp2_with (first
      | (go_at_call 18; (with_reducible refine (HT0).mono ?_); rintro e w1 ⟨rfl, hD1, hF1⟩; have hQ1 := hQ0.call hF1 hD1; have g2 := hQ1.v.g2; have gf := hQ1.v.f)
      | (go_at_call 19; (with_reducible refine (HSH.out _ (hQ1.v2 true).d ((hQ1.v2 true).tabs hT)).mono ?_); rintro e w2 hh; obtain ⟨t, q, rfl, hdn, hqs, hD2, hF2⟩ := hh.2 a d HER.out; have hd2 : (d != 0) = true := (by simpa using hdn); have hQ2 := (hQ1.v2 true).call hF2 hD2; clear g2 gf; have g0 := hQ2.v.g0; have g1 := hQ2.v.g1; have g2 := hQ2.v.g2; have g3 := hQ2.v.g3; have g4 := hQ2.v.g4; have g5 := hQ2.v.g5; have g6 := hQ2.v.g6; have g7 := hQ2.v.g7; have g8 := hQ2.v.g8; have g9 := hQ2.v.g9; have g10 := hQ2.v.g10; have g11 := hQ2.v.g11; have gf := hQ2.v.f; have d0 := hQ2.d.c0; have d1 := hQ2.d.c1; have d2 := hQ2.d.c2; have d3 := hQ2.d.c3)
      | (go_at_call 20; (with_reducible refine (fail_e (w.heap.size + 1) s q a _ 110 d _ (hQ2.v0 t).d hdn).mono ?_); rintro e w3 ⟨rfl, hD3, hF3⟩; have hQ3 := (hQ2.v0 t).call hF3 hD3; clear g0 g1 g2 g3 g4 g5 g6 g7 g8 g9 g10 g11 gf; clear d0 d1 d2 d3; have g0 := hQ3.v.g0; have g1 := hQ3.v.g1; have g2 := hQ3.v.g2; have g3 := hQ3.v.g3; have g4 := hQ3.v.g4; have g5 := hQ3.v.g5; have g6 := hQ3.v.g6; have g7 := hQ3.v.g7; have g8 := hQ3.v.g8; have g9 := hQ3.v.g9; have g10 := hQ3.v.g10; have g11 := hQ3.v.g11; have gf := hQ3.v.f; have d0 := hQ3.d.c0; have d1 := hQ3.d.c1; have d2 := hQ3.d.c2; have d3 := hQ3.d.c3)
      | (go_at_call 21; (with_reducible refine (rcorD_e (w.heap.size + 1) s q a _ d hQ3.d hdn).mono ?_); rintro e w4 ⟨rfl, hD4, hF4⟩; have hQ4 := hQ3.call hF4 hD4; clear g0 g1 g2 g3 g4 g5 g6 g7 g8 g9 g10 g11 gf; clear d0 d1 d2 d3; have g0 := hQ4.v.g0; have g1 := hQ4.v.g1; have g2 := hQ4.v.g2; have g3 := hQ4.v.g3; have g4 := hQ4.v.g4; have g5 := hQ4.v.g5; have g6 := hQ4.v.g6; have g7 := hQ4.v.g7; have g8 := hQ4.v.g8; have g9 := hQ4.v.g9; have g10 := hQ4.v.g10; have g11 := hQ4.v.g11; have gf := hQ4.v.f)
      | (go_at_call 21; (with_reducible refine (rcorD_e (w.heap.size + 1) s q a _ d (hQ2.v0 t).d hdn).mono ?_); rintro e w4 ⟨rfl, hD4, hF4⟩; have hQ4 := (hQ2.v0 t).call hF4 hD4; clear g0 g1 g2 g3 g4 g5 g6 g7 g8 g9 g10 g11 gf; clear d0 d1 d2 d3; have g0 := hQ4.v.g0; have g1 := hQ4.v.g1; have g2 := hQ4.v.g2; have g3 := hQ4.v.g3; have g4 := hQ4.v.g4; have g5 := hQ4.v.g5; have g6 := hQ4.v.g6; have g7 := hQ4.v.g7; have g8 := hQ4.v.g8; have g9 := hQ4.v.g9; have g10 := hQ4.v.g10; have g11 := hQ4.v.g11; have gf := hQ4.v.f)
      | (go_at_call 18; (with_reducible refine (takeL_e (w.heap.size + 1) s q a 58 58 rfl d _ ((((hQ4.v4 (-1)).v5 0).v6 false).v7 false).d hdn).mono ?_); rintro e w5 ⟨rfl, hD5, hF5⟩; have hQ5 := ((((hQ4.v4 (-1)).v5 0).v6 false).v7 false).call hF5 hD5; clear g0 g1 g2 g3 g4 g5 g6 g7 g8 g9 g10 g11 gf; have d0 := hQ5.d.c0; have d1 := hQ5.d.c1; have d2 := hQ5.d.c2; have d3 := hQ5.d.c3; have a0 := hQ5.a.g0; have a1 := hQ5.a.g1; have a2 := hQ5.a.g2; have a3 := hQ5.a.g3; have a4 := hQ5.a.g4; have a5 := hQ5.a.g5; have a6 := hQ5.a.g6; have a7 := hQ5.a.g7; have a8 := hQ5.a.g8; have a9 := hQ5.a.g9; have a10 := hQ5.a.g10; have a11 := hQ5.a.g11; have af := hQ5.a.f)
      | (go_at_call 20; (with_reducible refine (fail_e (w.heap.size + 1) s q a _ 110 d _ hQ5.d hdn).mono ?_); rintro e w6 ⟨rfl, hD6, hF6⟩; have hQ6 := hQ5.call hF6 hD6; clear d0 d1 d2 d3; clear a0 a1 a2 a3 a4 a5 a6 a7 a8 a9 a10 a11 af; have d0 := hQ6.d.c0; have d1 := hQ6.d.c1; have d2 := hQ6.d.c2; have d3 := hQ6.d.c3; have a0 := hQ6.a.g0; have a1 := hQ6.a.g1; have a2 := hQ6.a.g2; have a3 := hQ6.a.g3; have a4 := hQ6.a.g4; have a5 := hQ6.a.g5; have a6 := hQ6.a.g6; have a7 := hQ6.a.g7; have a8 := hQ6.a.g8; have a9 := hQ6.a.g9; have a10 := hQ6.a.g10; have a11 := hQ6.a.g11; have af := hQ6.a.f))
    all_goals
      go_region
      go_wp2_with fail
      first | exact bodyPost_ret (rret3 Tryd.results6 _ _ w.heap.size rfl rfl rfl (((hQ6).a.all ⟨#[]⟩ ⟨#[]⟩ false false 0 0 false false 0 0 false false).fr (Fr.refl noB _).drew id)) rfl ⟨rfl, ((hQ6).f.all (Or.inr (Nat.le_refl _)) ⟨#[]⟩ ⟨#[]⟩ false false 0 0 false false 0 0 false false).drew⟩ | exact bodyPost_ret (rret3 Tryd.results6 _ _ w.heap.size rfl rfl rfl (((hQ5).a.all ⟨#[]⟩ ⟨#[]⟩ false false 0 0 false false 0 0 false false).fr (Fr.refl noB _).drew id)) rfl ⟨rfl, ((hQ5).f.all (Or.inr (Nat.le_refl _)) ⟨#[]⟩ ⟨#[]⟩ false false 0 0 false false 0 0 false false).drew⟩
set_option maxRecDepth 100000 in
set_option maxHeartbeats 8000000 in
theorem parseD_2 (s : ByteArray) (w : World) (hT : Tabs w) (hz : s.size ≤ 140737488355328) (q : Nat) (h36 : isAt s 36 0 = true) (hs : shA s (past s 36 0) = .ok (⟨#[]⟩, q)) :
    Calls Tryd.prog 6 #[.string s] w fun r w' => r = .returned (.tuple #[(.agg #[.string ⟨#[]⟩, .string ⟨#[]⟩, .bool false, .bool false, .int .i64 0, .int .i64 0, .bool false, .bool false, .int .i64 0, .int .i64 0, .bool false, .bool false]), .int .i64 (q : Int), .int .i64 110]) ∧ Fr noB w w' := by
  obtain ⟨W0, hW0, hQ0⟩ := parseD_laid s w
  have hp0 := past_le s 36 0 (Nat.zero_le _)
  have HT0 := takeL_ok (w.heap.size + 1) s 0 0 36 36 rfl W0 hQ0.d hz (Nat.zero_le _)
  have HSH : Hid (∀ W, DAt W (w.heap.size + 1) s (past s 36 0) 0 0 → (∀ W2, Fr (oneB (w.heap.size + 1)) W W2 → Tabs W2) → _) := fun W hW hB => rsheet_any (w.heap.size + 1) s (past s 36 0) 0 W hW hz hp0.2 hB
  have HOK : Hid _ := hs
  rw [h36] at HT0
  generalize past s 36 0 = p0 at *
  clear hs hp0 h36
  have hdn : ¬ (110 : Int) = 0 := by decide
  go_enter Tryd.func6, Tryd.ntmps6
  go_wp2_with (first
    | (go_at_call 18; (with_reducible refine (HT0).mono ?_); rintro e w1 ⟨rfl, hD1, hF1⟩; have hQ1 := hQ0.call hF1 hD1; have g2 := hQ1.v.g2; have gf := hQ1.v.f)
    | (go_at_call 19; (with_reducible refine (HSH.out _ (hQ1.v2 true).d ((hQ1.v2 true).tabs hT)).mono ?_); rintro e w2 hh; obtain ⟨rfl, hD2, hF2⟩ := hh.1 ⟨#[]⟩ q HOK.out; have hQ2 := (hQ1.v2 true).call hF2 hD2; clear g2 gf; have g0 := hQ2.v.g0; have g1 := hQ2.v.g1; have g2 := hQ2.v.g2; have g3 := hQ2.v.g3; have g4 := hQ2.v.g4; have g5 := hQ2.v.g5; have g6 := hQ2.v.g6; have g7 := hQ2.v.g7; have g8 := hQ2.v.g8; have g9 := hQ2.v.g9; have g10 := hQ2.v.g10; have g11 := hQ2.v.g11; have gf := hQ2.v.f; have d0 := hQ2.d.c0; have d1 := hQ2.d.c1; have d2 := hQ2.d.c2; have d3 := hQ2.d.c3)
    | (go_at_call 20; (with_reducible refine (fail_ok (w.heap.size + 1) s q 0 q 110 _ (hQ2.v0 ⟨#[]⟩).d).mono ?_); rintro e w3 ⟨rfl, hD3, hF3⟩; have hQ3 := (hQ2.v0 ⟨#[]⟩).call hF3 hD3; clear g0 g1 g2 g3 g4 g5 g6 g7 g8 g9 g10 g11 gf; clear d0 d1 d2 d3; have g0 := hQ3.v.g0; have g1 := hQ3.v.g1; have g2 := hQ3.v.g2; have g3 := hQ3.v.g3; have g4 := hQ3.v.g4; have g5 := hQ3.v.g5; have g6 := hQ3.v.g6; have g7 := hQ3.v.g7; have g8 := hQ3.v.g8; have g9 := hQ3.v.g9; have g10 := hQ3.v.g10; have g11 := hQ3.v.g11; have gf := hQ3.v.f; have d0 := hQ3.d.c0; have d1 := hQ3.d.c1; have d2 := hQ3.d.c2; have d3 := hQ3.d.c3)
    | (go_at_call 21; (with_reducible refine (rcorD_e (w.heap.size + 1) s q q _ 110 hQ3.d hdn).mono ?_); rintro e w4 ⟨rfl, hD4, hF4⟩; have hQ4 := hQ3.call hF4 hD4; clear g0 g1 g2 g3 g4 g5 g6 g7 g8 g9 g10 g11 gf; clear d0 d1 d2 d3; have g0 := hQ4.v.g0; have g1 := hQ4.v.g1; have g2 := hQ4.v.g2; have g3 := hQ4.v.g3; have g4 := hQ4.v.g4; have g5 := hQ4.v.g5; have g6 := hQ4.v.g6; have g7 := hQ4.v.g7; have g8 := hQ4.v.g8; have g9 := hQ4.v.g9; have g10 := hQ4.v.g10; have g11 := hQ4.v.g11; have gf := hQ4.v.f)
    | (go_at_call 18; (with_reducible refine (takeL_e (w.heap.size + 1) s q q 58 58 rfl 110 _ ((((hQ4.v4 (-1)).v5 0).v6 false).v7 false).d hdn).mono ?_); rintro e w5 ⟨rfl, hD5, hF5⟩; have hQ5 := ((((hQ4.v4 (-1)).v5 0).v6 false).v7 false).call hF5 hD5; clear g0 g1 g2 g3 g4 g5 g6 g7 g8 g9 g10 g11 gf; have d0 := hQ5.d.c0; have d1 := hQ5.d.c1; have d2 := hQ5.d.c2; have d3 := hQ5.d.c3; have a0 := hQ5.a.g0; have a1 := hQ5.a.g1; have a2 := hQ5.a.g2; have a3 := hQ5.a.g3; have a4 := hQ5.a.g4; have a5 := hQ5.a.g5; have a6 := hQ5.a.g6; have a7 := hQ5.a.g7; have a8 := hQ5.a.g8; have a9 := hQ5.a.g9; have a10 := hQ5.a.g10; have a11 := hQ5.a.g11; have af := hQ5.a.f)
    | (go_at_call 20; (with_reducible refine (fail_e (w.heap.size + 1) s q q _ 110 110 _ hQ5.d hdn).mono ?_); rintro e w6 ⟨rfl, hD6, hF6⟩; have hQ6 := hQ5.call hF6 hD6; clear d0 d1 d2 d3; clear a0 a1 a2 a3 a4 a5 a6 a7 a8 a9 a10 a11 af; have d0 := hQ6.d.c0; have d1 := hQ6.d.c1; have d2 := hQ6.d.c2; have d3 := hQ6.d.c3; have a0 := hQ6.a.g0; have a1 := hQ6.a.g1; have a2 := hQ6.a.g2; have a3 := hQ6.a.g3; have a4 := hQ6.a.g4; have a5 := hQ6.a.g5; have a6 := hQ6.a.g6; have a7 := hQ6.a.g7; have a8 := hQ6.a.g8; have a9 := hQ6.a.g9; have a10 := hQ6.a.g10; have a11 := hQ6.a.g11; have af := hQ6.a.f))
  all_goals
    go_region
    go_wp2_with fail
    first | exact bodyPost_ret (rret3 Tryd.results6 _ _ w.heap.size rfl rfl rfl (((hQ6).a.all ⟨#[]⟩ ⟨#[]⟩ false false 0 0 false false 0 0 false false).fr (Fr.refl noB _).drew id)) rfl ⟨rfl, ((hQ6).f.all (Or.inr (Nat.le_refl _)) ⟨#[]⟩ ⟨#[]⟩ false false 0 0 false false 0 0 false false).drew⟩ | exact bodyPost_ret (rret3 Tryd.results6 _ _ w.heap.size rfl rfl rfl (((hQ5).a.all ⟨#[]⟩ ⟨#[]⟩ false false 0 0 false false 0 0 false false).fr (Fr.refl noB _).drew id)) rfl ⟨rfl, ((hQ5).f.all (Or.inr (Nat.le_refl _)) ⟨#[]⟩ ⟨#[]⟩ false false 0 0 false false 0 0 false false).drew⟩
set_option maxRecDepth 100000 in
set_option maxHeartbeats 8000000 in
theorem parseD_3 (s : ByteArray) (w : World) (hT : Tabs w) (hz : s.size ≤ 140737488355328) (t : ByteArray) (q : Nat) (fx : Bool) (hfx : isAt s 36 0 = fx) (hs : shA s (past s 36 0) = .ok (t, q)) (hbad : ¬ (fx = true ∧ t.size = 0)) (a : Nat) (d : Int) (hpt : ptA s q = .error (a, d)) :
    Calls Tryd.prog 6 #[.string s] w fun r w' => r = .returned (.tuple #[(.agg #[.string ⟨#[]⟩, .string ⟨#[]⟩, .bool false, .bool false, .int .i64 0, .int .i64 0, .bool false, .bool false, .int .i64 0, .int .i64 0, .bool false, .bool false]), .int .i64 (a : Int), .int .i64 d]) ∧ Fr noB w w' := by
  obtain ⟨W0, hW0, hQ0⟩ := parseD_laid s w
  have hp0 := past_le s 36 0 (Nat.zero_le _)
  have HT0 := takeL_ok (w.heap.size + 1) s 0 0 36 36 rfl W0 hQ0.d hz (Nat.zero_le _)
  have HSH : Hid (∀ W, DAt W (w.heap.size + 1) s (past s 36 0) 0 0 → (∀ W2, Fr (oneB (w.heap.size + 1)) W W2 → Tabs W2) → _) := fun W hW hB => rsheet_any (w.heap.size + 1) s (past s 36 0) 0 W hW hz hp0.2 hB
  have HOK : Hid _ := hs
  have hs1 := shA_le hp0.2 hs
  rw [hfx] at HT0
  have HCO : Hid (∀ W, DAt W (w.heap.size + 1) s q 0 0 → _) := fun W hW => rcorD_any (w.heap.size + 1) s q 0 W hW hz hs1.2.1
  have HPT : Hid _ := hpt
  generalize past s 36 0 = p0 at *
  clear hs hp0 hfx hpt
  cases fx with
  | false =>
    clear hbad
    go_enter Tryd.func6, Tryd.ntmps6
    go_wp2_with (first
      | (go_at_call 18; (with_reducible refine (HT0).mono ?_); rintro e w1 ⟨rfl, hD1, hF1⟩; have hQ1 := hQ0.call hF1 hD1; have g2 := hQ1.v.g2; have gf := hQ1.v.f)
      | (go_at_call 19; (with_reducible refine (HSH.out _ (hQ1.v2 false).d ((hQ1.v2 false).tabs hT)).mono ?_); rintro e w2 hh; obtain ⟨rfl, hD2, hF2⟩ := hh.1 t q HOK.out; have hQ2 := (hQ1.v2 false).call hF2 hD2; clear g2 gf; have g0 := hQ2.v.g0; have g1 := hQ2.v.g1; have g2 := hQ2.v.g2; have g3 := hQ2.v.g3; have g4 := hQ2.v.g4; have g5 := hQ2.v.g5; have g6 := hQ2.v.g6; have g7 := hQ2.v.g7; have g8 := hQ2.v.g8; have g9 := hQ2.v.g9; have g10 := hQ2.v.g10; have g11 := hQ2.v.g11; have gf := hQ2.v.f; have d0 := hQ2.d.c0; have d1 := hQ2.d.c1; have d2 := hQ2.d.c2; have d3 := hQ2.d.c3)
      | (go_at_call 21; (with_reducible refine (HCO.out _ (hQ2.v0 t).d).mono ?_); rintro e w4 hh; obtain ⟨v1, v2, v3, v4, z, rfl, hdn, hqs, hD4, hF4⟩ := hh.2 a d HPT.out; have hd2 : (d != 0) = true := (by simpa using hdn); have hQ4 := (hQ2.v0 t).call hF4 hD4; clear g0 g1 g2 g3 g4 g5 g6 g7 g8 g9 g10 g11 gf; clear d0 d1 d2 d3; have g0 := hQ4.v.g0; have g1 := hQ4.v.g1; have g2 := hQ4.v.g2; have g3 := hQ4.v.g3; have g4 := hQ4.v.g4; have g5 := hQ4.v.g5; have g6 := hQ4.v.g6; have g7 := hQ4.v.g7; have g8 := hQ4.v.g8; have g9 := hQ4.v.g9; have g10 := hQ4.v.g10; have g11 := hQ4.v.g11; have gf := hQ4.v.f)
      | (go_at_call 18; (with_reducible refine (takeL_e (w.heap.size + 1) s z a 58 58 rfl d _ ((((hQ4.v4 v1).v5 v2).v6 v3).v7 v4).d hdn).mono ?_); rintro e w5 ⟨rfl, hD5, hF5⟩; have hQ5 := ((((hQ4.v4 v1).v5 v2).v6 v3).v7 v4).call hF5 hD5; clear g0 g1 g2 g3 g4 g5 g6 g7 g8 g9 g10 g11 gf; have d0 := hQ5.d.c0; have d1 := hQ5.d.c1; have d2 := hQ5.d.c2; have d3 := hQ5.d.c3; have a0 := hQ5.a.g0; have a1 := hQ5.a.g1; have a2 := hQ5.a.g2; have a3 := hQ5.a.g3; have a4 := hQ5.a.g4; have a5 := hQ5.a.g5; have a6 := hQ5.a.g6; have a7 := hQ5.a.g7; have a8 := hQ5.a.g8; have a9 := hQ5.a.g9; have a10 := hQ5.a.g10; have a11 := hQ5.a.g11; have af := hQ5.a.f)
      | (go_at_call 20; (with_reducible refine (fail_e (w.heap.size + 1) s z a _ 110 d _ hQ5.d hdn).mono ?_); rintro e w6 ⟨rfl, hD6, hF6⟩; have hQ6 := hQ5.call hF6 hD6; clear d0 d1 d2 d3; clear a0 a1 a2 a3 a4 a5 a6 a7 a8 a9 a10 a11 af; have d0 := hQ6.d.c0; have d1 := hQ6.d.c1; have d2 := hQ6.d.c2; have d3 := hQ6.d.c3; have a0 := hQ6.a.g0; have a1 := hQ6.a.g1; have a2 := hQ6.a.g2; have a3 := hQ6.a.g3; have a4 := hQ6.a.g4; have a5 := hQ6.a.g5; have a6 := hQ6.a.g6; have a7 := hQ6.a.g7; have a8 := hQ6.a.g8; have a9 := hQ6.a.g9; have a10 := hQ6.a.g10; have a11 := hQ6.a.g11; have af := hQ6.a.f))
    all_goals
      go_region
      go_wp2_with fail
      first | exact bodyPost_ret (rret3 Tryd.results6 _ _ w.heap.size rfl rfl rfl (((hQ6).a.all ⟨#[]⟩ ⟨#[]⟩ false false 0 0 false false 0 0 false false).fr (Fr.refl noB _).drew id)) rfl ⟨rfl, ((hQ6).f.all (Or.inr (Nat.le_refl _)) ⟨#[]⟩ ⟨#[]⟩ false false 0 0 false false 0 0 false false).drew⟩ | exact bodyPost_ret (rret3 Tryd.results6 _ _ w.heap.size rfl rfl rfl (((hQ5).a.all ⟨#[]⟩ ⟨#[]⟩ false false 0 0 false false 0 0 false false).fr (Fr.refl noB _).drew id)) rfl ⟨rfl, ((hQ5).f.all (Or.inr (Nat.le_refl _)) ⟨#[]⟩ ⟨#[]⟩ false false 0 0 false false 0 0 false false).drew⟩
  | true =>
    have hte : t.toList.isEmpty = false := emp_no t (Nat.pos_of_ne_zero (fun e => hbad ⟨rfl, e⟩))
    clear hbad
    go_enter Tryd.func6, Tryd.ntmps6
    go_wp2_with (first
      | (go_at_call 18; (with_reducible refine (HT0).mono ?_); rintro e w1 ⟨rfl, hD1, hF1⟩; have hQ1 := hQ0.call hF1 hD1; have g2 := hQ1.v.g2; have gf := hQ1.v.f)
      | (go_at_call 19; (with_reducible refine (HSH.out _ (hQ1.v2 true).d ((hQ1.v2 true).tabs hT)).mono ?_); rintro e w2 hh; obtain ⟨rfl, hD2, hF2⟩ := hh.1 t q HOK.out; have hQ2 := (hQ1.v2 true).call hF2 hD2; clear g2 gf; have g0 := hQ2.v.g0; have g1 := hQ2.v.g1; have g2 := hQ2.v.g2; have g3 := hQ2.v.g3; have g4 := hQ2.v.g4; have g5 := hQ2.v.g5; have g6 := hQ2.v.g6; have g7 := hQ2.v.g7; have g8 := hQ2.v.g8; have g9 := hQ2.v.g9; have g10 := hQ2.v.g10; have g11 := hQ2.v.g11; have gf := hQ2.v.f; have d0 := hQ2.d.c0; have d1 := hQ2.d.c1; have d2 := hQ2.d.c2; have d3 := hQ2.d.c3)
      | (go_at_call 21; (with_reducible refine (HCO.out _ (hQ2.v0 t).d).mono ?_); rintro e w4 hh; obtain ⟨v1, v2, v3, v4, z, rfl, hdn, hqs, hD4, hF4⟩ := hh.2 a d HPT.out; have hd2 : (d != 0) = true := (by simpa using hdn); have hQ4 := (hQ2.v0 t).call hF4 hD4; clear g0 g1 g2 g3 g4 g5 g6 g7 g8 g9 g10 g11 gf; clear d0 d1 d2 d3; have g0 := hQ4.v.g0; have g1 := hQ4.v.g1; have g2 := hQ4.v.g2; have g3 := hQ4.v.g3; have g4 := hQ4.v.g4; have g5 := hQ4.v.g5; have g6 := hQ4.v.g6; have g7 := hQ4.v.g7; have g8 := hQ4.v.g8; have g9 := hQ4.v.g9; have g10 := hQ4.v.g10; have g11 := hQ4.v.g11; have gf := hQ4.v.f)
      | (go_at_call 18; (with_reducible refine (takeL_e (w.heap.size + 1) s z a 58 58 rfl d _ ((((hQ4.v4 v1).v5 v2).v6 v3).v7 v4).d hdn).mono ?_); rintro e w5 ⟨rfl, hD5, hF5⟩; have hQ5 := ((((hQ4.v4 v1).v5 v2).v6 v3).v7 v4).call hF5 hD5; clear g0 g1 g2 g3 g4 g5 g6 g7 g8 g9 g10 g11 gf; have d0 := hQ5.d.c0; have d1 := hQ5.d.c1; have d2 := hQ5.d.c2; have d3 := hQ5.d.c3; have a0 := hQ5.a.g0; have a1 := hQ5.a.g1; have a2 := hQ5.a.g2; have a3 := hQ5.a.g3; have a4 := hQ5.a.g4; have a5 := hQ5.a.g5; have a6 := hQ5.a.g6; have a7 := hQ5.a.g7; have a8 := hQ5.a.g8; have a9 := hQ5.a.g9; have a10 := hQ5.a.g10; have a11 := hQ5.a.g11; have af := hQ5.a.f)
      | (go_at_call 20; (with_reducible refine (fail_e (w.heap.size + 1) s z a _ 110 d _ hQ5.d hdn).mono ?_); rintro e w6 ⟨rfl, hD6, hF6⟩; have hQ6 := hQ5.call hF6 hD6; clear d0 d1 d2 d3; clear a0 a1 a2 a3 a4 a5 a6 a7 a8 a9 a10 a11 af; have d0 := hQ6.d.c0; have d1 := hQ6.d.c1; have d2 := hQ6.d.c2; have d3 := hQ6.d.c3; have a0 := hQ6.a.g0; have a1 := hQ6.a.g1; have a2 := hQ6.a.g2; have a3 := hQ6.a.g3; have a4 := hQ6.a.g4; have a5 := hQ6.a.g5; have a6 := hQ6.a.g6; have a7 := hQ6.a.g7; have a8 := hQ6.a.g8; have a9 := hQ6.a.g9; have a10 := hQ6.a.g10; have a11 := hQ6.a.g11; have af := hQ6.a.f))
    all_goals
      go_region
      go_wp2_with fail
      first | exact bodyPost_ret (rret3 Tryd.results6 _ _ w.heap.size rfl rfl rfl (((hQ6).a.all ⟨#[]⟩ ⟨#[]⟩ false false 0 0 false false 0 0 false false).fr (Fr.refl noB _).drew id)) rfl ⟨rfl, ((hQ6).f.all (Or.inr (Nat.le_refl _)) ⟨#[]⟩ ⟨#[]⟩ false false 0 0 false false 0 0 false false).drew⟩ | exact bodyPost_ret (rret3 Tryd.results6 _ _ w.heap.size rfl rfl rfl (((hQ5).a.all ⟨#[]⟩ ⟨#[]⟩ false false 0 0 false false 0 0 false false).fr (Fr.refl noB _).drew id)) rfl ⟨rfl, ((hQ5).f.all (Or.inr (Nat.le_refl _)) ⟨#[]⟩ ⟨#[]⟩ false false 0 0 false false 0 0 false false).drew⟩
end Go.Proofs.YtiokbpknaldbaaaDoor
