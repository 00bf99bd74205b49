/- Text of any float: the document's. -/
import Derived.Test.YtjlmhbdpfncgkaaGreatDoorXTxQ
namespace Go.Proofs.YtjlmhbdpfncgkaaGreatDoor
open Go.RowKit Ieee Go.Shelf

theorem baL_sz (L : List UInt8) {n : Nat} (h : L.length ≤ n) : (baL L).size ≤ n := by rw [baL_size]; exact h
set_option maxRecDepth 100000 in
set_option maxHeartbeats 4000000 in
theorem rtext_any (x : Nat) (w : World) (hx : x < 18446744073709551616) (hT : NTab w) :
    Calls Tryz.prog 6 #[.float .f64 x] w fun e w' => e = .returned (.tuple #[.string (baL (ttL x)), .int .i64 (dgN x)]) ∧ Fr noB w w' := by
  have HD := rdigits_any x w hx hT
  cases hf : finB x with
  | false =>
    have hn : dgN x = 80 := by unfold dgN; rw [if_pos hf]
    rw [show ttL x = [] by unfold ttL; rw [if_pos hf], hn]
    rw [hn] at HD
    generalize dgL x = DL at *
    generalize dgE x = DE at *
    clear hT hf hn
    go_enter Tryz.func6, Tryz.ntmps6
    go_wp2_with (go_at_call 8; refine HD.mono ?_; rintro e w1 ⟨rfl, hF1⟩)
    go_ret2
    exact ⟨rfl, hF1⟩
  | true =>
    obtain ⟨f1, f2, f3, f4, f5⟩ := dg_facts x hf
    have hl := lt_zero x hx (fin_of hf)
    rw [f5] at HD ⊢
    rw [show ttL x = sgL x ++ wrL (dgL x) (dgE x) by unfold ttL; rw [if_neg (by simp [hf])]]
    have HI : Hid (∀ W, Fr noB w W → Calls Tryz.prog 15 #[.int .i64 (dgE x - 1)] W fun en w' => en = .returned (.string (baL (Lib.itoa (dgE x - 1)))) ∧ Fr noB W w') := fun W hW => itoaI_any (dgE x - 1) (by omega) (by omega) W (hT.u.fr hW)
    have hlI := itoa_len (dgE x - 1) (by omega) (by omega)
    have HNO := noughts_any
    generalize dgL x = L at *
    generalize dgE x = e at *
    have hzL : (baL L).size = L.length := baL_size L
    clear hT hf f5
    by_cases hs : 9223372036854775808 < x
    · rw [show sgL x = [45] by unfold sgL; rw [if_pos hs]]
      rw [decide_eq_true hs] at hl
      clear hs
      unfold wrL
      by_cases c1 : e < -5 ∨ 21 < e
      · rw [if_pos c1]
        have q1 : (decide (1 ≤ e) && decide (e ≤ 21)) = false := by simp; omega
        have q3 : (decide (-5 ≤ e) && decide (e ≤ 0)) = false := by simp; omega
        have c1' : e < -5 ∨ 21 < e := c1
        have x1 : (baL L).extract 0 1 = baL (L.take 1) := by rw [baL_cut]; simp
        have x2 : (baL L).extract 1 L.length = baL (L.drop 1) := by rw [baL_cut]; simp
        have a1 : (⟨#[45]⟩ : ByteArray) ++ baL (L.take 1) = baL ([45] ++ L.take 1) := baL_append [45] _
        have z0 := baL_sz (L.take 1) (n := 18) (by rw [List.length_take]; omega)
        have z1 := baL_sz ([45] ++ L.take 1) (n := 20) (by simp; omega)
        have z2 := baL_sz (Lib.itoa (e - 1)) hlI
        by_cases cn : L.length = 1
        · have hemp : (L.drop 1).isEmpty = true := by rw [List.isEmpty_iff]; exact List.drop_of_length_le (by omega)
          rw [if_pos hemp]
          have a2 : baL ([45] ++ L.take 1) ++ ⟨#[69]⟩ = baL ([45] ++ L.take 1 ++ [69]) := baL_append _ [69]
          have a3 : baL ([45] ++ L.take 1 ++ [69]) ++ baL (Lib.itoa (e - 1)) = baL ([45] ++ (L.take 1 ++ 69 :: Lib.itoa (e - 1))) := by rw [baL_append]; simp
          have z3 := baL_sz ([45] ++ L.take 1 ++ [69]) (n := 30) (by simp; omega)
          generalize baL ([45] ++ (L.take 1 ++ 69 :: Lib.itoa (e - 1))) = R3 at *
          generalize baL ([45] ++ L.take 1 ++ [69]) = R2 at *
          generalize baL ([45] ++ L.take 1) = R1 at *
          generalize baL (Lib.itoa (e - 1)) = IB at *
          generalize baL (L.take 1) = D0 at *
          generalize baL (L.drop 1) = D1 at *
          generalize baL (L) = D at *
          rw [cn] at hzL x2
          clear c1 hemp cn f1 f2 hlI HNO
          rcases c1' with c | c
          · go_enter Tryz.func6, Tryz.ntmps6
            go_wp2_with (first | (go_at_call 8; with_reducible refine HD.mono ?_; rintro en w1 ⟨rfl, hF1⟩) | (go_at_call 15; with_reducible refine (HI.out _ hF1).mono ?_; rintro en w3 ⟨rfl, hF3⟩))
            go_ret2
            exact ⟨rfl, hF1.trans hF3⟩
          · go_enter Tryz.func6, Tryz.ntmps6
            go_wp2_with (first | (go_at_call 8; with_reducible refine HD.mono ?_; rintro en w1 ⟨rfl, hF1⟩) | (go_at_call 15; with_reducible refine (HI.out _ hF1).mono ?_; rintro en w3 ⟨rfl, hF3⟩))
            go_ret2
            exact ⟨rfl, hF1.trans hF3⟩
        · have hemp : ¬ (L.drop 1).isEmpty = true := by rw [List.isEmpty_iff]; intro h; have := congrArg List.length h; rw [List.length_drop] at this; simp at this; omega
          rw [if_neg hemp]
          have b1 : (⟨#[46]⟩ : ByteArray) ++ baL (L.drop 1) = baL (46 :: L.drop 1) := baL_append [46] _
          have b2 : baL ([45] ++ L.take 1) ++ baL (46 :: L.drop 1) = baL ([45] ++ (L.take 1 ++ 46 :: L.drop 1)) := by rw [baL_append]; simp
          have a2 : baL ([45] ++ (L.take 1 ++ 46 :: L.drop 1)) ++ ⟨#[69]⟩ = baL ([45] ++ (L.take 1 ++ 46 :: L.drop 1) ++ [69]) := baL_append _ [69]
          have a3 : baL ([45] ++ (L.take 1 ++ 46 :: L.drop 1) ++ [69]) ++ baL (Lib.itoa (e - 1)) = baL ([45] ++ ((L.take 1 ++ 46 :: L.drop 1) ++ 69 :: Lib.itoa (e - 1))) := by rw [baL_append]; simp
          have z3 := baL_sz (L.drop 1) (n := 18) (by rw [List.length_drop]; omega)
          have z4 := baL_sz (46 :: L.drop 1) (n := 20) (by simp; omega)
          have z5 := baL_sz ([45] ++ (L.take 1 ++ 46 :: L.drop 1)) (n := 60) (by simp; omega)
          have z6 := baL_sz ([45] ++ (L.take 1 ++ 46 :: L.drop 1) ++ [69]) (n := 70) (by simp; omega)
          generalize baL ([45] ++ ((L.take 1 ++ 46 :: L.drop 1) ++ 69 :: Lib.itoa (e - 1))) = R5 at *
          generalize baL ([45] ++ (L.take 1 ++ 46 :: L.drop 1) ++ [69]) = R4 at *
          generalize baL ([45] ++ (L.take 1 ++ 46 :: L.drop 1)) = R3 at *
          generalize baL (46 :: L.drop 1) = R2 at *
          generalize baL ([45] ++ L.take 1) = R1 at *
          generalize baL (Lib.itoa (e - 1)) = IB at *
          generalize baL (L.take 1) = D0 at *
          generalize baL (L.drop 1) = D1 at *
          generalize baL (L) = D at *
          have cn2 : 1 < L.length := by omega
          clear c1 hemp cn hlI HNO
          generalize L.length = nl at *
          rcases c1' with c | c
          · go_enter Tryz.func6, Tryz.ntmps6
            go_wp2_with (first | (go_at_call 8; with_reducible refine HD.mono ?_; rintro en w1 ⟨rfl, hF1⟩) | (go_at_call 15; with_reducible refine (HI.out _ hF1).mono ?_; rintro en w3 ⟨rfl, hF3⟩))
            go_ret2
            exact ⟨rfl, hF1.trans hF3⟩
          · go_enter Tryz.func6, Tryz.ntmps6
            go_wp2_with (first | (go_at_call 8; with_reducible refine HD.mono ?_; rintro en w1 ⟨rfl, hF1⟩) | (go_at_call 15; with_reducible refine (HI.out _ hF1).mono ?_; rintro en w3 ⟨rfl, hF3⟩))
            go_ret2
            exact ⟨rfl, hF1.trans hF3⟩
      rw [if_neg c1]
      have d1 : -5 ≤ e := by omega
      have d2 : e ≤ 21 := by omega
      clear c1 HI hlI
      by_cases c2 : e ≤ 0
      · rw [if_pos c2]
        have q1 : (decide (1 ≤ e) && decide (e ≤ 21)) = false := by simp; omega
        have q3 : (decide (-5 ≤ e) && decide (e ≤ 0)) = true := by simp; omega
        obtain ⟨k, rfl⟩ : ∃ k : Nat, e = -(k : Int) := ⟨(-e).toNat, by omega⟩
        have HN2 := HNO (k : Int) (by omega) (by omega)
        rw [show ((k : Int)).toNat = k by omega] at HN2
        rw [show (-(-(k : Int))).toNat = k by omega]
        have hng : -(-(k : Int)) = (k : Int) := by omega
        have a1 : (⟨#[45]⟩ : ByteArray) ++ ⟨#[48, 46]⟩ = baL ([45] ++ [48, 46]) := baL_append [45] [48, 46]
        have a2 : baL ([45] ++ [48, 46]) ++ baL (List.replicate k 48) = baL ([45] ++ [48, 46] ++ List.replicate k 48) := baL_append _ _
        have a3 : baL ([45] ++ [48, 46] ++ List.replicate k 48) ++ baL L = baL ([45] ++ 48 :: 46 :: (List.replicate k 48 ++ L)) := by rw [baL_append]; simp
        have z1 := baL_sz ([45] ++ [48, 46]) (n := 10) (by simp)
        have z2 := baL_sz (List.replicate k (48 : UInt8)) (n := 10) (by simp; omega)
        have z3 := baL_sz ([45] ++ [48, 46] ++ List.replicate k 48) (n := 30) (by simp; omega)
        generalize baL ([45] ++ 48 :: 46 :: (List.replicate k 48 ++ L)) = R3 at *
        generalize baL ([45] ++ [48, 46] ++ List.replicate k 48) = R2 at *
        generalize baL ([45] ++ [48, 46]) = R1 at *
        generalize baL (List.replicate k 48) = NB at *
        generalize baL (L) = D at *
        clear HNO
        generalize L.length = nl at *
        go_enter Tryz.func6, Tryz.ntmps6
        go_wp2_with (first | (go_at_call 8; with_reducible refine HD.mono ?_; rintro en w1 ⟨rfl, hF1⟩) | (go_at_call 14; with_reducible refine (HN2 _).mono ?_; rintro en w2 ⟨rfl, h2⟩; subst h2))
        go_ret2
        exact ⟨rfl, hF1⟩
      rw [if_neg c2]
      obtain ⟨k, rfl⟩ : ∃ k : Nat, e = (k : Int) := ⟨e.toNat, by omega⟩
      have q1 : (decide (1 ≤ (k : Int)) && decide ((k : Int) ≤ 21)) = true := by simp; omega
      have k1 : 1 ≤ k := by omega
      have k2 : k ≤ 21 := by omega
      clear c2 d1 d2
      by_cases c3 : (L.length : Int) ≤ (k : Int)
      · rw [if_pos c3]
        obtain ⟨j, hj⟩ : ∃ j : Nat, k = L.length + j := ⟨k - L.length, by omega⟩
        have HN2 := HNO (j : Int) (by omega) (by omega)
        rw [show ((j : Int)).toNat = j by omega] at HN2
        rw [show ((k : Int) - (L.length : Int)).toNat = j by omega]
        have hsub : (k : Int) - (L.length : Int) = (j : Int) := by omega
        have a1 : (⟨#[45]⟩ : ByteArray) ++ baL L = baL ([45] ++ L) := baL_append [45] L
        have a2 : baL ([45] ++ L) ++ baL (List.replicate j 48) = baL ([45] ++ (L ++ List.replicate j 48)) := by rw [baL_append]; simp
        have z1 := baL_sz ([45] ++ L) (n := 20) (by simp; omega)
        have z2 := baL_sz (List.replicate j (48 : UInt8)) (n := 30) (by simp; omega)
        generalize baL ([45] ++ (L ++ List.replicate j 48)) = R2 at *
        generalize baL ([45] ++ L) = R1 at *
        generalize baL (List.replicate j 48) = NB at *
        generalize baL (L) = D at *
        clear HNO hj
        generalize L.length = nl at *
        go_enter Tryz.func6, Tryz.ntmps6
        go_wp2_with (first | (go_at_call 8; with_reducible refine HD.mono ?_; rintro en w1 ⟨rfl, hF1⟩) | (go_at_call 14; with_reducible refine (HN2 _).mono ?_; rintro en w2 ⟨rfl, h2⟩; subst h2))
        go_ret2
        exact ⟨rfl, hF1⟩
      · rw [if_neg c3, show ((k : Int)).toNat = k by omega]
        have ck : k < L.length := by omega
        have q2 : decide ((L.length : Int) ≤ (k : Int)) = false := by simp; omega
        have x1 : (baL L).extract 0 k = baL (L.take k) := by rw [baL_cut]; simp
        have x2 : (baL L).extract k L.length = baL (L.drop k) := by rw [baL_cut]; simp
        have a1 : (⟨#[45]⟩ : ByteArray) ++ baL (L.take k) = baL ([45] ++ L.take k) := baL_append [45] _
        have a2 : baL ([45] ++ L.take k) ++ ⟨#[46]⟩ = baL ([45] ++ L.take k ++ [46]) := baL_append _ [46]
        have a3 : baL ([45] ++ L.take k ++ [46]) ++ baL (L.drop k) = baL ([45] ++ (L.take k ++ 46 :: L.drop k)) := by rw [baL_append]; simp
        have z0 := baL_sz (L.take k) (n := 18) (by rw [List.length_take]; omega)
        have z1 := baL_sz ([45] ++ L.take k) (n := 20) (by simp; omega)
        have z2 := baL_sz ([45] ++ L.take k ++ [46]) (n := 30) (by simp; omega)
        have z3 := baL_sz (L.drop k) (n := 18) (by rw [List.length_drop]; omega)
        generalize baL ([45] ++ (L.take k ++ 46 :: L.drop k)) = R3 at *
        generalize baL ([45] ++ L.take k ++ [46]) = R2 at *
        generalize baL ([45] ++ L.take k) = R1 at *
        generalize baL (L.take k) = D0 at *
        generalize baL (L.drop k) = D1 at *
        generalize baL (L) = D at *
        clear HNO c3
        generalize L.length = nl at *
        go_enter Tryz.func6, Tryz.ntmps6
        go_wp2_with (first | (go_at_call 8; with_reducible refine HD.mono ?_; rintro en w1 ⟨rfl, hF1⟩))
        go_region
        all_goals
          go_wp2_with fail
          go_ret2
          exact ⟨rfl, by first | exact hF1 | exact hF1.drew⟩
    · rw [show sgL x = [] by unfold sgL; rw [if_neg hs]]
      rw [decide_eq_false hs] at hl
      clear hs
      unfold wrL
      by_cases c1 : e < -5 ∨ 21 < e
      · rw [if_pos c1]
        have q1 : (decide (1 ≤ e) && decide (e ≤ 21)) = false := by simp; omega
        have q3 : (decide (-5 ≤ e) && decide (e ≤ 0)) = false := by simp; omega
        have c1' : e < -5 ∨ 21 < e := c1
        have x1 : (baL L).extract 0 1 = baL (L.take 1) := by rw [baL_cut]; simp
        have x2 : (baL L).extract 1 L.length = baL (L.drop 1) := by rw [baL_cut]; simp
        have a1 : (⟨#[]⟩ : ByteArray) ++ baL (L.take 1) = baL ([] ++ L.take 1) := baL_append [] _
        have z0 := baL_sz (L.take 1) (n := 18) (by rw [List.length_take]; omega)
        have z1 := baL_sz ([] ++ L.take 1) (n := 20) (by simp; omega)
        have z2 := baL_sz (Lib.itoa (e - 1)) hlI
        by_cases cn : L.length = 1
        · have hemp : (L.drop 1).isEmpty = true := by rw [List.isEmpty_iff]; exact List.drop_of_length_le (by omega)
          rw [if_pos hemp]
          have a2 : baL ([] ++ L.take 1) ++ ⟨#[69]⟩ = baL ([] ++ L.take 1 ++ [69]) := baL_append _ [69]
          have a3 : baL ([] ++ L.take 1 ++ [69]) ++ baL (Lib.itoa (e - 1)) = baL ([] ++ (L.take 1 ++ 69 :: Lib.itoa (e - 1))) := by rw [baL_append]; simp
          have z3 := baL_sz ([] ++ L.take 1 ++ [69]) (n := 30) (by simp; omega)
          generalize baL ([] ++ (L.take 1 ++ 69 :: Lib.itoa (e - 1))) = R3 at *
          generalize baL ([] ++ L.take 1 ++ [69]) = R2 at *
          generalize baL ([] ++ L.take 1) = R1 at *
          generalize baL (Lib.itoa (e - 1)) = IB at *
          generalize baL (L.take 1) = D0 at *
          generalize baL (L.drop 1) = D1 at *
          generalize baL (L) = D at *
          rw [cn] at hzL x2
          clear c1 hemp cn f1 f2 hlI HNO
          rcases c1' with c | c
          · go_enter Tryz.func6, Tryz.ntmps6
            go_wp2_with (first | (go_at_call 8; with_reducible refine HD.mono ?_; rintro en w1 ⟨rfl, hF1⟩) | (go_at_call 15; with_reducible refine (HI.out _ hF1).mono ?_; rintro en w3 ⟨rfl, hF3⟩))
            go_ret2
            exact ⟨rfl, hF1.trans hF3⟩
          · go_enter Tryz.func6, Tryz.ntmps6
            go_wp2_with (first | (go_at_call 8; with_reducible refine HD.mono ?_; rintro en w1 ⟨rfl, hF1⟩) | (go_at_call 15; with_reducible refine (HI.out _ hF1).mono ?_; rintro en w3 ⟨rfl, hF3⟩))
            go_ret2
            exact ⟨rfl, hF1.trans hF3⟩
        · have hemp : ¬ (L.drop 1).isEmpty = true := by rw [List.isEmpty_iff]; intro h; have := congrArg List.length h; rw [List.length_drop] at this; simp at this; omega
          rw [if_neg hemp]
          have b1 : (⟨#[46]⟩ : ByteArray) ++ baL (L.drop 1) = baL (46 :: L.drop 1) := baL_append [46] _
          have b2 : baL ([] ++ L.take 1) ++ baL (46 :: L.drop 1) = baL ([] ++ (L.take 1 ++ 46 :: L.drop 1)) := by rw [baL_append]; simp
          have a2 : baL ([] ++ (L.take 1 ++ 46 :: L.drop 1)) ++ ⟨#[69]⟩ = baL ([] ++ (L.take 1 ++ 46 :: L.drop 1) ++ [69]) := baL_append _ [69]
          have a3 : baL ([] ++ (L.take 1 ++ 46 :: L.drop 1) ++ [69]) ++ baL (Lib.itoa (e - 1)) = baL ([] ++ ((L.take 1 ++ 46 :: L.drop 1) ++ 69 :: Lib.itoa (e - 1))) := by rw [baL_append]; simp
          have z3 := baL_sz (L.drop 1) (n := 18) (by rw [List.length_drop]; omega)
          have z4 := baL_sz (46 :: L.drop 1) (n := 20) (by simp; omega)
          have z5 := baL_sz ([] ++ (L.take 1 ++ 46 :: L.drop 1)) (n := 60) (by simp; omega)
          have z6 := baL_sz ([] ++ (L.take 1 ++ 46 :: L.drop 1) ++ [69]) (n := 70) (by simp; omega)
          generalize baL ([] ++ ((L.take 1 ++ 46 :: L.drop 1) ++ 69 :: Lib.itoa (e - 1))) = R5 at *
          generalize baL ([] ++ (L.take 1 ++ 46 :: L.drop 1) ++ [69]) = R4 at *
          generalize baL ([] ++ (L.take 1 ++ 46 :: L.drop 1)) = R3 at *
          generalize baL (46 :: L.drop 1) = R2 at *
          generalize baL ([] ++ L.take 1) = R1 at *
          generalize baL (Lib.itoa (e - 1)) = IB at *
          generalize baL (L.take 1) = D0 at *
          generalize baL (L.drop 1) = D1 at *
          generalize baL (L) = D at *
          have cn2 : 1 < L.length := by omega
          clear c1 hemp cn hlI HNO
          generalize L.length = nl at *
          rcases c1' with c | c
          · go_enter Tryz.func6, Tryz.ntmps6
            go_wp2_with (first | (go_at_call 8; with_reducible refine HD.mono ?_; rintro en w1 ⟨rfl, hF1⟩) | (go_at_call 15; with_reducible refine (HI.out _ hF1).mono ?_; rintro en w3 ⟨rfl, hF3⟩))
            go_ret2
            exact ⟨rfl, hF1.trans hF3⟩
          · go_enter Tryz.func6, Tryz.ntmps6
            go_wp2_with (first | (go_at_call 8; with_reducible refine HD.mono ?_; rintro en w1 ⟨rfl, hF1⟩) | (go_at_call 15; with_reducible refine (HI.out _ hF1).mono ?_; rintro en w3 ⟨rfl, hF3⟩))
            go_ret2
            exact ⟨rfl, hF1.trans hF3⟩
      rw [if_neg c1]
      have d1 : -5 ≤ e := by omega
      have d2 : e ≤ 21 := by omega
      clear c1 HI hlI
      by_cases c2 : e ≤ 0
      · rw [if_pos c2]
        have q1 : (decide (1 ≤ e) && decide (e ≤ 21)) = false := by simp; omega
        have q3 : (decide (-5 ≤ e) && decide (e ≤ 0)) = true := by simp; omega
        obtain ⟨k, rfl⟩ : ∃ k : Nat, e = -(k : Int) := ⟨(-e).toNat, by omega⟩
        have HN2 := HNO (k : Int) (by omega) (by omega)
        rw [show ((k : Int)).toNat = k by omega] at HN2
        rw [show (-(-(k : Int))).toNat = k by omega]
        have hng : -(-(k : Int)) = (k : Int) := by omega
        have a1 : (⟨#[]⟩ : ByteArray) ++ ⟨#[48, 46]⟩ = baL ([] ++ [48, 46]) := baL_append [] [48, 46]
        have a2 : baL ([] ++ [48, 46]) ++ baL (List.replicate k 48) = baL ([] ++ [48, 46] ++ List.replicate k 48) := baL_append _ _
        have a3 : baL ([] ++ [48, 46] ++ List.replicate k 48) ++ baL L = baL ([] ++ 48 :: 46 :: (List.replicate k 48 ++ L)) := by rw [baL_append]; simp
        have z1 := baL_sz ([] ++ [48, 46]) (n := 10) (by simp)
        have z2 := baL_sz (List.replicate k (48 : UInt8)) (n := 10) (by simp; omega)
        have z3 := baL_sz ([] ++ [48, 46] ++ List.replicate k 48) (n := 30) (by simp; omega)
        generalize baL ([] ++ 48 :: 46 :: (List.replicate k 48 ++ L)) = R3 at *
        generalize baL ([] ++ [48, 46] ++ List.replicate k 48) = R2 at *
        generalize baL ([] ++ [48, 46]) = R1 at *
        generalize baL (List.replicate k 48) = NB at *
        generalize baL (L) = D at *
        clear HNO
        generalize L.length = nl at *
        go_enter Tryz.func6, Tryz.ntmps6
        go_wp2_with (first | (go_at_call 8; with_reducible refine HD.mono ?_; rintro en w1 ⟨rfl, hF1⟩) | (go_at_call 14; with_reducible refine (HN2 _).mono ?_; rintro en w2 ⟨rfl, h2⟩; subst h2))
        go_ret2
        exact ⟨rfl, hF1⟩
      rw [if_neg c2]
      obtain ⟨k, rfl⟩ : ∃ k : Nat, e = (k : Int) := ⟨e.toNat, by omega⟩
      have q1 : (decide (1 ≤ (k : Int)) && decide ((k : Int) ≤ 21)) = true := by simp; omega
      have k1 : 1 ≤ k := by omega
      have k2 : k ≤ 21 := by omega
      clear c2 d1 d2
      by_cases c3 : (L.length : Int) ≤ (k : Int)
      · rw [if_pos c3]
        obtain ⟨j, hj⟩ : ∃ j : Nat, k = L.length + j := ⟨k - L.length, by omega⟩
        have HN2 := HNO (j : Int) (by omega) (by omega)
        rw [show ((j : Int)).toNat = j by omega] at HN2
        rw [show ((k : Int) - (L.length : Int)).toNat = j by omega]
        have hsub : (k : Int) - (L.length : Int) = (j : Int) := by omega
        have a1 : (⟨#[]⟩ : ByteArray) ++ baL L = baL ([] ++ L) := baL_append [] L
        have a2 : baL ([] ++ L) ++ baL (List.replicate j 48) = baL ([] ++ (L ++ List.replicate j 48)) := by rw [baL_append]; simp
        have z1 := baL_sz ([] ++ L) (n := 20) (by simp; omega)
        have z2 := baL_sz (List.replicate j (48 : UInt8)) (n := 30) (by simp; omega)
        generalize baL ([] ++ (L ++ List.replicate j 48)) = R2 at *
        generalize baL ([] ++ L) = R1 at *
        generalize baL (List.replicate j 48) = NB at *
        generalize baL (L) = D at *
        clear HNO hj
        generalize L.length = nl at *
        go_enter Tryz.func6, Tryz.ntmps6
        go_wp2_with (first | (go_at_call 8; with_reducible refine HD.mono ?_; rintro en w1 ⟨rfl, hF1⟩) | (go_at_call 14; with_reducible refine (HN2 _).mono ?_; rintro en w2 ⟨rfl, h2⟩; subst h2))
        go_ret2
        exact ⟨rfl, hF1⟩
      · rw [if_neg c3, show ((k : Int)).toNat = k by omega]
        have ck : k < L.length := by omega
        have q2 : decide ((L.length : Int) ≤ (k : Int)) = false := by simp; omega
        have x1 : (baL L).extract 0 k = baL (L.take k) := by rw [baL_cut]; simp
        have x2 : (baL L).extract k L.length = baL (L.drop k) := by rw [baL_cut]; simp
        have a1 : (⟨#[]⟩ : ByteArray) ++ baL (L.take k) = baL ([] ++ L.take k) := baL_append [] _
        have a2 : baL ([] ++ L.take k) ++ ⟨#[46]⟩ = baL ([] ++ L.take k ++ [46]) := baL_append _ [46]
        have a3 : baL ([] ++ L.take k ++ [46]) ++ baL (L.drop k) = baL ([] ++ (L.take k ++ 46 :: L.drop k)) := by rw [baL_append]; simp
        have z0 := baL_sz (L.take k) (n := 18) (by rw [List.length_take]; omega)
        have z1 := baL_sz ([] ++ L.take k) (n := 20) (by simp; omega)
        have z2 := baL_sz ([] ++ L.take k ++ [46]) (n := 30) (by simp; omega)
        have z3 := baL_sz (L.drop k) (n := 18) (by rw [List.length_drop]; omega)
        generalize baL ([] ++ (L.take k ++ 46 :: L.drop k)) = R3 at *
        generalize baL ([] ++ L.take k ++ [46]) = R2 at *
        generalize baL ([] ++ L.take k) = R1 at *
        generalize baL (L.take k) = D0 at *
        generalize baL (L.drop k) = D1 at *
        generalize baL (L) = D at *
        clear HNO c3
        generalize L.length = nl at *
        go_enter Tryz.func6, Tryz.ntmps6
        go_wp2_with (first | (go_at_call 8; with_reducible refine HD.mono ?_; rintro en w1 ⟨rfl, hF1⟩))
        go_region
        all_goals
          go_wp2_with fail
          go_ret2
          exact ⟨rfl, by first | exact hF1 | exact hF1.drew⟩
#print axioms rtext_any
end Go.Proofs.YtjlmhbdpfncgkaaGreatDoor
